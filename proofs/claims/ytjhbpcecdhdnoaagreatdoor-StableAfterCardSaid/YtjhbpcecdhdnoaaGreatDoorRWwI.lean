/-
  slices.Insert of one string ahead of all, by the library's contract.
  A log's struct, built of a disk, a table and a number.
  wal's Begin walked.
-/
import Derived.Test.YtjhbpcecdhdnoaaGreatDoorRWwN
import Derived.Test.YtjhbpcecdhdnoaaGreatDoorRWrBZ
import Derived.Test.YtjhbpcecdhdnoaaGreatDoorRWwW
set_option linter.unusedSimpArgs false
set_option linter.unusedVariables false
namespace Go.Proofs.YtjhbpcecdhdnoaaGreatDoor
open Go.RowKit
theorem lay_out : ∀ (vs : List Value) (k : Nat) (X : Array Value) (j : Nat), (j < k ∨ k + vs.length ≤ j) → (lay X k vs)[j]? = X[j]?
  | [], _, _, _, _ => rfl
  | v :: r, k, X, j, h => by
    rw [lay, lay_out r (k + 1) _ j (by simp at h; omega), Array.getElem?_setIfInBounds]
    rw [if_neg (by simp at h; omega)]
theorem lay_in : ∀ (vs : List Value) (k : Nat) (X : Array Value), k + vs.length ≤ X.size → ∀ j, j < vs.length → (lay X k vs)[k + j]? = vs[j]?
  | [], _, _, _, j, hj => by simp at hj
  | v :: r, k, X, h, 0, _ => by
    rw [lay, lay_out r (k + 1) _ (k + 0) (by omega)]
    simp at h
    simp [Array.getElem?_setIfInBounds]
    omega
  | v :: r, k, X, h, j + 1, hj => by
    have e : k + (j + 1) = (k + 1) + j := by omega
    rw [lay, e, lay_in r (k + 1) _ (by simp at h ⊢; omega) j (by simpa using hj)]
    rfl
theorem lies_row {W : World} {g : Nat} {X : Array Value} {T : TypeId} {fr : Nat × Nat} (h : W.heap[g]? = some (.cells X T fr)) (vs : List Value) (hv : ∀ j, j < vs.length → X[j]? = vs[j]?) : Lies W (some ⟨g, 0, none⟩) vs := by
  refine .inr ⟨g, 0, rfl, (Array.getElem?_eq_some_iff.1 h).1, fun j u hu => ?_⟩
  rw [Nat.zero_add, cell_of_row W g j X T fr h, hv j (List.getElem?_eq_some_iff.1 hu).1]
  exact hu
theorem sc_one (ts : List ByteArray) : ∀ v ∈ sc ts, v.oneCell' = true := fun v hv => by
  obtain ⟨s, _, rfl⟩ := List.mem_map.1 hv; rfl
theorem setCells_os (g : Nat) : ∀ (vs : List Value) (o : Nat) (W : World), (W.setCells g o vs).os = W.os
  | [], _, _ => rfl
  | v :: r, o, W => by rw [World.setCells, setCells_os g r]; rfl
theorem setCells_tape (g : Nat) : ∀ (vs : List Value) (o : Nat) (W : World), (W.setCells g o vs).tape = W.tape
  | [], _, _ => rfl
  | v :: r, o, W => by rw [World.setCells, setCells_tape g r]; rfl
theorem setCells_output (g : Nat) : ∀ (vs : List Value) (o : Nat) (W : World), (W.setCells g o vs).output = W.output
  | [], _, _ => rfl
  | v :: r, o, W => by rw [World.setCells, setCells_output g r]; rfl
theorem setCells_size (g : Nat) : ∀ (vs : List Value) (o : Nat) (W : World), (W.setCells g o vs).heap.size = W.heap.size
  | [], _, _ => rfl
  | v :: r, o, W => by rw [World.setCells, setCells_size g r]; simp
set_option maxHeartbeats 1000000 in
theorem insert_any (w : World) (base : Nat) (B : Option Addr) (cb n : Nat) (ts : List ByteArray) (h : ByteArray) (hown : w.ownsRow base 9 1 (.slice B n cb) n (sc ts)) (hbase : base ≤ w.heap.size) (hn : n ≤ 2000000) :
    Calls Tryz.prog 93 #[.slice B n cb, .int .i64 0, .slice (some ⟨w.heap.size, 0, none⟩) 1 1] (w.alloc (.cells #[.string h] 9)) fun e w' => ∃ C cc, e = .returned (.slice C (n + 1) cc) ∧ Lies w' C (sc (h :: ts)) ∧ (∀ b off, C = some ⟨b, off, none⟩ → base ≤ b) ∧ Ko (fun k => (Value.slice B n cb).ownBlock = some k) w w' := by
  have hlen : (sc ts).length = n := by have := hown.1; omega
  obtain ⟨w1, hw1⟩ : ∃ w1, w1 = w.alloc (.cells #[.string h] 9) := ⟨_, rfl⟩
  have hnew : w1.heap[w.heap.size]? = some (.cells #[.string h] 9 (0, 0)) := by rw [hw1]; exact heap_alloc_new w _
  have hz1 : w1.heap.size = w.heap.size + 1 := by rw [hw1]; simp
  have hb1 : Below w.heap.size w w1 := by rw [hw1]; exact bnew (Below.refl _ _) _
  have hvs : ∀ j v, [Value.string h][j]? = some v → w1.cell? ⟨w.heap.size, 0 + j, none⟩ = some v := fun j v hv => by
    rw [Nat.zero_add, cell_of_row w1 w.heap.size j _ _ _ hnew]
    simpa using hv
  have h1v : ∀ v ∈ [Value.string h], v.oneCell' = true := fun v hv => by rw [List.mem_singleton.1 hv]; rfl
  rw [← hw1]
  have grown : ∀ (B' : Option Addr), n = 0 → cb < 1 → Calls Tryz.prog 93 #[.slice B' n cb, .int .i64 0, .slice (some ⟨w.heap.size, 0, none⟩) 1 1] w1 fun e w' => ∃ C cc, e = .returned (.slice C (n + 1) cc) ∧ Lies w' C (sc (h :: ts)) ∧ (∀ b off, C = some ⟨b, off, none⟩ → base ≤ b) ∧ Ko (fun k => (Value.slice B n cb).ownBlock = some k) w w' := fun B' h0 hc => by
    subst h0
    have hts : ts = [] := by simpa [sc] using List.eq_nil_of_length_eq_zero hlen
    subst hts
    refine (Any2.slices_Insert_string_end_grow ws_lays2_22 B' 0 cb w.heap.size 0 1 1 [] [.string h] w1 (by omega) (Nat.zero_le _) (by omega) (by omega) rfl rfl (fun _ => rfl) (fun a ha j v hj => by simp at hj) hvs h1v).mono ?_
    rintro e w' ⟨rfl, rfl⟩
    refine ⟨_, _, rfl, ?_, fun b off he => ?_, Ko.bel ((below_drew hb1).trans ((bnew (Below.refl _ _) _).mono ?_))⟩
    · refine lies_row (heap_alloc_new w1.drew _) _ fun j hj => ?_
      have hj : j < 1 := by simpa [sc] using hj
      obtain rfl : j = 0 := by omega
      show ((#[] ++ #[Value.string h] : Array Value) ++ _)[0]? = some (Value.string h)
      rw [Array.getElem?_append_left (by simp)]
      rfl
    · cases he; rw [hz1]; omega
    · show w.heap.size ≤ w1.heap.size; rw [hz1]; omega
  rcases hown.2 with ⟨hv, h0⟩ | ⟨g, cap, cur, hv, hg, hr, h1, h2, h3, h4⟩
  · injection hv with _ _ hc
    exact grown B h0 (by omega)
  injection hv with hB _ hc
  subst hB hc
  rw [Nat.mul_one] at h3 h4
  have hgl : g < w.heap.size := (Array.getElem?_eq_some_iff.1 hr).1
  have hr1 : w1.heap[g]? = some (.cells cur 9 (0, 0)) := by rw [hw1]; exact ((bnew (Below.refl w.heap.size w) _).block g hgl).trans hr
  have hcs : ∀ j v, (sc ts)[j]? = some v → w1.cell? ⟨g, 0 + j, none⟩ = some v := fun j v hj => by
    have hjn : j < n := by have := (List.getElem?_eq_some_iff.1 hj).1; omega
    rw [Nat.zero_add, cell_of_row w1 g j _ _ _ hr1]
    rw [← h4, List.getElem?_take_of_lt hjn] at hj
    simpa using hj
  have kset : ∀ {W : World}, Ko (fun k => (Value.slice (some ⟨g, 0, none⟩) n cb).ownBlock = some k) w W → ∀ (o : Nat) (vs : List Value), Ko (fun k => (Value.slice (some ⟨g, 0, none⟩) n cb).ownBlock = some k) w (W.setCells g o vs) := fun h o vs => ⟨by rw [setCells_os]; exact h.os, by rw [setCells_tape]; exact h.tape, by rw [setCells_output]; exact h.output, by rw [setCells_size]; exact h.size, fun k hk hn => (setCells_other (fun he => hn (by rw [he]; rfl)) vs o _).trans (h.block k hk hn)⟩
  have hcap : cb ≤ 9223372036854775807 := by unfold maxLen at h2; omega
  by_cases hroom : n + 1 ≤ cb
  · by_cases h0 : n = 0
    · have hts : ts = [] := by subst h0; simpa [sc] using List.eq_nil_of_length_eq_zero hlen
      subst hts
      subst h0
      refine (Any2.slices_Insert_string_end_room ws_lays2_22 g 0 0 cb w.heap.size 0 1 1 [.string h] w1 (by omega) hroom hcap rfl (fun j hj => ?_) (fun j hj => frozen_of_row w1 g _ _ _ hr1) hvs h1v).mono ?_
      · rw [cell_of_row w1 g _ _ _ _ hr1, Array.getElem?_eq_getElem (by omega)]; rfl
      rintro e w' ⟨rfl, rfl⟩
      refine ⟨_, _, rfl, lies_row (row_setCells _ 0 w1 _ hr1) _ fun j hj => ?_, fun b off he => by cases he; exact hg, kset (Ko.bel hb1) _ _⟩
      have := lay_in [.string h] 0 cur (by simp; omega) j (by simpa [sc] using hj)
      rw [Nat.zero_add] at this
      rw [this]; rfl
    · refine (Any2.slices_Insert_string_shift ws_lays2_22 g 0 n cb 0 w.heap.size 0 1 1 (sc ts) [.string h] w1 (by omega) (by omega) hroom hcap (by omega) hlen rfl hcs (fun j hj => ?_) (fun j hj => frozen_of_row w1 g _ _ _ hr1) hvs (sc_one ts) h1v 9 9 1 cur.size ?_ ?_ (by omega) (frozen_of_row w1 w.heap.size _ _ _ hnew) (frozen_of_row w1 w.heap.size _ _ _ hnew)).mono ?_
      · rw [cell_of_row w1 g _ _ _ _ hr1, Array.getElem?_eq_getElem (by omega)]; rfl
      · unfold World.shape?; rw [hnew]; rfl
      · unfold World.shape?; rw [hr1]
      rintro e w' ⟨rfl, rfl⟩
      have hd : w1.drew.heap[g]? = some (.cells cur 9 (0, 0)) := hr1
      refine ⟨_, _, rfl, lies_row (row_setCells _ 0 _ _ (row_setCells _ 1 _ _ hd)) _ fun j hj => ?_, fun b off he => by cases he; exact hg, kset (kset (Ko.bel (below_drew hb1)) _ _) _ _⟩
      have hj : j < n + 1 := by simpa [sc, ← hlen] using hj
      rw [List.drop_zero]
      cases j with
      | zero =>
        have := lay_in [.string h] 0 (lay cur 1 (sc ts)) (by rw [lay_size]; simp; omega) 0 (by simp)
        simpa [sc] using this
      | succ j =>
        rw [lay_out [.string h] 0 _ (j + 1) (by simp), Nat.add_comm j 1, lay_in (sc ts) 1 cur (by omega) j (by omega), Nat.add_comm 1 j]
        rfl
  · by_cases h0 : n = 0
    · exact grown _ h0 (by omega)
    · refine (Any2.slices_Insert_string_grow ws_lays2_22 g 0 n cb 0 w.heap.size 0 1 1 (sc ts) [.string h] w1 (by omega) (by omega) h1 (by omega) (by omega) hlen rfl hcs hvs (sc_one ts) h1v).mono ?_
      rintro e w' ⟨rfl, rfl⟩
      obtain ⟨ROW, hROW⟩ : ∃ R : Array Value, R = ((sc ts).take 0).toArray ++ Builtin.zeroCells (Value.string ⟨#[]⟩).cells (n + 1 - 0) ++ Builtin.zeroCells (Value.string ⟨#[]⟩).cells (grownCap w1 (n + 1) cb (ws_lays2_22_ren.t 9) - (n + 1)) := ⟨_, rfl⟩
      rw [← hROW]
      have hR : n + 1 ≤ ROW.size := by
        rw [hROW]
        simp [Builtin.zeroCells, Value.cells]
      clear hROW
      have hbz : base ≤ w1.heap.size := by rw [hz1]; omega
      have hww : w.heap.size ≤ w1.heap.size := by rw [hz1]; omega
      refine ⟨_, _, rfl, lies_row (row_setCells _ _ _ _ (row_drew (row_setCells _ _ _ _ (row_drew (heap_alloc_new w1 _))))) _ fun j hj => ?_, fun b off he => by cases he; exact hbz, Ko.bel (setCells_below hww _ _ _ (below_drew (setCells_below hww _ _ _ (below_drew (hb1.trans ((bnew (Below.refl _ _) _).mono hww))))))⟩
      have hj : j < n + 1 := by simpa [sc, ← hlen] using hj
      rw [List.drop_zero]
      cases j with
      | zero =>
        rw [lay_out (sc ts) _ _ 0 (by omega)]
        have := lay_in [.string h] 0 ROW (by simp; omega) 0 (by simp)
        simpa [sc] using this
      | succ j =>
        have := lay_in (sc ts) 1 (lay ROW 0 [.string h]) (by rw [lay_size]; omega) j (by omega)
        rw [Nat.add_comm 1 j] at this
        rw [Nat.zero_add, this]
        rfl
end Go.Proofs.YtjhbpcecdhdnoaaGreatDoor
namespace Go.Proofs.YtjhbpcecdhdnoaaGreatDoor
open Go.RowKit
theorem fold_lay : ∀ (l : List Value) (off k : Nat) (X : Array Value), (l.zipIdx k).foldl (fun cs (c, j) => cs.setIfInBounds (off + j) c) X = lay X (off + k) l
  | [], _, _, _ => rfl
  | v :: r, off, k, X => by
    rw [List.zipIdx_cons, List.foldl_cons, fold_lay r off (k + 1)]
    rfl
theorem fold_layA (a : Array Value) (off : Nat) (X : Array Value) : a.zipIdx.foldl (fun cs (c, j) => cs.setIfInBounds (off + j) c) X = lay X off a.toList := by
  have h := fold_lay a.toList off 0 X
  rw [Nat.add_zero] at h
  rw [← h, ← Array.foldl_toList, Array.toList_zipIdx]
def logZ : Array Value := (Value.pointer none :: (List.replicate 256 (Value.int .u32 0) ++ [Value.int .u64 0, Value.int .i64 0])).toArray
theorem logInfo : (Tryz.prog.info? 162).map (fun i => i.zero) = some (some (.agg logZ)) := by kernel_rfl
theorem logPlaces : (match Tryz.prog.underlying 162 with | some (.struct fs) => fs.toList.mapM (fun f => (Tryz.prog.info? f.type).map fun i => (f.offset, i.size)) | _ => none) = some [(0, 1), (1, 256), (257, 1), (258, 1)] := by kernel_rfl
theorem logZ_size : logZ.size = 259 := by
  unfold logZ
  rw [List.size_toArray, List.length_cons, List.length_append, List.length_replicate]; rfl
theorem fill_next (place : Nat → Option (Nat × Nat)) (X : Array Value) (i off size : Nat) (v : Value) (rest : List (Nat × Value)) (h : place i = some (off, size)) (h1 : v.cells.size = size) (h2 : off + size ≤ X.size) :
    Instr.fill place X ((i, v) :: rest) = Instr.fill place (lay X off v.cells.toList) rest := by
  conv => lhs; unfold Instr.fill
  rw [h]
  simp only
  rw [if_neg (by simp [h1]; omega), fold_layA]
theorem log_lay (p n : Nat) : lay (lay (lay logZ 0 [Value.pointer (some ⟨p, 0, none⟩)]) 1 tabA.toList) 257 [Value.int .u64 (n : Int)] = logC p n 0 := by
  apply Array.ext_getElem?
  intro j
  have hs : (lay (lay (lay logZ 0 [Value.pointer (some ⟨p, 0, none⟩)]) 1 tabA.toList) 257 [Value.int .u64 (n : Int)]).size = 259 := by rw [lay_size, lay_size, lay_size, logZ_size]
  by_cases h0 : j = 0
  · subst h0
    rw [lay_out _ _ _ _ (by omega), lay_out _ _ _ _ (by omega), logC_0]
    have := lay_in [Value.pointer (some ⟨p, 0, none⟩)] 0 logZ (by rw [logZ_size]; simp) 0 (by simp)
    simpa using this
  by_cases h1 : j < 257
  · obtain ⟨i, rfl⟩ : ∃ i, j = 1 + i := ⟨j - 1, by omega⟩
    rw [lay_out _ _ _ _ (by omega), lay_in tabA.toList 1 _ (by rw [lay_size, logZ_size, tabL_length]; omega) i (by rw [tabL_length]; omega), logC_tab p n 0 i (by omega), Array.getElem?_toList, tabA_at i (by omega)]
  by_cases h2 : j = 257
  · subst h2
    have := lay_in [Value.int .u64 (n : Int)] 257 (lay (lay logZ 0 [Value.pointer (some ⟨p, 0, none⟩)]) 1 tabA.toList) (by rw [lay_size, lay_size, logZ_size]; simp) 0 (by simp)
    rw [Nat.add_zero] at this
    rw [this, logC_n]; rfl
  by_cases h3 : j = 258
  · subst h3
    rw [lay_out _ _ _ _ (by simp), lay_out _ _ _ _ (by rw [tabL_length]; omega), lay_out _ _ _ _ (by simp), logC_b]
    unfold logZ
    rw [List.getElem?_toArray, List.getElem?_cons_succ, List.getElem?_append_right (by rw [List.length_replicate]; decide), List.length_replicate]
    rfl
  · rw [Array.getElem?_eq_none (by omega), Array.getElem?_eq_none (by rw [logC_size]; omega)]
theorem log_built (p n : Nat) : Tryz.prog.built 162 [(0, .pointer (some ⟨p, 0, none⟩)), (1, .agg tabA), (2, .int .u64 (n : Int))] = some (logC p n 0) := by
  obtain ⟨it, h1, h2⟩ := Option.map_eq_some_iff.1 logInfo
  have h3 := logPlaces
  unfold Program.built
  rw [h1]
  rcases hu : Tryz.prog.underlying 162 with _ | d
  · rw [hu] at h3; cases h3
  rw [hu] at h3
  cases d with
  | struct fs =>
    simp only at h3 ⊢
    rw [h2, h3]
    simp only
    rw [fill_next _ _ 0 0 1 _ _ rfl rfl (by show _ ≤ logZ.size; rw [logZ_size]; omega), fill_next _ _ 1 1 256 (.agg tabA) _ rfl tabA_size (by rw [lay_size]; show _ ≤ logZ.size; rw [logZ_size]; omega), fill_next _ _ 2 257 1 _ _ rfl rfl (by rw [lay_size, lay_size]; show _ ≤ logZ.size; rw [logZ_size]; omega)]
    unfold Instr.fill
    rw [← log_lay]
    rfl
  | _ => simp at h3
theorem build_log (p n : Nat) (W : World) : (Instr.build 162 #[(0, .pointer (some ⟨p, 0, none⟩)), (1, .agg tabA), (2, .int .u64 (n : Int))]).run Tryz.prog W = .ok (.agg (logC p n 0)) W := run_build W _ _ _ (log_built p n)
theorem box_log (p n : Nat) (W : World) : (Instr.box 162 (.agg (logC p n 0))).run Tryz.prog W = .ok (.pointer (some ⟨W.heap.size, 0, none⟩)) (W.alloc (.cells (logC p n 0) 162)) := by
  unfold Instr.box newVar
  simp [go_sem]
end Go.Proofs.YtjhbpcecdhdnoaaGreatDoor
namespace Go.Proofs.YtjhbpcecdhdnoaaGreatDoor
open Go.RowKit
namespace Wl
def Er.no : Er → Int
  | .of e => eno e
  | .there => 5
end Wl
theorem mem_list (d : Dk.D) (n : ByteArray) : Lib.containsS (Dk.list d) n = (Dk.find d.files n).isSome := by
  rw [Bool.eq_iff_iff, Lib.containsS_iff]
  unfold Dk.list Dk.find
  rw [List.find?_isSome, List.mem_map]
  constructor
  · rintro ⟨f, h1, h2⟩; exact ⟨f, h1, by simpa using h2⟩
  · rintro ⟨f, h1, h2⟩; exact ⟨f, h1, by simpa using h2⟩
theorem list_len (d : Dk.D) : (Dk.list d).length ≤ Dk.load d := by
  unfold Dk.list
  rw [List.length_map]
  exact Dk.fsLoad_len d.files
theorem ins_bsc (h : List UInt8) (l : List Wl.R) : sc (Wl.ba h :: l.map fun r => Wl.ba (Wl.text r)) = bsc (h :: l.map Wl.text) := by
  unfold bsc
  rw [List.map_cons, List.map_map]; rfl
theorem contains_any (zs : List ByteArray) (x : ByteArray) (A : Option Addr) (cap : Nat) (w : World) (hA : Lies w A (sc zs)) (hn : zs.length ≤ 1000000000) :
    Calls Tryz.prog 89 #[.slice A zs.length cap, .string x] w fun e w' => e = .returned (.bool (Lib.containsS zs x)) ∧ w = w' := by
  rcases hA with h | ⟨b, off, rfl, _, hc⟩
  · have hz : zs = [] := by simpa [sc] using h
    subst hz
    refine (Any.slices_Contains_string_empty ws_lays110 A cap x w).mono ?_
    rintro e w' ⟨rfl, rfl⟩
    exact ⟨rfl, rfl⟩
  · refine (Any.slices_Contains_string ws_lays110 b off zs.length cap zs x w (Nat.le_refl _) (by omega) (fun j hj => ?_)).mono ?_
    · refine hc j _ ?_
      simp [sc, hj, List.getD_eq_getElem?_getD]
    rintro e w' ⟨rfl, rfl⟩
    refine ⟨?_, rfl⟩
    rw [List.take_length]
theorem wpList_built {P : Program} {w : World} {ops : Array Oper} {rest : List Oper} {o : Oper} {a : Act} {Q : Exit → Act → World → Prop} (hgd : o.guard = none) (t : TypeId) (parts : Array (Nat × Operand)) (ho : o.op = .build t parts) (cs : Array Value)
    (hb : P.built t (parts.map fun (i, x) => (i, a.eval x)).toList = some cs) (h : wpList P ops Q rest (a.put o.dst (.agg cs)) w) : wpList P ops Q (o :: rest) a w :=
  wpList_plain hgd fun K hK => wp_build t parts ho (by rw [hb]; rfl) (by rw [hb]; exact hK _ _ h)
theorem log_fold (p n : Nat) : ∃ M : Array Value, Array.foldl (fun cs (x : Value × Nat) => cs.setIfInBounds (1 + x.snd) x.fst) (Tryz.zeroCells162.setIfInBounds 0 (Value.pointer (some ⟨p, 0, none⟩))) tabA.zipIdx 0 256 = M ∧ M.size = 259 ∧ M.setIfInBounds 257 (.int .u64 (n : Int)) = logC p n 0 := by
  refine ⟨lay (lay logZ 0 [Value.pointer (some ⟨p, 0, none⟩)]) 1 tabA.toList, ?_, by rw [lay_size, lay_size, logZ_size], ?_⟩
  · have hz : Tryz.zeroCells162 = logZ := by kernel_rfl
    have h := fold_layA tabA 1 (lay logZ 0 [Value.pointer (some ⟨p, 0, none⟩)])
    rw [hz, ← h]
    have e : tabA.zipIdx.size = 256 := by rw [Array.size_zipIdx, tabA_size]
    show Array.foldl _ _ tabA.zipIdx 0 256 = Array.foldl _ _ tabA.zipIdx 0 tabA.zipIdx.size
    rw [e]
    rfl
  · rw [← log_lay]; rfl
theorem own_mono {w : World} {B B' : Nat} {e : TypeId} {s : Nat} {v : Value} {n : Nat} {xs : List Value} (h : w.ownsRow B e s v n xs) (hb : B' ≤ B) : w.ownsRow B' e s v n xs := by
  refine ⟨h.1, ?_⟩
  rcases h.2 with h2 | ⟨g, cap, cur, hv, hg, hr⟩
  · exact .inl h2
  · exact .inr ⟨g, cap, cur, hv, Nat.le_trans hb hg, hr⟩
def WBegin (At : DkAt) (W : World) (p n : Nat) (S : Nat → Prop) (R : Wl.Er × Dk.D) (e : Ending) (w' : World) : Prop :=
  ∃ v, e = .returned (.tuple #[v, .int .i64 R.1.no]) ∧ (R.1 = .of .ok → ∃ q, v = .pointer (some ⟨q, 0, none⟩) ∧ Logged At W w' p q n 0 S R.2 ∧ W.heap.size ≤ q) ∧ (R.1 ≠ .of .ok → v = .pointer none) ∧ Now At W w' p S R.2
section
variable {At : DkAt}
theorem WBegin.no {W w' : World} {p n : Nat} {S : Nat → Prop} {R : Wl.Er × Dk.D} (h : R.1 ≠ .of .ok) (hn : Now At W w' p S R.2) : WBegin At W p n S R (.returned (.tuple #[.pointer none, .int .i64 R.1.no])) w' :=
  ⟨_, rfl, fun h2 => absurd h2 h, fun _ => rfl, hn⟩
end
end Go.Proofs.YtjhbpcecdhdnoaaGreatDoor
