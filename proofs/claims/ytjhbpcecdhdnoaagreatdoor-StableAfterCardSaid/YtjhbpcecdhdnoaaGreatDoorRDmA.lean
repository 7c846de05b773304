/-
  The program's disk in memory: its head, its map, its files; the small methods.
  The program's disk in memory: its files, each with the blocks of its contents and of its records' beginnings; the whole.
-/
import Derived.Test.YtjhbpcecdhdnoaaGreatDoorRDkP
import Derived.Test.YtjhbpcecdhdnoaaGreatDoorRBldZ
set_option linter.unusedSimpArgs false
set_option linter.unusedVariables false
namespace Go.Proofs.YtjhbpcecdhdnoaaGreatDoor
open Go.RowKit
def dkC (mb left : Nat) (off : Bool) : Array Value := #[.map (some mb), .int .i64 (left : Int), .bool off]
def HAt (W : World) (p mb left : Nat) (off : Bool) : Prop := W.heap[p]? = some (.cells #[.map (some mb), .int .i64 (left : Int), .bool off] 120 (0, 0))
def atB (p : Nat) (k : Nat) : Prop := k = p
theorem Ko.set {S : Nat → Prop} {p : Nat} {W W' : World} (hp : S p) (h : Ko S W W') (i : Nat) (v : Value) : Ko S W (W'.setCell ⟨p, i, none⟩ v) :=
  ⟨h.os, h.tape, h.output, by simpa using h.size, fun k hk hn => (Below.heap_setCell _ _ _ _ (fun he => hn (by rw [show k = p from he]; exact hp))).trans (h.block k hk hn)⟩
theorem HAt.c0 {W : World} {p mb left : Nat} {off : Bool} (h : HAt W p mb left off) : W.cell? ⟨p, 0, none⟩ = some (.map (some mb)) := cell_of_row W p 0 _ _ _ h
theorem HAt.c1 {W : World} {p mb left : Nat} {off : Bool} (h : HAt W p mb left off) : W.cell? ⟨p, 1, none⟩ = some (.int .i64 (left : Int)) := cell_of_row W p 1 _ _ _ h
theorem HAt.c2 {W : World} {p mb left : Nat} {off : Bool} (h : HAt W p mb left off) : W.cell? ⟨p, 2, none⟩ = some (.bool off) := cell_of_row W p 2 _ _ _ h
theorem HAt.f1 {W : World} {p mb left : Nat} {off : Bool} (h : HAt W p mb left off) : W.frozen? ⟨p, 1, none⟩ = false := frozen_of_row W p 1 _ _ h
theorem HAt.f2 {W : World} {p mb left : Nat} {off : Bool} (h : HAt W p mb left off) : W.frozen? ⟨p, 2, none⟩ = false := frozen_of_row W p 2 _ _ h
theorem HAt.set2 {W : World} {p mb left : Nat} {off : Bool} (h : HAt W p mb left off) (o : Bool) : HAt (W.setCell ⟨p, 2, none⟩ (.bool o)) p mb left o := heap_setCell_same W p 2 _ _ _ h
theorem HAt.set1 {W : World} {p mb left : Nat} {off : Bool} (h : HAt W p mb left off) (n : Int) (m : Nat) (hn : n = (m : Int)) : HAt (W.setCell ⟨p, 1, none⟩ (.int .i64 n)) p mb m off := by subst hn; exact heap_setCell_same W p 1 _ _ _ h
theorem HAt.lt {W : World} {p mb left : Nat} {off : Bool} (h : HAt W p mb left off) : p < W.heap.size := (Array.getElem?_eq_some_iff.1 h).1
theorem map_some (mb : Nat) (W : World) : Sem.run Tryz.prog (binOp BinOp.neq 118 (.map (some mb)) (.map none)) W = .ok (.bool true) W := by kernel_rfl
set_option maxRecDepth 100000 in
theorem isMade_any (W : World) (p mb left : Nat) (off : Bool) (h : HAt W p mb left off) :
    Calls Tryz.prog 81 #[.pointer (some ⟨p, 0, none⟩)] W fun e w' => e = .returned (.bool true) ∧ W = w' := by
  have c0 := h.c0
  have hm := map_some mb
  clear h
  go_enter Tryz.func81, Tryz.ntmps81
  go_wp2_with fail
  go_ret
  exact ⟨rfl, rfl⟩
set_option maxRecDepth 100000 in
theorem power_any (W : World) (p mb left : Nat) (off : Bool) (h : HAt W p mb left off) :
    Calls Tryz.prog 67 #[.pointer (some ⟨p, 0, none⟩)] W fun e w' => e = .returned (.int .i64 (if off then 7 else 0)) ∧ W = w' := by
  have c2 := h.c2
  have H := Lib.hid (isMade_any W p mb left off h)
  clear h
  cases off
  all_goals
    go_enter Tryz.func67, Tryz.ntmps67
    go_wp2_with fail
    refine (H.out).mono ?_
    rintro e w1 ⟨rfl, rfl⟩
    go_wp2_with fail
    go_ret
    exact ⟨rfl, rfl⟩
set_option maxRecDepth 100000 in
theorem isName_any (W : World) (n : ByteArray) (hn : n.size ≤ 100000000) : Calls Tryz.prog 68 #[.string n] W fun e w' => e = .returned (.bool (decide (Dk.okName n))) ∧ W = w' := by
  obtain ⟨B, hB⟩ : ∃ B, B = decide (Dk.okName n) := ⟨_, rfl⟩
  rw [← hB]
  by_cases h1 : 1 ≤ n.size
  · have q1 : decide ((1 : Int) ≤ (n.size : Int)) = true := by simp; omega
    by_cases h2 : n.size ≤ 32
    · have q2 : decide ((n.size : Int) ≤ 32) = true := by simp; omega
      have E : Hid (B = true) := Lib.hid (by rw [hB]; exact decide_eq_true ⟨h1, h2⟩)
      clear hB h1 h2
      go_enter Tryz.func68, Tryz.ntmps68
      go_wp2_with fail
      go_ret
      exact ⟨by rw [E.out]; rfl, rfl⟩
    · have q2 : decide ((n.size : Int) ≤ 32) = false := by simp; omega
      have E : Hid (B = false) := Lib.hid (by rw [hB]; exact decide_eq_false fun h => h2 h.2)
      clear hB h1 h2
      go_enter Tryz.func68, Tryz.ntmps68
      go_wp2_with fail
      go_ret
      exact ⟨by rw [E.out]; rfl, rfl⟩
  · have q1 : decide ((1 : Int) ≤ (n.size : Int)) = false := by simp; omega
    have E : Hid (B = false) := Lib.hid (by rw [hB]; exact decide_eq_false fun h => h1 h.1)
    clear hB h1
    go_enter Tryz.func68, Tryz.ntmps68
    go_wp2_with fail
    go_ret
    exact ⟨by rw [E.out]; rfl, rfl⟩
def goesV (left : Nat) : Int := if left = 1 then 7 else 0
set_option maxRecDepth 100000 in
theorem burn_any (W : World) (p mb left : Nat) (h : HAt W p mb left false) (hl : left ≤ 9223372036854775807) :
    Calls Tryz.prog 69 #[.pointer (some ⟨p, 0, none⟩)] W fun e w' => e = .returned (.int .i64 (goesV left)) ∧ HAt w' p mb (left - 1) (decide (left = 1)) ∧ Ko (atB p) W w' := by
  have c1 := h.c1
  have c2 := h.c2
  have f1 := h.f1
  have f2 := h.f2
  have hp : atB p p := rfl
  by_cases h0 : left = 0
  · subst h0
    have HE : Hid (HAt W p mb 0 false) := Lib.hid h
    clear h
    go_enter Tryz.func69, Tryz.ntmps69
    go_wp2_with fail
    go_ret
    exact ⟨rfl, HE.out, Ko.refl _ _⟩
  by_cases h1 : left = 1
  · subst h1
    have HE : Hid (HAt ((W.setCell ⟨p, 1, none⟩ (.int .i64 0)).setCell ⟨p, 2, none⟩ (.bool true)) p mb 0 true ∧ Ko (atB p) W ((W.setCell ⟨p, 1, none⟩ (.int .i64 0)).setCell ⟨p, 2, none⟩ (.bool true))) := Lib.hid
      ⟨(h.set1 0 0 rfl).set2 true, ((Ko.refl _ _).set hp 1 _).set hp 2 _⟩
    clear h hp
    go_enter Tryz.func69, Tryz.ntmps69
    go_wp2_with fail
    go_ret
    exact ⟨rfl, HE.out.1, HE.out.2⟩
  · have q1 : ((left : Int) == 0) = false := by simp; omega
    have q2 : decide ((0 : Int) < (left : Int) - 1) = true := by simp; omega
    have q3 : decide ((1 : Int) < (left : Int)) = true := by simp; omega
    have q4 : decide (1 < left) = true := by simp; omega
    have e1 : Hid (goesV left = 0) := Lib.hid (by unfold goesV; rw [if_neg h1])
    have e2 : Hid (decide (left = 1) = false) := Lib.hid (by simpa using h1)
    have b1 : 0 < (left : Int) := by omega
    have b2 : 1 < (left : Int) := by omega
    have b3 : (left : Int) ≤ 9223372036854775807 := by omega
    have HE : Hid (HAt (W.setCell ⟨p, 1, none⟩ (.int .i64 ((left : Int) - 1))) p mb (left - 1) false ∧ Ko (atB p) W (W.setCell ⟨p, 1, none⟩ (.int .i64 ((left : Int) - 1)))) := Lib.hid
      ⟨h.set1 _ _ (by omega), (Ko.refl _ _).set hp 1 _⟩
    clear h hp h0 h1
    go_enter Tryz.func69, Tryz.ntmps69
    go_wp2_with fail
    go_ret
    exact ⟨by rw [e1.out]; rfl, by rw [e2.out]; exact HE.out.1, HE.out.2⟩
end Go.Proofs.YtjhbpcecdhdnoaaGreatDoor
namespace Go.Proofs.YtjhbpcecdhdnoaaGreatDoor
open Go.RowKit
namespace Dk
def starts (f : Fl) : List Int := (List.range' f.syn (f.recs.length - f.syn)).map fun i => (sz (f.recs.take i) : Int)
theorem starts_length (f : Fl) : (starts f).length = f.recs.length - f.syn := by simp [starts]
theorem starts_at (f : Fl) (i : Nat) (h : i < f.recs.length - f.syn) : (starts f)[i]? = some (sz (f.recs.take (f.syn + i)) : Int) := by
  unfold starts
  rw [List.getElem?_map, List.getElem?_range' h]
  simp
theorem starts_sync (f : Fl) : starts { f with syn := f.recs.length } = [] := by simp [starts]
end Dk
def cb (f : Dk.Fl) : ByteArray := ⟨(Dk.bytes f).toArray⟩
theorem cb_size (f : Dk.Fl) : (cb f).size = Dk.sz f.recs + f.torn.size := by
  have : (cb f).size = (Dk.bytes f).length := by simp [cb, ByteArray.size]
  rw [this, Dk.bytes, List.length_append, Dk.cat_length, Lib.size_eq]
structure Hm where
  f : Dk.Fl
  b : Nat
  ca : Option Addr
  cc : Nat
  ua : Option Addr
  uc : Nat
def Hm.Blk (h : Hm) (k : Nat) : Prop := k = h.b ∨ (Value.slice h.ca (cb h.f).size h.cc).ownBlock = some k ∨ (Value.slice h.ua (Dk.starts h.f).length h.uc).ownBlock = some k
def fileC (h : Hm) : Array Value := #[.slice h.ca (cb h.f).size h.cc, .int .i64 (h.f.syn : Int), .slice h.ua (Dk.starts h.f).length h.uc, .bool h.f.cut]
structure FAt (W : World) (h : Hm) : Prop where
  row : W.heap[h.b]? = some (.cells (fileC h) 143 (0, 0))
  cont : W.ownsRow 0 5 1 (.slice h.ca (cb h.f).size h.cc) (cb h.f).size (Lib.strCells (cb h.f))
  unsy : W.ownsRow 0 3 1 (.slice h.ua (Dk.starts h.f).length h.uc) (Dk.starts h.f).length (ic (Dk.starts h.f))
theorem own_kept {W W' : World} {B : Nat} {e : TypeId} {s : Nat} {v : Value} {n : Nat} {xs : List Value} (h : W.ownsRow B e s v n xs) (hk : ∀ k, v.ownBlock = some k → W'.heap[k]? = W.heap[k]?) : W'.ownsRow B e s v n xs := by
  refine ⟨h.1, ?_⟩
  rcases h.2 with h2 | ⟨g, cap, cur, hv, hb, hg, hr⟩
  · exact .inl h2
  · exact .inr ⟨g, cap, cur, hv, hb, (hk g (by rw [hv]; rfl)).trans hg, hr⟩
theorem own_obj {W : World} {e : TypeId} {s : Nat} {v : Value} {n : Nat} {xs : List Value} {B : Nat} (h : W.ownsRow B e s v n xs) {k : Nat} (hk : v.ownBlock = some k) : ∃ cur, W.heap[k]? = some (.cells cur e (0, 0)) := by
  rcases h.2 with ⟨hv, _⟩ | ⟨g, cap, cur, hv, hb, hg, _⟩
  · rw [hv] at hk; cases hk
  · rw [hv] at hk
    cases hk
    exact ⟨cur, hg⟩
theorem FAt.obj {W : World} {h : Hm} (hf : FAt W h) {k : Nat} (hk : h.Blk k) : ∃ cur T, W.heap[k]? = some (.cells cur T (0, 0)) ∧ (T = 143 ∨ T = 5 ∨ T = 3) := by
  rcases hk with rfl | hk | hk
  · exact ⟨_, _, hf.row, .inl rfl⟩
  · obtain ⟨cur, hc⟩ := own_obj hf.cont hk
    exact ⟨_, _, hc, .inr (.inl rfl)⟩
  · obtain ⟨cur, hc⟩ := own_obj hf.unsy hk
    exact ⟨_, _, hc, .inr (.inr rfl)⟩
theorem FAt.lt {W : World} {h : Hm} (hf : FAt W h) {k : Nat} (hk : h.Blk k) : k < W.heap.size := by
  obtain ⟨cur, T, hc, _⟩ := hf.obj hk
  exact (Array.getElem?_eq_some_iff.1 hc).1
theorem FAt.kept {W W' : World} {h : Hm} (hf : FAt W h) (hk : ∀ k, h.Blk k → W'.heap[k]? = W.heap[k]?) : FAt W' h :=
  ⟨(hk _ (.inl rfl)).trans hf.row, own_kept hf.cont fun k h2 => hk k (.inr (.inl h2)), own_kept hf.unsy fun k h2 => hk k (.inr (.inr h2))⟩
theorem FAt.cont_ne {W : World} {h : Hm} (hf : FAt W h) : (Value.slice h.ca (cb h.f).size h.cc).ownBlock ≠ some h.b := fun hk => by
  obtain ⟨cur, hc⟩ := own_obj hf.cont hk
  have := hf.row
  rw [hc] at this
  simp at this
theorem FAt.unsy_ne {W : World} {h : Hm} (hf : FAt W h) : (Value.slice h.ua (Dk.starts h.f).length h.uc).ownBlock ≠ some h.b := fun hk => by
  obtain ⟨cur, hc⟩ := own_obj hf.unsy hk
  have := hf.row
  rw [hc] at this
  simp at this
theorem FAt.apart {W : World} {h : Hm} (hf : FAt W h) {k : Nat} (h1 : (Value.slice h.ca (cb h.f).size h.cc).ownBlock = some k) (h2 : (Value.slice h.ua (Dk.starts h.f).length h.uc).ownBlock = some k) : False := by
  obtain ⟨c1, e1⟩ := own_obj hf.cont h1
  obtain ⟨c2, e2⟩ := own_obj hf.unsy h2
  rw [e1] at e2
  simp at e2
/-! ### The row of files -/
def pair (h : Hm) : ByteArray × Value := (h.f.name, .pointer (some ⟨h.b, 0, none⟩))
def hfind (hs : List Hm) (n : ByteArray) : Option Hm := hs.find? fun h => decide (h.f.name = n)
theorem lk_pairs (hs : List Hm) (n : ByteArray) : Sm.lk (hs.map pair) n = (hfind hs n).map fun h => Value.pointer (some ⟨h.b, 0, none⟩) := by
  unfold Sm.lk hfind
  rw [List.find?_map]
  show ((hs.find? fun h => decide (h.f.name = n)).map pair).map (·.2) = _
  rw [Option.map_map]; rfl
theorem find_hs (hs : List Hm) (n : ByteArray) : Dk.find (hs.map (·.f)) n = (hfind hs n).map (·.f) := by
  unfold Dk.find hfind
  rw [List.find?_map]; rfl
theorem hfind_some {hs : List Hm} {n : ByteArray} {h : Hm} (e : hfind hs n = some h) : h ∈ hs ∧ h.f.name = n := ⟨List.mem_of_find?_eq_some e, by simpa using List.find?_some e⟩
def hput : List Hm → Hm → List Hm
  | [], h => [h]
  | g :: gs, h => if g.f.name = h.f.name then h :: gs else if Dk.lt h.f.name g.f.name then h :: g :: gs else g :: hput gs h
def hdrop (hs : List Hm) (n : ByteArray) : List Hm := hs.filter fun h => decide (h.f.name ≠ n)
theorem hput_f (hs : List Hm) (h : Hm) : (hput hs h).map (·.f) = Dk.put (hs.map (·.f)) h.f := by
  induction hs with
  | nil => rfl
  | cons g gs ih =>
    unfold hput
    rw [List.map_cons, Dk.put]
    split
    · rfl
    · split
      · rfl
      · rw [List.map_cons, ih]
theorem hput_p (hs : List Hm) (h : Hm) : (hput hs h).map pair = Sm.put (hs.map pair) h.f.name (.pointer (some ⟨h.b, 0, none⟩)) := by
  induction hs with
  | nil => rfl
  | cons g gs ih =>
    unfold hput
    rw [List.map_cons, Sm.put]
    show _ = if g.f.name = h.f.name then _ else if Dk.lt h.f.name g.f.name then _ else _
    split
    · rfl
    · split
      · rfl
      · rw [List.map_cons, ih]
theorem hdrop_f (hs : List Hm) (n : ByteArray) : (hdrop hs n).map (·.f) = Dk.drop (hs.map (·.f)) n := by
  unfold hdrop Dk.drop
  rw [List.filter_map]; rfl
theorem hdrop_p (hs : List Hm) (n : ByteArray) : (hdrop hs n).map pair = Sm.del (hs.map pair) n := by
  unfold hdrop Sm.del
  rw [List.filter_map]; rfl
theorem mem_hdrop {hs : List Hm} {n : ByteArray} {h : Hm} (hm : h ∈ hdrop hs n) : h ∈ hs ∧ h.f.name ≠ n := by
  have := List.mem_filter.1 hm
  exact ⟨this.1, by simpa using this.2⟩
theorem mem_hput {hs : List Hm} (hr : Dk.Rises (hs.map (·.f))) {h x : Hm} (hm : x ∈ hput hs h) : x = h ∨ (x ∈ hs ∧ x.f.name ≠ h.f.name) := by
  induction hs with
  | nil => simp [hput] at hm; exact .inl hm
  | cons g gs ih =>
    obtain ⟨h1, h2⟩ := hr
    have h1' : ∀ y ∈ gs, Dk.lt g.f.name y.f.name := fun y hy => h1 y.f (List.mem_map.2 ⟨y, hy, rfl⟩)
    unfold hput at hm
    by_cases he : g.f.name = h.f.name
    · rw [if_pos he] at hm
      rcases List.mem_cons.1 hm with hm | hm
      · exact .inl hm
      · exact .inr ⟨List.mem_cons_of_mem _ hm, fun e => Dk.lt_irrefl x.f.name (by have := h1' x hm; rwa [he, ← e] at this)⟩
    · rw [if_neg he] at hm
      by_cases hl : Dk.lt h.f.name g.f.name
      · rw [if_pos hl] at hm
        rcases List.mem_cons.1 hm with hm | hm
        · exact .inl hm
        · refine .inr ⟨hm, fun e => ?_⟩
          rcases List.mem_cons.1 hm with rfl | hm
          · exact he e
          · exact Dk.lt_irrefl x.f.name (by have := Dk.lt_trans hl (h1' x hm); rwa [← e] at this)
      · rw [if_neg hl] at hm
        rcases List.mem_cons.1 hm with rfl | hm
        · exact .inr ⟨List.mem_cons_self .., he⟩
        · rcases ih h2 hm with h3 | ⟨h3, h4⟩
          · exact .inl h3
          · exact .inr ⟨List.mem_cons_of_mem _ h3, h4⟩
theorem hfind_mem {hs : List Hm} (hr : Dk.Rises (hs.map (·.f))) {h : Hm} (hm : h ∈ hs) : hfind hs h.f.name = some h := by
  induction hs with
  | nil => cases hm
  | cons g gs ih =>
    obtain ⟨h1, h2⟩ := hr
    unfold hfind at ih ⊢
    rw [List.find?_cons]
    rcases List.mem_cons.1 hm with rfl | hm
    · rw [decide_eq_true rfl]
    · rw [decide_eq_false (fun e => Dk.lt_irrefl h.f.name (by have := h1 h.f (List.mem_map.2 ⟨h, hm, rfl⟩); rwa [e] at this))]
      exact ih h2 hm
/-! ### The whole -/
structure DkS (W : World) (p mb : Nat) (hs : List Hm) (d : Dk.D) : Prop where
  head : HAt W p mb d.left d.off
  map : SMap Tryz.prog 9 W mb (hs.map pair)
  ok : ∀ h ∈ hs, FAt W h
  fs : hs.map (·.f) = d.files
  sep : ∀ h ∈ hs, ∀ g ∈ hs, ∀ k, h.Blk k → g.Blk k → h.f.name = g.f.name
  inv : Dk.Inv d
  load : Dk.load d ≤ 100000000
  left : d.left ≤ 9223372036854775807
def Bks (p mb : Nat) (hs : List Hm) (k : Nat) : Prop := k = p ∨ k = mb ∨ ∃ h ∈ hs, h.Blk k
def DmAt : DkAt := fun W p S d => ∃ mb hs, DkS W p mb hs d ∧ ∀ k, S k ↔ Bks p mb hs k
section
variable {W W' : World} {p mb : Nat} {hs : List Hm} {d : Dk.D}
theorem SMap.obj (h : SMap Tryz.prog 9 W mb (hs.map pair)) : ∃ es c, W.heap[mb]? = some (.map es c) := by
  obtain ⟨es, c, h1, _⟩ := h
  exact ⟨es, c, h1⟩
theorem DkS.pm (h : DkS W p mb hs d) : p ≠ mb := fun e => by
  obtain ⟨es, c, h1⟩ := SMap.obj h.map
  have := h.head
  unfold HAt at this
  rw [e, h1] at this
  cases this
theorem DkS.pb (h : DkS W p mb hs d) {g : Hm} (hg : g ∈ hs) : ¬ g.Blk p := fun hk => by
  obtain ⟨cur, T, hc, hT⟩ := (h.ok g hg).obj hk
  have := h.head
  unfold HAt at this
  rw [hc] at this
  rcases hT with rfl | rfl | rfl <;> simp at this
theorem DkS.mapb (h : DkS W p mb hs d) {g : Hm} (hg : g ∈ hs) : ¬ g.Blk mb := fun hk => by
  obtain ⟨cur, T, hc, hT⟩ := (h.ok g hg).obj hk
  obtain ⟨es, c, h1⟩ := SMap.obj h.map
  rw [hc] at h1
  cases h1
theorem DkS.lt (h : DkS W p mb hs d) {k : Nat} (hk : Bks p mb hs k) : k < W.heap.size := by
  rcases hk with rfl | rfl | ⟨g, hg, hk⟩
  · exact h.head.lt
  · exact h.map.lt
  · exact (h.ok g hg).lt hk
theorem DkS.stays (h : DkS W p mb hs d) (hk : ∀ k, Bks p mb hs k → W'.heap[k]? = W.heap[k]?) : DkS W' p mb hs d :=
  ⟨(hk _ (.inl rfl)).trans h.head, h.map.kept (hk _ (.inr (.inl rfl))), fun g hg => (h.ok g hg).kept fun k h2 => hk k (.inr (.inr ⟨g, hg, h2⟩)), h.fs, h.sep, h.inv, h.load, h.left⟩
theorem DkS.rises (h : DkS W p mb hs d) : Dk.Rises (hs.map (·.f)) := by rw [h.fs]; exact h.inv.rises
theorem DkS.heads (h : DkS W p mb hs d) {left : Nat} {off : Bool} (hk : Ko (atB p) W W') (hh : HAt W' p mb left off) (hl : left ≤ 9223372036854775807) : DkS W' p mb hs ⟨d.files, off, left⟩ :=
  ⟨hh, h.map.kept (hk.block _ h.map.lt fun e => h.pm e.symm), fun g hg => (h.ok g hg).kept fun k h2 => hk.block _ ((h.ok g hg).lt h2) fun e => h.pb hg (by rw [← show k = p from e]; exact h2), h.fs, h.sep, Dk.inv_files h.inv rfl, h.load, hl⟩
theorem DmAt.mk (h : DkS W p mb hs d) : DmAt W p (Bks p mb hs) d := ⟨mb, hs, h, fun _ => Iff.rfl⟩
end
end Go.Proofs.YtjhbpcecdhdnoaaGreatDoor
