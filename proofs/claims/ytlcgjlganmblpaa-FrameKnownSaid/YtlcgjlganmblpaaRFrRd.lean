/-
  Two blocks of a reader's own, one for the answer; slices that lie apart from them. WRITTEN BY wip/tools/gen_frlies.py.
  frame.readRequest and frame.readLeader walked.
  frame.Read walked. WRITTEN BY wip/tools/gen_frread.py.
  frame.ReadReply walked. WRITTEN BY wip/tools/gen_frrr.py.
-/
import Derived.Test.YtlcgjlganmblpaaRFrA
import Derived.Test.YtlcgjlganmblpaaRNum
import Derived.Test.YtlcgjlganmblpaaRFrB
import Derived.Test.YtlcgjlganmblpaaRTok
import Derived.Test.YtlcgjlganmblpaaRCall
import Derived.Test.YtlcgjlganmblpaaROWr
import Derived.BigQuiet
import Derived.ChangeAlike
import Derived.StillTailTactics
import Derived.RegionTactic
set_option linter.unusedSimpArgs false
set_option linter.unusedVariables false
namespace Go.Proofs.Ytlcgjlganmblpaa
open Go.RowKit
/-- What kind of a cell it is. -/
def kindC : Value → Nat
  | .string _ => 1
  | .int .u8 _ => 0
  | _ => 2
theorem frKinds (f : Fr.F) (A : Option Addr) (cap : Nat) : (frC f A cap).toList.map kindC = [0, 0, 0, 0, 0, 0, 0, 0, 0, 0, 2, 2, 1, 1, 1, 1, 1, 0, 2, 2, 2, 0, 0, 0, 0, 0, 0, 0, 0, 0, 0, 0, 2, 2, 2, 2, 0] := rfl
theorem rpKinds (r : Fr.R) (A : Option Addr) (cap : Nat) : (rpC r A cap).toList.map kindC = [0, 2, 2, 0, 0, 2, 1, 2] := rfl
theorem kind_at {X : Array Value} {L : List Nat} (h : X.toList.map kindC = L) {k : Nat} {v : Value} (hv : X[k]? = some v) : L[k]? = some (kindC v) := by
  rw [← h, List.getElem?_map, Array.getElem?_toList, hv]; rfl
theorem fr_pair (k : Nat) : ¬ ([0, 0, 0, 0, 0, 0, 0, 0, 0, 0, 2, 2, 1, 1, 1, 1, 1, 0, 2, 2, 2, 0, 0, 0, 0, 0, 0, 0, 0, 0, 0, 0, 2, 2, 2, 2, 0][k]? = some 0 ∧ [0, 0, 0, 0, 0, 0, 0, 0, 0, 0, 2, 2, 1, 1, 1, 1, 1, 0, 2, 2, 2, 0, 0, 0, 0, 0, 0, 0, 0, 0, 0, 0, 2, 2, 2, 2, 0][k + 1]? = some 1) := by
  rintro ⟨h0, h1⟩
  have hk : k < 37 := by
    have := (List.getElem?_eq_some_iff.1 h0).1
    simpa using this
  have : ∀ k : Fin 37, ¬ ([0, 0, 0, 0, 0, 0, 0, 0, 0, 0, 2, 2, 1, 1, 1, 1, 1, 0, 2, 2, 2, 0, 0, 0, 0, 0, 0, 0, 0, 0, 0, 0, 2, 2, 2, 2, 0][k.1]? = some 0 ∧ [0, 0, 0, 0, 0, 0, 0, 0, 0, 0, 2, 2, 1, 1, 1, 1, 1, 0, 2, 2, 2, 0, 0, 0, 0, 0, 0, 0, 0, 0, 0, 0, 2, 2, 2, 2, 0][k.1 + 1]? = some 1) := by decide
  exact this ⟨k, hk⟩ ⟨h0, h1⟩
theorem rp_pair (k : Nat) : ¬ ([0, 2, 2, 0, 0, 2, 1, 2][k]? = some 1 ∧ [0, 2, 2, 0, 0, 2, 1, 2][k + 1]? = some 1) := by
  rintro ⟨h0, h1⟩
  have hk : k < 8 := by
    have := (List.getElem?_eq_some_iff.1 h0).1
    simpa using this
  have : ∀ k : Fin 8, ¬ ([0, 2, 2, 0, 0, 2, 1, 2][k.1]? = some 1 ∧ [0, 2, 2, 0, 0, 2, 1, 2][k.1 + 1]? = some 1) := by decide
  exact this ⟨k, hk⟩ ⟨h0, h1⟩

/-- A slice that lies in none of a few blocks. -/
def Apart (A : Option Addr) (vs : List Value) (g : Nat) : Prop := ∀ b off, vs ≠ [] → A = some ⟨b, off, none⟩ → b ≠ g
theorem fr_apart {W : World} {g : Nat} {f : Fr.F} {B A : Option Addr} {cap : Nat} {ps : List Cm.Part} (hr : W.heap[g]? = some (.cells (frC f B cap) 32 (0, 0))) (h : Lies W A (pc ps)) : Apart A (pc ps) g := by
  rintro b off hne rfl rfl
  rcases h with h | ⟨b', off', he, _, hc⟩
  · exact hne h
  · simp only [Option.some.injEq, Addr.mk.injEq, and_true] at he
    obtain ⟨rfl, rfl⟩ := he
    match ps with
    | [] => exact hne rfl
    | p :: ps =>
      have h0 := hc 0 _ rfl
      have h1 := hc 1 _ rfl
      rw [cell_of_row W b _ _ _ _ hr] at h0 h1
      exact fr_pair (off + 0) ⟨kind_at (frKinds f B cap) h0, kind_at (frKinds f B cap) h1⟩
theorem rp_apart {W : World} {g : Nat} {r : Fr.R} {B A : Option Addr} {cap : Nat} {xs : List Rs.Row} (hr : W.heap[g]? = some (.cells (rpC r B cap) 39 (0, 0))) (h : Lies W A (rc xs)) : Apart A (rc xs) g := by
  rintro b off hne rfl rfl
  rcases h with h | ⟨b', off', he, _, hc⟩
  · exact hne h
  · simp only [Option.some.injEq, Addr.mk.injEq, and_true] at he
    obtain ⟨rfl, rfl⟩ := he
    match xs with
    | [] => exact hne rfl
    | p :: ps =>
      have h0 := hc 0 _ rfl
      have h1 := hc 1 _ rfl
      rw [cell_of_row W b _ _ _ _ hr] at h0 h1
      exact rp_pair (off + 0) ⟨kind_at (rpKinds r B cap) h0, kind_at (rpKinds r B cap) h1⟩
theorem Lies.sets {W : World} {g k : Nat} {l : List Value} {A : Option Addr} {vs : List Value} (h : Lies W A vs) (hb : Apart A vs g) : Lies (W.setCells g k l) A vs := by
  rcases h with h | ⟨b, off, rfl, hlt, hc⟩
  · exact .inl h
  · by_cases hv : vs = []
    · exact .inl hv
    · have hne := hb b off hv rfl
      have ho := setCells_other (g := g) hne l k W
      refine .inr ⟨b, off, rfl, ?_, fun i u hu => (World.cell?_of_block ho).trans (hc i u hu)⟩
      have : W.heap[b]? = some W.heap[b] := Array.getElem?_eq_getElem hlt
      rw [this] at ho
      exact (Array.getElem?_eq_some_iff.1 ho).1
theorem Lies.cell1 {W : World} {g k : Nat} {v : Value} {A : Option Addr} {vs : List Value} (h : Lies W A vs) (hb : Apart A vs g) : Lies (W.setCell ⟨g, k, none⟩ v) A vs := h.sets (l := [v]) hb
/-- Two blocks of a reader's own: q for the answer, g for what is under way. -/
structure St2 (w W : World) (q g : Nat) (T : TypeId) (Z X : Array Value) : Prop where
  b : Below w.heap.size w W
  hq : w.heap.size ≤ q
  hg : w.heap.size ≤ g
  ne : q ≠ g
  z : W.heap[q]? = some (.cells Z T (0, 0))
  x : W.heap[g]? = some (.cells X T (0, 0))
theorem St2.grow {w W W' : World} {q g : Nat} {T : TypeId} {Z X : Array Value} (h : St2 w W q g T Z X) (hb : Below W.heap.size W W') : St2 w W' q g T Z X :=
  ⟨bnext h.b hb, h.hq, h.hg, h.ne, (hb.block _ (Array.getElem?_eq_some_iff.1 h.z).1).trans h.z, (hb.block _ (Array.getElem?_eq_some_iff.1 h.x).1).trans h.x⟩
theorem St2.drew {w W : World} {q g : Nat} {T : TypeId} {Z X : Array Value} (h : St2 w W q g T Z X) : St2 w W.drew q g T Z X := ⟨below_drew h.b, h.hq, h.hg, h.ne, row_drew h.z, row_drew h.x⟩
theorem St2.setX {w W : World} {q g : Nat} {T : TypeId} {Z X : Array Value} (h : St2 w W q g T Z X) (k : Nat) (l : List Value) : St2 w (W.setCells g k l) q g T Z (lay X k l) :=
  ⟨setCells_below h.hg l k W h.b, h.hq, h.hg, h.ne, (setCells_other h.ne l k W).trans h.z, row_setCells l k W X h.x⟩
theorem St2.setZ {w W : World} {q g : Nat} {T : TypeId} {Z X : Array Value} (h : St2 w W q g T Z X) (k : Nat) (l : List Value) : St2 w (W.setCells q k l) q g T (lay Z k l) X :=
  ⟨setCells_below h.hq l k W h.b, h.hq, h.hg, h.ne, row_setCells l k W Z h.z, (setCells_other (Ne.symm h.ne) l k W).trans h.x⟩
theorem St2.cellX {w W : World} {q g : Nat} {T : TypeId} {Z X : Array Value} (h : St2 w W q g T Z X) (k : Nat) (v : Value) : St2 w (W.setCell ⟨g, k, none⟩ v) q g T Z (X.setIfInBounds k v) := h.setX k [v]
theorem St2.to {w W : World} {q g : Nat} {T : TypeId} {Z X Z' X' : Array Value} (h : St2 w W q g T Z X) (hz : Z = Z') (hx : X = X') : St2 w W q g T Z' X' := hz ▸ hx ▸ h
end Go.Proofs.Ytlcgjlganmblpaa
namespace Go.Proofs.Ytlcgjlganmblpaa
open Go.RowKit
theorem extD (s : ByteArray) (k : Nat) : s.extract k s.size = ⟨(s.data.toList.drop k).toArray⟩ := by
  rw [Lib.extract_eq, List.take_of_length_le (by rw [List.length_drop, ← Lib.size_eq]; exact Nat.le_refl _)]
theorem rdVx (x : ByteArray) : Cm.rdV x.data.toList = match Nm.readV x.data.toList with | some (n, k) => some (n, (x.extract k x.size).data.toList) | none => none := by
  unfold Cm.rdV
  rcases Nm.readV x.data.toList with _ | ⟨n, k⟩
  · rfl
  · simp only [extD]
theorem val8x (s : ByteArray) (h : 0 < s.size) : Nm.val8 (s.data.toList.take 1) = s[0].toNat := by
  have := take_snoc s 0 h
  rw [List.take_zero, List.nil_append] at this
  rw [this]; simp [Nm.val8]
theorem u8w (n : Nat) (h : n < 256) : IntKind.u8.wrap (n : Int) = (n : Int) := by
  simp only [IntKind.wrap, IntKind.bits, IntKind.signed]
  simp
  omega
theorem readU1 (s : ByteArray) (hs : s.size ≤ 100000000) (h : 0 < s.size) (W : World) : Calls Try.prog 33 #[.string s, .int .i64 1] W fun e w' => e = .returned (.tuple #[.int .u64 (s[0].toNat : Int), .bool true]) ∧ W = w' := by
  have := ReadU_any s 1 W (by omega) (by omega) (by omega) (by omega)
  rw [val8x s h] at this
  exact this
theorem rdBx (s : ByteArray) (h : 0 < s.size) : Cm.rdB s.data.toList = some (s[0].toNat, (s.extract 1 s.size).data.toList) := by
  have hd := drop_cons s 0 h
  rw [List.drop_zero] at hd
  rw [hd, extD]
  rfl
theorem rdB0 (s : ByteArray) (h : s.size = 0) : Cm.rdB s.data.toList = none := by
  rw [Lib.size_eq] at h
  rw [List.eq_nil_of_length_eq_zero h]; rfl
theorem results_t4 {fn : Func} {a b c d : Tmp} (h : fn.results = #[.tmp a, .tmp b, .tmp c, .tmp d]) (tmps : Array Value) (P : Program) (w : World) :
    (results fn tmps).run P w = .ok (.tuple #[tmps.getD a undef, tmps.getD b undef, tmps.getD c undef, tmps.getD d undef]) w := by
  simp [results, h]
theorem results_t3 {fn : Func} {a b c : Tmp} (h : fn.results = #[.tmp a, .tmp b, .tmp c]) (tmps : Array Value) (P : Program) (w : World) :
    (results fn tmps).run P w = .ok (.tuple #[tmps.getD a undef, tmps.getD b undef, tmps.getD c undef]) w := by
  simp [results, h]
namespace Fr
/-- Session and Seq. -/
def rq (l : List UInt8) : Option ((Nat × Nat) × List UInt8) := (Cm.rdV l).bind fun (s, l) => (Cm.rdV l).bind fun (q, l) => some ((s, q), l)
end Fr
def rqV (o : Option ((Nat × Nat) × List UInt8)) : Value := match o with
  | some ((a, b), l) => .tuple #[.int .u64 (a : Int), .int .u64 (b : Int), .string ⟨l.toArray⟩, .bool true]
  | none => .tuple #[.int .u64 0, .int .u64 0, .string ⟨#[]⟩, .bool false]
set_option maxRecDepth 100000 in
set_option maxHeartbeats 4000000 in
theorem readReq_any (s : ByteArray) (w : World) (hs : s.size ≤ 100000000) : Calls Try.prog 34 #[.string s] w fun e w' => e = .returned (rqV (Fr.rq s.data.toList)) ∧ Below w.heap.size w w' := by
  have hh : Fr.rq s.data.toList = (Cm.rdV s.data.toList).bind fun (s, l) => (Cm.rdV l).bind fun (q, l) => some ((s, q), l) := rfl
  rw [rdVx] at hh
  have HV := Lib.hid (fun W => ReadV_any s W (by omega))
  rcases hv : Nm.readV s.data.toList with _ | ⟨i, k1⟩
  · rw [hv] at hh
    have E : Hid (Fr.rq s.data.toList = none) := Lib.hid hh
    have Hv := Lib.hid hv
    clear hh hv
    go_enter Try.func34, Try.ntmps34
    go_wp2_with fail
    refine (HV.out _).mono ?_
    rw [Hv.out, rv]
    rintro e w1 ⟨rfl, rfl⟩
    go_wp2_with fail
    refine bodyPost_ret (results_t4 rfl _ _ _) rfl ⟨by rw [E.out]; rfl, Below.refl _ _⟩
  obtain ⟨hi, hk11, hk12, _⟩ := Nm.readV_le hv
  rw [← Lib.size_eq] at hk12
  rw [hv] at hh
  simp only [Option.bind_some] at hh
  have q0 : (0 : Int) ≤ (k1 : Int) := by omega
  have q1 : (k1 : Int) ≤ (s.size : Int) := by omega
  obtain ⟨y, hy⟩ : ∃ y, y = s.extract k1 s.size := ⟨_, rfl⟩
  have zy : y.size ≤ 100000000 := by rw [hy, ByteArray.size_extract]; omega
  rw [← hy, rdVx] at hh
  have Hy := Lib.hid hy
  have HV2 := Lib.hid (fun W => ReadV_any y W (by omega))
  have Hv := Lib.hid hv
  clear hy hv
  rcases hv : Nm.readV y.data.toList with _ | ⟨t, k2⟩
  · rw [hv] at hh
    have E : Hid (Fr.rq s.data.toList = none) := Lib.hid hh
    have Hv2 := Lib.hid hv
    clear hh hv
    go_enter Try.func34, Try.ntmps34
    go_wp2_with fail
    refine (HV.out _).mono ?_
    rw [Hv.out, rv]
    rintro e w1 ⟨rfl, rfl⟩
    go_wp2_with fail
    rw [← Hy.out]
    refine (HV2.out _).mono ?_
    rw [Hv2.out, rv]
    rintro e w1 ⟨rfl, rfl⟩
    go_wp2_with fail
    refine bodyPost_ret (results_t4 rfl _ _ _) rfl ⟨by rw [E.out]; rfl, Below.refl _ _⟩
  obtain ⟨ht, hk21, hk22, _⟩ := Nm.readV_le hv
  rw [← Lib.size_eq] at hk22
  rw [hv] at hh
  simp only [Option.bind_some] at hh
  have q2 : (0 : Int) ≤ (k2 : Int) := by omega
  have q3 : (k2 : Int) ≤ (y.size : Int) := by omega
  have q4 : ((k2 : Int)).toNat = k2 := by omega
  have E : Hid (Fr.rq s.data.toList = some ((i, t), (y.extract k2 y.size).data.toList)) := Lib.hid hh
  have Hv2 := Lib.hid hv
  clear hh hv hi ht hk11 hk21
  go_enter Try.func34, Try.ntmps34
  go_wp2_with fail
  refine (HV.out _).mono ?_
  rw [Hv.out, rv]
  rintro e w1 ⟨rfl, rfl⟩
  go_wp2_with fail
  rw [← Hy.out]
  refine (HV2.out _).mono ?_
  rw [Hv2.out, rv]
  rintro e w1 ⟨rfl, rfl⟩
  go_wp2_with fail
  go_quiet (fail)
  go_wp2
  refine bodyPost_ret (results_t4 rfl _ _ _) rfl ⟨by rw [E.out]; rfl, below_drewN (Below.refl _ _) _⟩
def rlV (o : Option (Nat × List UInt8)) : Value := match o with
  | some (a, l) => .tuple #[.int .u8 (a : Int), .string ⟨l.toArray⟩, .bool true]
  | none => .tuple #[.int .u8 0, .string ⟨#[]⟩, .bool false]
set_option maxRecDepth 100000 in
set_option maxHeartbeats 4000000 in
theorem readLead_any (s : ByteArray) (w : World) (hs : s.size ≤ 100000000) : Calls Try.prog 35 #[.string s] w fun e w' => e = .returned (rlV (Cm.rdB s.data.toList)) ∧ Below w.heap.size w w' := by
  by_cases h0 : s.size = 0
  · have E := Lib.hid (rdB0 s h0)
    have HU := Lib.hid (fun W => ReadU_no s 1 W (by omega))
    clear h0
    go_enter Try.func35, Try.ntmps35
    go_wp2_with fail
    refine (HU.out _).mono ?_
    rintro e w1 ⟨rfl, rfl⟩
    go_wp2_with fail
    refine bodyPost_ret (results_t3 rfl _ _ _) rfl ⟨by rw [E.out]; rfl, Below.refl _ _⟩
  have hp : 0 < s.size := by omega
  have E := Lib.hid (rdBx s hp)
  have HU := Lib.hid (fun W => readU1 s hs hp W)
  have p1 : (1 : Int) ≤ (s.size : Int) := by omega
  have wk : IntKind.u8.wrap (s[0].toNat : Int) = (s[0].toNat : Int) := u8w _ s[0].toNat_lt
  obtain ⟨c, hc⟩ : ∃ c : Nat, c = s[0].toNat := ⟨_, rfl⟩
  rw [← hc] at E HU wk
  clear h0 hc hp
  go_enter Try.func35, Try.ntmps35
  go_wp2_with fail
  refine (HU.out _).mono ?_
  rintro e w1 ⟨rfl, rfl⟩
  go_wp2_with fail
  go_quiet (fail)
  go_wp2
  refine bodyPost_ret (results_t3 rfl _ _ _) rfl ⟨by rw [E.out]; rfl, below_drewN (Below.refl _ _) _⟩
end Go.Proofs.Ytlcgjlganmblpaa
namespace Go.Proofs.Ytlcgjlganmblpaa
open Go.RowKit
set_option linter.unusedVariables false
/-- copy(t[:], s) of eight cells within a row and a longer text. -/
theorem copy8at (w : World) (g o : Nat) (s : ByteArray) (cur : Array Value) (t : TypeId) (hg : w.heap[g]? = some (.cells cur t (0, 0))) (hsz : o + 8 ≤ cur.size) (h8 : 8 ≤ s.size) :
    (Builtin.copy_ #[60, 9] 3 #[.slice (some ⟨g, o, none⟩) 8 8, .string s]).run Try.prog w = .ok (.int .i64 8) (w.setRow g (cur.toList.take o ++ bc (s.data.toList.take 8) ++ cur.toList.drop (o + 8)).toArray) := by
  obtain ⟨i0, hi, _, hz1, _⟩ := info_parts Try.infoByte
  have hlen : (bc (s.data.toList.take 8)).length = 8 := by rw [bc_length, List.length_take, ← Lib.size_eq]; omega
  have hst := run_storeCells_at Try.prog g o t (bc (s.data.toList.take 8)) 0 cur w hg (by rw [hlen]; omega) (bc_one _)
  rw [hlen] at hst
  simp only [Nat.add_zero] at hst
  have hmin : Nat.min s.size 8 = 8 := Nat.min_eq_right h8
  have htk : List.take 8 (List.map (fun b : UInt8 => Value.int IntKind.u8 (b.toNat : Int)) s.data.toList) = bc (s.data.toList.take 8) := by unfold bc; rw [List.map_take]
  simp [Builtin.copy_, run_underlying Try.underlying60, Builtin.lenOf, Builtin.firstCells, sizeOf, typeInfo, hi, hz1, hmin]
  rw [← List.map_take] at *
  first | rw [show (List.map (fun b : UInt8 => Value.int IntKind.u8 (b.toNat : Int)) (s.data.toList.take 8)) = bc (s.data.toList.take 8) from rfl, hst] | rw [htk, hst]
  simp [Result.andThen]
  rfl
theorem layTok (f : Fr.F) (A : Option Addr) (cap : Nat) (t : Og.Tk) : ((frC f A cap).toList.take 1 ++ bc t.l ++ (frC f A cap).toList.drop (1 + 8)).toArray = frC ⟨f.kind, t, f.cmd, f.op⟩ A cap := rfl
namespace Fr
open Cm (rdB rdV rdB_iff rdV_iff one e0)
theorem read_few (s : ByteArray) (h : s.size < 9) : read s.data.toList = none := by
  rw [Lib.size_eq] at h
  unfold read
  generalize s.data.toList = l at h ⊢
  rcases l with _ | ⟨c, r⟩
  · rfl
  · have : ¬ 8 ≤ r.length := by simp at h; omega
    simp [Cm.rdB, Og.rdT, this]
theorem read_head (s : ByteArray) (h : ¬ s.size < 9) : ∃ T : Og.Tk, (s.extract 1 s.size).data.toList.take 8 = T.l ∧ (∀ l0 : List UInt8, s.data.toList = l0 → read l0 =
    if (s[0]'(by omega)).toNat = 1 then (Cm.read (s.extract 9 s.size).data.toList).bind fun c => some ⟨1, T, c, Og.Oper.zero⟩
    else if (s[0]'(by omega)).toNat = 2 then (Wk.oin (s.extract 9 s.size).data.toList).bind fun o => some ⟨2, T, Cm.zero, o⟩ else none) := by
  have hd := drop_cons s 0 (by omega)
  rw [List.drop_zero] at hd
  have hl := Lib.size_eq s
  have h8 : 8 ≤ (s.data.toList.drop 1).length := by rw [List.length_drop]; omega
  refine ⟨Og.Tk.of ((s.data.toList.drop 1).take 8), ?_, fun l0 hl0 => ?_⟩
  · rw [extD, Og.Tk.l_of (by rw [List.length_take]; omega)]
  · have e9 : (s.extract 9 s.size).data.toList = (s.data.toList.drop 1).drop 8 := by rw [extD, List.drop_drop]
    rw [e9, ← hl0]
    unfold read
    conv => lhs; rw [hd]
    simp only [Cm.rdB, Option.bind_some, Og.rdT]
    rw [show (0 + 1 : Nat) = 1 from rfl] at *
    rw [if_pos h8]
    simp only [Option.bind_some]
end Fr
/-- What a reader of frames answers. -/
def RetFr (o : Option Fr.F) (w : World) (e : Ending) (w' : World) : Prop :=
  ∃ A cap, e = .returned (.tuple #[.agg (frC (o.getD Fr.F.zero) A cap), .bool o.isSome]) ∧ Lies w' A (pc (o.getD Fr.F.zero).cmd.parts) ∧ Below w.heap.size w w'
theorem frSize (r : Fr.F) (A : Option Addr) (cap : Nat) : (frC r A cap).size = 37 := rfl
set_option maxRecDepth 100000 in
set_option maxHeartbeats 8000000 in
theorem fread_any (s : ByteArray) (w : World) (hs : s.size ≤ 10000000) : Calls Try.prog 13 #[.string s] w (RetFr (Fr.read s.data.toList) w) := by
  by_cases h9 : s.size < 9
  · have E := Lib.hid (Fr.read_few s h9)
    have d1 : decide ((s.size : Int) < 9) = true := by simp; omega
    clear h9
    go_enter Try.func13, Try.ntmps13
    go_upto_region 2 with (fail)
    have hrow := heap_alloc_new w (.cells (frC Fr.F.zero none 0) 32)
    have HB : Hid (Below w.heap.size w (w.alloc (.cells (frC Fr.F.zero none 0) 32))) := Lib.hid (bnew (Below.refl _ _) _)
    refine forget (fun W => Below w.heap.size w W ∧ W.heap[w.heap.size]? = some (.cells (frC Fr.F.zero none 0) 32 (0, 0))) ⟨HB.out, hrow⟩ ?_
    clear hrow HB
    rintro W1 ⟨hb1, hr1⟩
    have HR := Lib.hid (And.intro hb1 hr1)
    clear hb1 hr1
    go_wp2_with (refine wpList_store_sub rfl 32 _ _ rfl w.heap.size 0 rfl 32 _ (frC Fr.F.zero none 0) rfl HR.out.2 (Nat.le_refl 37) (sizeFrC _ _ _) (frC_one _ _ _) ?_)
    have hres := results_ct (P := Try.prog) (fn := Try.f13) rfl
    refine bodyPost_ret (hres _ _ w.heap.size 32 (frC Fr.F.zero none 0) (0, 0) _ rfl ((row_setCells _ 0 _ _ HR.out.2).trans (by rw [layFr])) Try.underlying32 rfl sizeFr) rfl ⟨none, 0, by rw [E.out]; rfl, by rw [E.out]; exact .inl rfl, setCells_below (Nat.le_refl _) _ _ _ HR.out.1⟩
  obtain ⟨K, hK, hE⟩ := Fr.read_head s h9
  replace hE := hE _ rfl
  have d1 : decide ((s.size : Int) < 9) = false := by simp; omega
  have d2 : (1 : Int) ≤ (s.size : Int) := by omega
  have d3 : (9 : Int) ≤ (s.size : Int) := by omega
  have d4 : (0 : Int) < (s.size : Int) := by omega
  have d5 : 0 < s.size := by omega
  have hx8 : 8 ≤ (s.extract 1 s.size).size := by rw [ByteArray.size_extract]; omega
  obtain ⟨x, hx⟩ : ∃ x, x = s.extract 1 s.size := ⟨_, rfl⟩
  have Hx := Lib.hid hx
  rw [← hx] at hK hx8
  have HK := Lib.hid hK
  have Hx8 := Lib.hid hx8
  obtain ⟨y, hy⟩ : ∃ y, y = s.extract 9 s.size := ⟨_, rfl⟩
  have zy : y.size ≤ 10000000 := by rw [hy, ByteArray.size_extract]; omega
  rw [← hy] at hE
  have Hy := Lib.hid hy
  obtain ⟨c, hc⟩ : ∃ c : Nat, c = s[0].toNat := ⟨_, rfl⟩
  rw [← hc] at hE
  have Hc := Lib.hid hc
  have HR := Lib.hid (fun W => cmdRead_any y W zy)
  have HO := Lib.hid (fun W => oread_any y W zy)
  unfold RetRd at HR
  unfold RetOp at HO
  clear hx hK hx8 hy hc zy hs h9
  by_cases k1 : c = 1
  case pos =>
    rw [if_pos k1] at hE
    have e1 : ((c : Int) == 1) = true := kd_t k1
    rcases hd : Cm.read y.data.toList with _ | m
    · have E : Hid (Fr.read s.data.toList = none) := Lib.hid (by rw [hE, hd]; rfl)
      have Hd := Lib.hid hd
      clear hd hE k1
      go_enter Try.func13, Try.ntmps13
      go_upto_region 3 with (fail)
      refine forget (fun W => Below w.heap.size w W ∧ W.heap[w.heap.size]? = some (.cells (frC Fr.F.zero none 0) 32 (0, 0))) ⟨bnew (Below.refl _ _) _, heap_alloc_new w _⟩ ?_
      rintro V9 ⟨hb9, hr9⟩
      have HV9 := Lib.hid (And.intro hb9 (And.intro hr9 (Array.getElem?_eq_some_iff.1 hr9).1))
      clear hb9 hr9
      go_upto_region 4 with (refine wpList_store_sub rfl 32 _ _ rfl V9.heap.size 0 rfl 32 (frC Fr.F.zero none 0) (frC ⟨s[0].toNat, Og.Tk.zero, Cm.zero, Og.Oper.zero⟩ none 0) rfl ?_ (Nat.le_refl 37) (sizeFrC _ _ _) (frC_one _ _ _) ?_; exact heap_alloc_new V9 _)
      refine forget (fun W => St2 w W w.heap.size V9.heap.size 32 (frC Fr.F.zero none 0) (frC ⟨c, Og.Tk.zero, Cm.zero, Og.Oper.zero⟩ none 0)) (by
        obtain ⟨q1, q2, q3⟩ := HV9.out
        have S9 : St2 w (V9.alloc (.cells (frC Fr.F.zero none 0) 32)) w.heap.size V9.heap.size 32 (frC Fr.F.zero none 0) (frC Fr.F.zero none 0) := ⟨bnew q1 _, Nat.le_refl _, q1.size, Nat.ne_of_lt q3, (Below.heap_alloc _ _ _ q3).trans q2, heap_alloc_new V9 _⟩
        rw [Hc.out]
        exact (S9.setX 0 (frC ⟨s[0].toNat, Og.Tk.zero, Cm.zero, Og.Oper.zero⟩ none 0).toList).to rfl (layFr _ _ _ _ _ _)) ?_
      obtain ⟨q, hq⟩ : ∃ q, q = w.heap.size := ⟨_, rfl⟩
      obtain ⟨g, hg⟩ : ∃ g, g = V9.heap.size := ⟨_, rfl⟩
      rw [← hg, ← hq]
      clear hg hq HV9 V9
      intro V0 S0
      go_still_tail 4, (by kernel_rfl)
      change wpList _ _ _ _ _ V0.drew
      have S0 := S0.drew
      generalize V0.drew = V1 at *
      have hcp := copy8at V1 g 1 x _ 32 S0.x (by show 1 + 8 ≤ 37; omega) Hx8.out
      rw [HK.out, layTok] at hcp
      have S1 : St2 w (V1.setRow g (frC ⟨c, K, Cm.zero, Og.Oper.zero⟩ none 0)) q g 32 (frC Fr.F.zero none 0) (frC ⟨c, K, Cm.zero, Og.Oper.zero⟩ none 0) :=
        ⟨⟨S0.b.os, S0.b.tape, S0.b.output, by simpa using S0.b.size, fun k hk => (setRow_other _ _ _ _ (by have := S0.hg; omega)).trans (S0.b.block k hk)⟩, S0.hq, S0.hg, S0.ne, (setRow_other _ _ _ _ S0.ne).trans S0.z, setRow_heap V1 g _ _ 32 (0, 0) S0.x⟩
      obtain ⟨V2, hV2⟩ : ∃ V, V = V1.setRow g (frC ⟨c, K, Cm.zero, Og.Oper.zero⟩ none 0) := ⟨_, rfl⟩
      rw [← hV2] at hcp S1
      rw [← Hx.out]
      have HS := Lib.hid S1
      clear S0 S1 hV2
      go_upto_region 5 with (fail)
      clear hcp
      have c0 := (frAt HS.out.x).c0
      go_wp2_with fail
      rw [← Hy.out]
      refine (HR.out _).mono ?_
      rw [Hd.out]
      rintro e w3 ⟨A6, cap6, rfl, hl6, hb⟩
      have HS3 := Lib.hid (HS.out.grow hb)
      have HL6 : Hid (Lies w3 A6 (pc (Cm.zero).parts)) := Lib.hid hl6
      clear hb hl6 c0 HS
      go_upto_region 11 with (refine wpList_store_sub rfl 30 _ _ rfl g 9 rfl 32 (frC ⟨c, K, Cm.zero, Og.Oper.zero⟩ none 0) (cmdC Cm.zero A6 cap6) rfl ?_ (show 9 + 12 ≤ 37 by omega) (sizeCmdC _ _ _) (cmdC_one _ _ _) ?_; exact HS3.out.x)
      refine forget (fun W => St2 w W q g 32 (frC Fr.F.zero none 0) (frC ⟨c, K, Cm.zero, Og.Oper.zero⟩ A6 cap6) ∧ Lies W A6 (pc (Cm.zero).parts)) ⟨(HS3.out.setX 9 _).to rfl (layCmd _ _ _ _ _ _), HL6.out.sets (fr_apart HS3.out.x HL6.out)⟩ ?_
      clear HS3 HL6
      rintro V3 ⟨S3, L3⟩
      have HS4 := Lib.hid S3
      have HL4 := Lib.hid L3
      clear S3 L3
      go_wp2_with ((refine wpList_store_sub rfl 32 _ _ rfl q 0 rfl 32 (frC Fr.F.zero none 0) (frC Fr.F.zero none 0) rfl ?_ (Nat.le_refl 37) (sizeFrC _ _ _) (frC_one _ _ _) ?_; exact HS4.out.z))
      have hres := results_ct (P := Try.prog) (fn := Try.f13) rfl
      refine bodyPost_ret (hres _ _ q 32 (frC Fr.F.zero none 0) (0, 0) _ rfl ((HS4.out.setZ 0 (frC Fr.F.zero none 0).toList).to (layFr _ _ _ _ _ _) rfl).z Try.underlying32 rfl sizeFr) rfl ⟨none, 0, by rw [E.out]; rfl, by rw [E.out]; exact .inl rfl, (HS4.out.setZ 0 _).b⟩
    have E : Hid (Fr.read s.data.toList = some ⟨c, K, m, Og.Oper.zero⟩) := Lib.hid (by rw [hE, hd, k1]; rfl)
    have Hd := Lib.hid hd
    clear hd hE k1
    go_enter Try.func13, Try.ntmps13
    go_upto_region 3 with (fail)
    refine forget (fun W => Below w.heap.size w W ∧ W.heap[w.heap.size]? = some (.cells (frC Fr.F.zero none 0) 32 (0, 0))) ⟨bnew (Below.refl _ _) _, heap_alloc_new w _⟩ ?_
    rintro V9 ⟨hb9, hr9⟩
    have HV9 := Lib.hid (And.intro hb9 (And.intro hr9 (Array.getElem?_eq_some_iff.1 hr9).1))
    clear hb9 hr9
    go_upto_region 4 with (refine wpList_store_sub rfl 32 _ _ rfl V9.heap.size 0 rfl 32 (frC Fr.F.zero none 0) (frC ⟨s[0].toNat, Og.Tk.zero, Cm.zero, Og.Oper.zero⟩ none 0) rfl ?_ (Nat.le_refl 37) (sizeFrC _ _ _) (frC_one _ _ _) ?_; exact heap_alloc_new V9 _)
    refine forget (fun W => St2 w W w.heap.size V9.heap.size 32 (frC Fr.F.zero none 0) (frC ⟨c, Og.Tk.zero, Cm.zero, Og.Oper.zero⟩ none 0)) (by
      obtain ⟨q1, q2, q3⟩ := HV9.out
      have S9 : St2 w (V9.alloc (.cells (frC Fr.F.zero none 0) 32)) w.heap.size V9.heap.size 32 (frC Fr.F.zero none 0) (frC Fr.F.zero none 0) := ⟨bnew q1 _, Nat.le_refl _, q1.size, Nat.ne_of_lt q3, (Below.heap_alloc _ _ _ q3).trans q2, heap_alloc_new V9 _⟩
      rw [Hc.out]
      exact (S9.setX 0 (frC ⟨s[0].toNat, Og.Tk.zero, Cm.zero, Og.Oper.zero⟩ none 0).toList).to rfl (layFr _ _ _ _ _ _)) ?_
    obtain ⟨q, hq⟩ : ∃ q, q = w.heap.size := ⟨_, rfl⟩
    obtain ⟨g, hg⟩ : ∃ g, g = V9.heap.size := ⟨_, rfl⟩
    rw [← hg, ← hq]
    clear hg hq HV9 V9
    intro V0 S0
    go_still_tail 4, (by kernel_rfl)
    change wpList _ _ _ _ _ V0.drew
    have S0 := S0.drew
    generalize V0.drew = V1 at *
    have hcp := copy8at V1 g 1 x _ 32 S0.x (by show 1 + 8 ≤ 37; omega) Hx8.out
    rw [HK.out, layTok] at hcp
    have S1 : St2 w (V1.setRow g (frC ⟨c, K, Cm.zero, Og.Oper.zero⟩ none 0)) q g 32 (frC Fr.F.zero none 0) (frC ⟨c, K, Cm.zero, Og.Oper.zero⟩ none 0) :=
      ⟨⟨S0.b.os, S0.b.tape, S0.b.output, by simpa using S0.b.size, fun k hk => (setRow_other _ _ _ _ (by have := S0.hg; omega)).trans (S0.b.block k hk)⟩, S0.hq, S0.hg, S0.ne, (setRow_other _ _ _ _ S0.ne).trans S0.z, setRow_heap V1 g _ _ 32 (0, 0) S0.x⟩
    obtain ⟨V2, hV2⟩ : ∃ V, V = V1.setRow g (frC ⟨c, K, Cm.zero, Og.Oper.zero⟩ none 0) := ⟨_, rfl⟩
    rw [← hV2] at hcp S1
    rw [← Hx.out]
    have HS := Lib.hid S1
    clear S0 S1 hV2
    go_upto_region 5 with (fail)
    clear hcp
    have c0 := (frAt HS.out.x).c0
    go_wp2_with fail
    rw [← Hy.out]
    refine (HR.out _).mono ?_
    rw [Hd.out]
    rintro e w3 ⟨A6, cap6, rfl, hl6, hb⟩
    have HS3 := Lib.hid (HS.out.grow hb)
    have HL6 : Hid (Lies w3 A6 (pc (m).parts)) := Lib.hid hl6
    clear hb hl6 c0 HS
    go_upto_region 11 with (refine wpList_store_sub rfl 30 _ _ rfl g 9 rfl 32 (frC ⟨c, K, Cm.zero, Og.Oper.zero⟩ none 0) (cmdC m A6 cap6) rfl ?_ (show 9 + 12 ≤ 37 by omega) (sizeCmdC _ _ _) (cmdC_one _ _ _) ?_; exact HS3.out.x)
    refine forget (fun W => St2 w W q g 32 (frC Fr.F.zero none 0) (frC ⟨c, K, m, Og.Oper.zero⟩ A6 cap6) ∧ Lies W A6 (pc (m).parts)) ⟨(HS3.out.setX 9 _).to rfl (layCmd _ _ _ _ _ _), HL6.out.sets (fr_apart HS3.out.x HL6.out)⟩ ?_
    clear HS3 HL6
    rintro V3 ⟨S3, L3⟩
    have HS4 := Lib.hid S3
    have HL4 := Lib.hid L3
    clear S3 L3
    go_wp2_with (first | ((refine wpList_load_sub rfl 32 _ rfl g 0 rfl 32 _ (frC ⟨c, K, m, Og.Oper.zero⟩ A6 cap6) (0, 0) _ ?_ (subAll _) Try.underlying32 rfl (sizeFrC _ _ _) ?_; exact HS4.out.x)) | ((refine wpList_store_sub rfl 32 _ _ rfl q 0 rfl 32 (frC Fr.F.zero none 0) (frC ⟨c, K, m, Og.Oper.zero⟩ A6 cap6) rfl ?_ (Nat.le_refl 37) (sizeFrC _ _ _) (frC_one _ _ _) ?_; exact HS4.out.z)))
    have hres := results_ct (P := Try.prog) (fn := Try.f13) rfl
    refine bodyPost_ret (hres _ _ q 32 (frC ⟨c, K, m, Og.Oper.zero⟩ A6 cap6) (0, 0) _ rfl ((HS4.out.setZ 0 (frC ⟨c, K, m, Og.Oper.zero⟩ A6 cap6).toList).to (layFr _ _ _ _ _ _) rfl).z Try.underlying32 rfl sizeFr) rfl ⟨_, _, by rw [E.out]; rfl, by rw [E.out]; exact HL4.out.sets (fr_apart HS4.out.z HL4.out), (HS4.out.setZ 0 _).b⟩
  rw [if_neg k1] at hE
  have e1 : ((c : Int) == 1) = false := kd_f k1
  by_cases k2 : c = 2
  case pos =>
    rw [if_pos k2] at hE
    have e2 : ((c : Int) == 2) = true := kd_t k2
    rcases hd : Wk.oin y.data.toList with _ | m
    · have E : Hid (Fr.read s.data.toList = none) := Lib.hid (by rw [hE, hd]; rfl)
      have Hd := Lib.hid hd
      clear hd hE k1 k2
      go_enter Try.func13, Try.ntmps13
      go_upto_region 3 with (fail)
      refine forget (fun W => Below w.heap.size w W ∧ W.heap[w.heap.size]? = some (.cells (frC Fr.F.zero none 0) 32 (0, 0))) ⟨bnew (Below.refl _ _) _, heap_alloc_new w _⟩ ?_
      rintro V9 ⟨hb9, hr9⟩
      have HV9 := Lib.hid (And.intro hb9 (And.intro hr9 (Array.getElem?_eq_some_iff.1 hr9).1))
      clear hb9 hr9
      go_upto_region 4 with (refine wpList_store_sub rfl 32 _ _ rfl V9.heap.size 0 rfl 32 (frC Fr.F.zero none 0) (frC ⟨s[0].toNat, Og.Tk.zero, Cm.zero, Og.Oper.zero⟩ none 0) rfl ?_ (Nat.le_refl 37) (sizeFrC _ _ _) (frC_one _ _ _) ?_; exact heap_alloc_new V9 _)
      refine forget (fun W => St2 w W w.heap.size V9.heap.size 32 (frC Fr.F.zero none 0) (frC ⟨c, Og.Tk.zero, Cm.zero, Og.Oper.zero⟩ none 0)) (by
        obtain ⟨q1, q2, q3⟩ := HV9.out
        have S9 : St2 w (V9.alloc (.cells (frC Fr.F.zero none 0) 32)) w.heap.size V9.heap.size 32 (frC Fr.F.zero none 0) (frC Fr.F.zero none 0) := ⟨bnew q1 _, Nat.le_refl _, q1.size, Nat.ne_of_lt q3, (Below.heap_alloc _ _ _ q3).trans q2, heap_alloc_new V9 _⟩
        rw [Hc.out]
        exact (S9.setX 0 (frC ⟨s[0].toNat, Og.Tk.zero, Cm.zero, Og.Oper.zero⟩ none 0).toList).to rfl (layFr _ _ _ _ _ _)) ?_
      obtain ⟨q, hq⟩ : ∃ q, q = w.heap.size := ⟨_, rfl⟩
      obtain ⟨g, hg⟩ : ∃ g, g = V9.heap.size := ⟨_, rfl⟩
      rw [← hg, ← hq]
      clear hg hq HV9 V9
      intro V0 S0
      go_still_tail 4, (by kernel_rfl)
      change wpList _ _ _ _ _ V0.drew
      have S0 := S0.drew
      generalize V0.drew = V1 at *
      have hcp := copy8at V1 g 1 x _ 32 S0.x (by show 1 + 8 ≤ 37; omega) Hx8.out
      rw [HK.out, layTok] at hcp
      have S1 : St2 w (V1.setRow g (frC ⟨c, K, Cm.zero, Og.Oper.zero⟩ none 0)) q g 32 (frC Fr.F.zero none 0) (frC ⟨c, K, Cm.zero, Og.Oper.zero⟩ none 0) :=
        ⟨⟨S0.b.os, S0.b.tape, S0.b.output, by simpa using S0.b.size, fun k hk => (setRow_other _ _ _ _ (by have := S0.hg; omega)).trans (S0.b.block k hk)⟩, S0.hq, S0.hg, S0.ne, (setRow_other _ _ _ _ S0.ne).trans S0.z, setRow_heap V1 g _ _ 32 (0, 0) S0.x⟩
      obtain ⟨V2, hV2⟩ : ∃ V, V = V1.setRow g (frC ⟨c, K, Cm.zero, Og.Oper.zero⟩ none 0) := ⟨_, rfl⟩
      rw [← hV2] at hcp S1
      rw [← Hx.out]
      have HS := Lib.hid S1
      clear S0 S1 hV2
      go_upto_region 5 with (fail)
      clear hcp
      have c0 := (frAt HS.out.x).c0
      go_wp2_with fail
      rw [← Hy.out]
      refine (HO.out _).mono ?_
      rw [Hd.out]
      rintro e w3 ⟨rfl, hb⟩
      have HS3 := Lib.hid (HS.out.grow hb)
      clear hb c0 HS
      go_upto_region 11 with (refine wpList_store_sub rfl 26 _ _ rfl g 21 rfl 32 (frC ⟨c, K, Cm.zero, Og.Oper.zero⟩ none 0) (operC Og.Oper.zero) rfl ?_ (show 21 + 16 ≤ 37 by omega) (sizeOpC _) (operC_one _) ?_; exact HS3.out.x)
      refine forget (fun W => St2 w W q g 32 (frC Fr.F.zero none 0) (frC ⟨c, K, Cm.zero, Og.Oper.zero⟩ none 0)) ((HS3.out.setX 21 _).to rfl (layOp _ _ _ _)) ?_
      clear HS3
      intro V3 S3
      have HS4 := Lib.hid S3
      clear S3
      go_wp2_with ((refine wpList_store_sub rfl 32 _ _ rfl q 0 rfl 32 (frC Fr.F.zero none 0) (frC Fr.F.zero none 0) rfl ?_ (Nat.le_refl 37) (sizeFrC _ _ _) (frC_one _ _ _) ?_; exact HS4.out.z))
      have hres := results_ct (P := Try.prog) (fn := Try.f13) rfl
      refine bodyPost_ret (hres _ _ q 32 (frC Fr.F.zero none 0) (0, 0) _ rfl ((HS4.out.setZ 0 (frC Fr.F.zero none 0).toList).to (layFr _ _ _ _ _ _) rfl).z Try.underlying32 rfl sizeFr) rfl ⟨none, 0, by rw [E.out]; rfl, by rw [E.out]; exact .inl rfl, (HS4.out.setZ 0 _).b⟩
    have E : Hid (Fr.read s.data.toList = some ⟨c, K, Cm.zero, m⟩) := Lib.hid (by rw [hE, hd, k2]; rfl)
    have Hd := Lib.hid hd
    clear hd hE k1 k2
    go_enter Try.func13, Try.ntmps13
    go_upto_region 3 with (fail)
    refine forget (fun W => Below w.heap.size w W ∧ W.heap[w.heap.size]? = some (.cells (frC Fr.F.zero none 0) 32 (0, 0))) ⟨bnew (Below.refl _ _) _, heap_alloc_new w _⟩ ?_
    rintro V9 ⟨hb9, hr9⟩
    have HV9 := Lib.hid (And.intro hb9 (And.intro hr9 (Array.getElem?_eq_some_iff.1 hr9).1))
    clear hb9 hr9
    go_upto_region 4 with (refine wpList_store_sub rfl 32 _ _ rfl V9.heap.size 0 rfl 32 (frC Fr.F.zero none 0) (frC ⟨s[0].toNat, Og.Tk.zero, Cm.zero, Og.Oper.zero⟩ none 0) rfl ?_ (Nat.le_refl 37) (sizeFrC _ _ _) (frC_one _ _ _) ?_; exact heap_alloc_new V9 _)
    refine forget (fun W => St2 w W w.heap.size V9.heap.size 32 (frC Fr.F.zero none 0) (frC ⟨c, Og.Tk.zero, Cm.zero, Og.Oper.zero⟩ none 0)) (by
      obtain ⟨q1, q2, q3⟩ := HV9.out
      have S9 : St2 w (V9.alloc (.cells (frC Fr.F.zero none 0) 32)) w.heap.size V9.heap.size 32 (frC Fr.F.zero none 0) (frC Fr.F.zero none 0) := ⟨bnew q1 _, Nat.le_refl _, q1.size, Nat.ne_of_lt q3, (Below.heap_alloc _ _ _ q3).trans q2, heap_alloc_new V9 _⟩
      rw [Hc.out]
      exact (S9.setX 0 (frC ⟨s[0].toNat, Og.Tk.zero, Cm.zero, Og.Oper.zero⟩ none 0).toList).to rfl (layFr _ _ _ _ _ _)) ?_
    obtain ⟨q, hq⟩ : ∃ q, q = w.heap.size := ⟨_, rfl⟩
    obtain ⟨g, hg⟩ : ∃ g, g = V9.heap.size := ⟨_, rfl⟩
    rw [← hg, ← hq]
    clear hg hq HV9 V9
    intro V0 S0
    go_still_tail 4, (by kernel_rfl)
    change wpList _ _ _ _ _ V0.drew
    have S0 := S0.drew
    generalize V0.drew = V1 at *
    have hcp := copy8at V1 g 1 x _ 32 S0.x (by show 1 + 8 ≤ 37; omega) Hx8.out
    rw [HK.out, layTok] at hcp
    have S1 : St2 w (V1.setRow g (frC ⟨c, K, Cm.zero, Og.Oper.zero⟩ none 0)) q g 32 (frC Fr.F.zero none 0) (frC ⟨c, K, Cm.zero, Og.Oper.zero⟩ none 0) :=
      ⟨⟨S0.b.os, S0.b.tape, S0.b.output, by simpa using S0.b.size, fun k hk => (setRow_other _ _ _ _ (by have := S0.hg; omega)).trans (S0.b.block k hk)⟩, S0.hq, S0.hg, S0.ne, (setRow_other _ _ _ _ S0.ne).trans S0.z, setRow_heap V1 g _ _ 32 (0, 0) S0.x⟩
    obtain ⟨V2, hV2⟩ : ∃ V, V = V1.setRow g (frC ⟨c, K, Cm.zero, Og.Oper.zero⟩ none 0) := ⟨_, rfl⟩
    rw [← hV2] at hcp S1
    rw [← Hx.out]
    have HS := Lib.hid S1
    clear S0 S1 hV2
    go_upto_region 5 with (fail)
    clear hcp
    have c0 := (frAt HS.out.x).c0
    go_wp2_with fail
    rw [← Hy.out]
    refine (HO.out _).mono ?_
    rw [Hd.out]
    rintro e w3 ⟨rfl, hb⟩
    have HS3 := Lib.hid (HS.out.grow hb)
    clear hb c0 HS
    go_upto_region 11 with (refine wpList_store_sub rfl 26 _ _ rfl g 21 rfl 32 (frC ⟨c, K, Cm.zero, Og.Oper.zero⟩ none 0) (operC m) rfl ?_ (show 21 + 16 ≤ 37 by omega) (sizeOpC _) (operC_one _) ?_; exact HS3.out.x)
    refine forget (fun W => St2 w W q g 32 (frC Fr.F.zero none 0) (frC ⟨c, K, Cm.zero, m⟩ none 0)) ((HS3.out.setX 21 _).to rfl (layOp _ _ _ _)) ?_
    clear HS3
    intro V3 S3
    have HS4 := Lib.hid S3
    clear S3
    go_wp2_with (first | ((refine wpList_load_sub rfl 32 _ rfl g 0 rfl 32 _ (frC ⟨c, K, Cm.zero, m⟩ none 0) (0, 0) _ ?_ (subAll _) Try.underlying32 rfl (sizeFrC _ _ _) ?_; exact HS4.out.x)) | ((refine wpList_store_sub rfl 32 _ _ rfl q 0 rfl 32 (frC Fr.F.zero none 0) (frC ⟨c, K, Cm.zero, m⟩ none 0) rfl ?_ (Nat.le_refl 37) (sizeFrC _ _ _) (frC_one _ _ _) ?_; exact HS4.out.z)))
    have hres := results_ct (P := Try.prog) (fn := Try.f13) rfl
    refine bodyPost_ret (hres _ _ q 32 (frC ⟨c, K, Cm.zero, m⟩ none 0) (0, 0) _ rfl ((HS4.out.setZ 0 (frC ⟨c, K, Cm.zero, m⟩ none 0).toList).to (layFr _ _ _ _ _ _) rfl).z Try.underlying32 rfl sizeFr) rfl ⟨_, _, by rw [E.out]; rfl, by rw [E.out]; exact .inl rfl, (HS4.out.setZ 0 _).b⟩
  rw [if_neg k2] at hE
  have e2 : ((c : Int) == 2) = false := kd_f k2
  have E := Lib.hid hE
  clear hE k1 k2
  go_enter Try.func13, Try.ntmps13
  go_upto_region 3 with (fail)
  refine forget (fun W => Below w.heap.size w W ∧ W.heap[w.heap.size]? = some (.cells (frC Fr.F.zero none 0) 32 (0, 0))) ⟨bnew (Below.refl _ _) _, heap_alloc_new w _⟩ ?_
  rintro V9 ⟨hb9, hr9⟩
  have HV9 := Lib.hid (And.intro hb9 (And.intro hr9 (Array.getElem?_eq_some_iff.1 hr9).1))
  clear hb9 hr9
  go_upto_region 4 with (refine wpList_store_sub rfl 32 _ _ rfl V9.heap.size 0 rfl 32 (frC Fr.F.zero none 0) (frC ⟨s[0].toNat, Og.Tk.zero, Cm.zero, Og.Oper.zero⟩ none 0) rfl ?_ (Nat.le_refl 37) (sizeFrC _ _ _) (frC_one _ _ _) ?_; exact heap_alloc_new V9 _)
  refine forget (fun W => St2 w W w.heap.size V9.heap.size 32 (frC Fr.F.zero none 0) (frC ⟨c, Og.Tk.zero, Cm.zero, Og.Oper.zero⟩ none 0)) (by
    obtain ⟨q1, q2, q3⟩ := HV9.out
    have S9 : St2 w (V9.alloc (.cells (frC Fr.F.zero none 0) 32)) w.heap.size V9.heap.size 32 (frC Fr.F.zero none 0) (frC Fr.F.zero none 0) := ⟨bnew q1 _, Nat.le_refl _, q1.size, Nat.ne_of_lt q3, (Below.heap_alloc _ _ _ q3).trans q2, heap_alloc_new V9 _⟩
    rw [Hc.out]
    exact (S9.setX 0 (frC ⟨s[0].toNat, Og.Tk.zero, Cm.zero, Og.Oper.zero⟩ none 0).toList).to rfl (layFr _ _ _ _ _ _)) ?_
  obtain ⟨q, hq⟩ : ∃ q, q = w.heap.size := ⟨_, rfl⟩
  obtain ⟨g, hg⟩ : ∃ g, g = V9.heap.size := ⟨_, rfl⟩
  rw [← hg, ← hq]
  clear hg hq HV9 V9
  intro V0 S0
  go_still_tail 4, (by kernel_rfl)
  change wpList _ _ _ _ _ V0.drew
  have S0 := S0.drew
  generalize V0.drew = V1 at *
  have hcp := copy8at V1 g 1 x _ 32 S0.x (by show 1 + 8 ≤ 37; omega) Hx8.out
  rw [HK.out, layTok] at hcp
  have S1 : St2 w (V1.setRow g (frC ⟨c, K, Cm.zero, Og.Oper.zero⟩ none 0)) q g 32 (frC Fr.F.zero none 0) (frC ⟨c, K, Cm.zero, Og.Oper.zero⟩ none 0) :=
    ⟨⟨S0.b.os, S0.b.tape, S0.b.output, by simpa using S0.b.size, fun k hk => (setRow_other _ _ _ _ (by have := S0.hg; omega)).trans (S0.b.block k hk)⟩, S0.hq, S0.hg, S0.ne, (setRow_other _ _ _ _ S0.ne).trans S0.z, setRow_heap V1 g _ _ 32 (0, 0) S0.x⟩
  obtain ⟨V2, hV2⟩ : ∃ V, V = V1.setRow g (frC ⟨c, K, Cm.zero, Og.Oper.zero⟩ none 0) := ⟨_, rfl⟩
  rw [← hV2] at hcp S1
  rw [← Hx.out]
  have HS := Lib.hid S1
  clear S0 S1 hV2
  go_upto_region 5 with (fail)
  clear hcp
  have c0 := (frAt HS.out.x).c0
  go_wp2_with ((refine wpList_store_sub rfl 32 _ _ rfl q 0 rfl 32 (frC Fr.F.zero none 0) (frC Fr.F.zero none 0) rfl ?_ (Nat.le_refl 37) (sizeFrC _ _ _) (frC_one _ _ _) ?_; exact HS.out.z))
  have hres := results_ct (P := Try.prog) (fn := Try.f13) rfl
  refine bodyPost_ret (hres _ _ q 32 (frC Fr.F.zero none 0) (0, 0) _ rfl ((HS.out.setZ 0 (frC Fr.F.zero none 0).toList).to (layFr _ _ _ _ _ _) rfl).z Try.underlying32 rfl sizeFr) rfl ⟨none, 0, by rw [E.out]; rfl, by rw [E.out]; exact .inl rfl, (HS.out.setZ 0 _).b⟩
end Go.Proofs.Ytlcgjlganmblpaa
namespace Go.Proofs.Ytlcgjlganmblpaa
open Go.RowKit
set_option linter.unusedVariables false
namespace Fr
open Cm (rdB rdV rdB_iff rdV_iff one e0)
theorem rq_len {l r : List UInt8} {p : Nat × Nat} (h : rq l = some (p, r)) : r.length ≤ l.length := by
  unfold rq at h
  obtain ⟨⟨a, l1⟩, h1, ha⟩ := Option.bind_eq_some_iff.1 h
  simp only [] at ha
  obtain ⟨⟨b, l2⟩, h2, hb⟩ := Option.bind_eq_some_iff.1 ha
  simp only [Option.some.injEq, Prod.mk.injEq] at hb
  obtain ⟨_, e1⟩ := (rdV_iff _ _ _).1 h1
  obtain ⟨_, e2⟩ := (rdV_iff _ _ _).1 h2
  rw [e1, e2, ← hb.2]; simp only [List.length_append]; omega
theorem rread_1 {l l1 : List UInt8} (h : rdB l = some (1, l1)) : rread l = if l1 = [] then some ⟨1, 0, 0, 0, Rs.zero⟩ else none := by
  unfold rread rparse; rw [h]; simp
theorem rread_no {l l1 : List UInt8} {c : Nat} (h : rdB l = some (c, l1)) (h1 : c ≠ 1) (hq : rq l1 = none) : rread l = none := by
  unfold rread rparse; rw [h, Option.bind_some]
  simp only [if_neg h1]
  unfold rq at hq
  split
  · rcases hv : rdV l1 with _ | ⟨a, l2⟩
    · rfl
    · rw [hv] at hq
      simp only [Option.bind_some] at hq ⊢
      rcases hw : rdV l2 with _ | ⟨b, l3⟩
      · rfl
      · rw [hw] at hq; cases hq
  · rfl
theorem rread_k {l l1 l2 : List UInt8} {c a b : Nat} (h : rdB l = some (c, l1)) (h1 : c ≠ 1) (hq : rq l1 = some ((a, b), l2)) :
    rread l = if c = 3 then (rdB l2).bind fun (d, l3) => if l3 = [] ∧ d ≤ 5 then some ⟨3, a, b, d, Rs.zero⟩ else none
      else if c = 6 then (Rs.read l2).bind fun x => some ⟨6, a, b, 0, x⟩
      else if l2 = [] ∧ right ⟨c, a, b, 0, Rs.zero⟩ = true then some ⟨c, a, b, 0, Rs.zero⟩ else none := by
  unfold rq at hq
  obtain ⟨⟨a', m1⟩, g1, ha⟩ := Option.bind_eq_some_iff.1 hq
  simp only [] at ha
  obtain ⟨⟨b', m2⟩, g2, hb⟩ := Option.bind_eq_some_iff.1 ha
  simp only [Option.some.injEq, Prod.mk.injEq] at hb
  obtain ⟨⟨rfl, rfl⟩, rfl⟩ := hb
  unfold rread rparse; rw [h, Option.bind_some]
  simp only [if_neg h1]
  by_cases k26 : 2 ≤ c ∧ c ≤ 6
  · rw [if_pos k26, g1, Option.bind_some]
    simp only []
    rw [g2, Option.bind_some]
    simp only []
    by_cases k3 : c = 3
    · rw [if_pos k3, if_pos k3]
      rcases hd : rdB m2 with _ | ⟨d, l3⟩
      · rfl
      · simp only [Option.bind_some]
        by_cases d5 : d ≤ 5
        · rw [if_pos d5]; simp [d5]
        · rw [if_neg d5, if_neg (fun h => d5 h.2)]; rfl
    rw [if_neg k3, if_neg k3]
    by_cases k6 : c = 6
    · rw [if_pos k6, if_pos k6]
      unfold Rs.read
      rcases hp : Rs.parse m2 with _ | ⟨x, t⟩
      · rfl
      · simp only [Option.bind_some]
        by_cases ht : t = []
        · simp [ht]
        · simp [ht]
    rw [if_neg k6, if_neg k6]
    have k245 : c = 2 ∨ c = 4 ∨ c = 5 := by omega
    have hr : right ⟨c, a', b', 0, Rs.zero⟩ = true := by
      unfold right; simp only [if_neg h1, if_pos k245, (noRes_iff _).2]; rfl
    simp [hr]
  · rw [if_neg k26, if_neg (by omega), if_neg (by omega)]
    have hr : ¬ right ⟨c, a', b', 0, Rs.zero⟩ = true := by
      unfold right; simp only [if_neg h1]
      rw [if_neg (by omega), if_neg (by omega), if_neg (by omega)]; decide
    rw [if_neg (fun h => hr h.2)]; rfl
end Fr
/-- What a reader of replies answers. -/
def RetRp (o : Option Fr.R) (w : World) (e : Ending) (w' : World) : Prop :=
  ∃ A cap, e = .returned (.tuple #[.agg (rpC (o.getD Fr.R.zero) A cap), .bool o.isSome]) ∧ Lies w' A (rc (o.getD Fr.R.zero).res.rows) ∧ Below w.heap.size w w'
theorem rpSize (r : Fr.R) (A : Option Addr) (cap : Nat) : (rpC r A cap).size = 8 := rfl
theorem rcNil (A : Option Addr) (g : Nat) : Apart A (rc []) g := fun _ _ h => absurd rfl h
theorem neq_t {n m : Nat} (h : ¬ n = m) : ((n : Int) != (m : Int)) = true := by simp; omega
theorem neq_f {n m : Nat} (h : n = m) : ((n : Int) != (m : Int)) = false := by subst h; simp
set_option maxRecDepth 100000 in
set_option maxHeartbeats 4000000 in
theorem rrep_1 (s : ByteArray) (w : World) (hs : s.size ≤ 10000000) (hp : 0 < s.size) (hk : s[0].toNat = 1) : Calls Try.prog 14 #[.string s] w (RetRp (Fr.rread s.data.toList) w) := by
  have HU := Lib.hid (fun W => readU1 s (by omega) hp W)
  have HN := Lib.hid (fun (r : Fr.R) (A : Option Addr) (cap : Nat) W => fright_any r A cap W)
  have p1 : (1 : Int) ≤ (s.size : Int) := by omega
  have wk : IntKind.u8.wrap (s[0].toNat : Int) = (s[0].toNat : Int) := u8w _ s[0].toNat_lt
  obtain ⟨x, hx⟩ : ∃ x, x = s.extract 1 s.size := ⟨_, rfl⟩
  have zx : x.size ≤ 10000000 := by rw [hx, ByteArray.size_extract]; omega
  have Hx := Lib.hid hx
  have hB := rdBx s hp
  rw [← hx] at hB
  obtain ⟨c, hc⟩ : ∃ c : Nat, c = s[0].toNat := ⟨_, rfl⟩
  rw [← hc] at HU wk hB hk
  have n1 : ((c : Int) != 1) = false := neq_f hk
  have e1 : ((c : Int) == 1) = true := kd_t hk
  have e3 : ((c : Int) == 3) = false := kd_f (m := 3) (by omega)
  have e6 : ((c : Int) == 6) = false := kd_f (m := 6) (by omega)
  rw [hk] at hB
  have hE := Fr.rread_1 hB
  have Hk := Lib.hid hk
  clear hp hs hc hx hB hk
  by_cases h0 : x.size = 0
  case neg =>
    have E : Hid (Fr.rread s.data.toList = none) := Lib.hid (by rw [hE, if_neg (fun h => h0 (by rw [Lib.size_eq, h]; rfl))])
    have hem := emp_f h0
    clear h0 hE
    go_enter Try.func14, Try.ntmps14
    go_wp2_with fail
    refine (HU.out _).mono ?_
    rintro e w1 ⟨rfl, rfl⟩
    go_upto_region 4 with (fail)
    refine forget (fun W => Below w.heap.size w W ∧ W.heap[w.heap.size]? = some (.cells (rpC Fr.R.zero none 0) 39 (0, 0))) ⟨bnew (Below.refl _ _) _, heap_alloc_new w _⟩ ?_
    rintro W1 ⟨hbW, hrow⟩
    have HH := Lib.hid (And.intro hbW hrow)
    clear hbW hrow
    go_region
    go_upto_region 5 with (fail)
    rw [← Hx.out]
    refine forget (fun W => St2 w W w.heap.size W1.heap.size 39 (rpC Fr.R.zero none 0) (rpC ⟨c, 0, 0, 0, Rs.zero⟩ none 0)) (by
      obtain ⟨q1, q2⟩ := HH.out
      have hlt := (Array.getElem?_eq_some_iff.1 q2).1
      exact St2.drew ⟨bnew q1 _, Nat.le_refl _, q1.size, Nat.ne_of_lt hlt, (Below.heap_alloc _ _ _ hlt).trans q2, heap_alloc_new W1 _⟩) ?_
    obtain ⟨g, hg⟩ : ∃ g, g = W1.heap.size := ⟨_, rfl⟩
    obtain ⟨q, hq0⟩ : ∃ q, q = w.heap.size := ⟨_, rfl⟩
    rw [← hg, ← hq0]
    clear hg hq0 HH wk p1
    intro V0 S0
    have HS := Lib.hid S0
    clear S0
    have c0 := (rpAt HS.out.x).c0
    have c1 := (rpAt HS.out.x).c1
    have c2 := (rpAt HS.out.x).c2
    have z1 := (rpAt HS.out.x).fz 1
    have z2 := (rpAt HS.out.x).fz 2
    go_wp2_with (refine wpList_store_sub rfl 39 _ _ rfl q 0 rfl 39 _ (rpC Fr.R.zero none 0) rfl HS.out.z (Nat.le_refl 8) (sizeRpC _ _ _) (rpC_one _ _ _) ?_)
    have hres := results_ct (P := Try.prog) (fn := Try.f14) rfl
    refine bodyPost_ret (hres _ _ q 39 (rpC Fr.R.zero none 0) (0, 0) _ rfl ((HS.out.setZ 0 (rpC Fr.R.zero none 0).toList).to (layRp _ _ _ _ _ _) rfl).z Try.underlying39 rfl sizeRp) rfl ⟨none, 0, by rw [E.out]; rfl, by rw [E.out]; exact .inl rfl, (HS.out.setZ 0 _).b⟩
  have E : Hid (Fr.rread s.data.toList = some ⟨1, 0, 0, 0, Rs.zero⟩) := Lib.hid (by rw [hE, if_pos (List.eq_nil_of_length_eq_zero (by rw [← Lib.size_eq]; exact h0))])
  have hem := emp_t h0
  have Hr : Hid (Fr.right ⟨c, 0, 0, 0, Rs.zero⟩ = true) := Lib.hid (by rw [Hk.out]; rfl)
  clear h0 hE
  go_enter Try.func14, Try.ntmps14
  go_wp2_with fail
  refine (HU.out _).mono ?_
  rintro e w1 ⟨rfl, rfl⟩
  go_upto_region 4 with (fail)
  refine forget (fun W => Below w.heap.size w W ∧ W.heap[w.heap.size]? = some (.cells (rpC Fr.R.zero none 0) 39 (0, 0))) ⟨bnew (Below.refl _ _) _, heap_alloc_new w _⟩ ?_
  rintro W1 ⟨hbW, hrow⟩
  have HH := Lib.hid (And.intro hbW hrow)
  clear hbW hrow
  go_region
  go_upto_region 5 with (fail)
  rw [← Hx.out]
  refine forget (fun W => St2 w W w.heap.size W1.heap.size 39 (rpC Fr.R.zero none 0) (rpC ⟨c, 0, 0, 0, Rs.zero⟩ none 0)) (by
    obtain ⟨q1, q2⟩ := HH.out
    have hlt := (Array.getElem?_eq_some_iff.1 q2).1
    exact St2.drew ⟨bnew q1 _, Nat.le_refl _, q1.size, Nat.ne_of_lt hlt, (Below.heap_alloc _ _ _ hlt).trans q2, heap_alloc_new W1 _⟩) ?_
  obtain ⟨g, hg⟩ : ∃ g, g = W1.heap.size := ⟨_, rfl⟩
  obtain ⟨q, hq0⟩ : ∃ q, q = w.heap.size := ⟨_, rfl⟩
  rw [← hg, ← hq0]
  clear hg hq0 HH wk p1
  intro V0 S0
  have HS := Lib.hid S0
  clear S0
  have c0 := (rpAt HS.out.x).c0
  have c1 := (rpAt HS.out.x).c1
  have c2 := (rpAt HS.out.x).c2
  have z1 := (rpAt HS.out.x).fz 1
  have z2 := (rpAt HS.out.x).fz 2
  go_wp2_with (refine wpList_load_sub rfl 39 _ rfl g 0 rfl 39 _ (rpC ⟨c, 0, 0, 0, Rs.zero⟩ none 0) (0, 0) _ HS.out.x (subAll _) Try.underlying39 rfl (sizeRpC _ _ _) ?_)
  refine (HN.out _ _ _ _).mono ?_
  rw [Hr.out]
  rintro e w9 ⟨rfl, hb9⟩
  have HS9 := Lib.hid (HS.out.grow hb9)
  clear hb9 HS c0 c1 c2 z1 z2
  rw [Hk.out] at HS9
  go_wp2_with (first | (refine wpList_load_sub rfl 39 _ rfl g 0 rfl 39 _ (rpC ⟨1, 0, 0, 0, Rs.zero⟩ none 0) (0, 0) _ HS9.out.x (subAll _) Try.underlying39 rfl (sizeRpC _ _ _) ?_) | (refine wpList_store_sub rfl 39 _ _ rfl q 0 rfl 39 _ (rpC ⟨1, 0, 0, 0, Rs.zero⟩ none 0) rfl HS9.out.z (Nat.le_refl 8) (sizeRpC _ _ _) (rpC_one _ _ _) ?_))
  have hres := results_ct (P := Try.prog) (fn := Try.f14) rfl
  refine bodyPost_ret (hres _ _ q 39 (rpC ⟨1, 0, 0, 0, Rs.zero⟩ none 0) (0, 0) _ rfl ((HS9.out.setZ 0 (rpC ⟨1, 0, 0, 0, Rs.zero⟩ none 0).toList).to (layRp _ _ _ _ _ _) rfl).z Try.underlying39 rfl sizeRp) rfl ⟨_, _, by rw [E.out]; rfl, by rw [E.out]; exact .inl rfl, (HS9.out.setZ 0 _).b⟩
set_option maxRecDepth 100000 in
set_option maxHeartbeats 4000000 in
theorem rrep_n (s : ByteArray) (w : World) (hs : s.size ≤ 10000000) (hp : 0 < s.size) (hk : s[0].toNat ≠ 1) : Calls Try.prog 14 #[.string s] w (RetRp (Fr.rread s.data.toList) w) := by
  have HU := Lib.hid (fun W => readU1 s (by omega) hp W)
  have HN := Lib.hid (fun (r : Fr.R) (A : Option Addr) (cap : Nat) W => fright_any r A cap W)
  have p1 : (1 : Int) ≤ (s.size : Int) := by omega
  have wk : IntKind.u8.wrap (s[0].toNat : Int) = (s[0].toNat : Int) := u8w _ s[0].toNat_lt
  obtain ⟨x, hx⟩ : ∃ x, x = s.extract 1 s.size := ⟨_, rfl⟩
  have zx : x.size ≤ 10000000 := by rw [hx, ByteArray.size_extract]; omega
  have Hx := Lib.hid hx
  have hB := rdBx s hp
  rw [← hx] at hB
  obtain ⟨c, hc⟩ : ∃ c : Nat, c = s[0].toNat := ⟨_, rfl⟩
  rw [← hc] at HU wk hB hk
  have n1 : ((c : Int) != 1) = true := neq_t hk
  have HRQ := Lib.hid (fun W => readReq_any x W (by omega))
  rcases hq : Fr.rq x.data.toList with _ | ⟨⟨a, b⟩, l2⟩
  · have E : Hid (Fr.rread s.data.toList = none) := Lib.hid (Fr.rread_no hB hk hq)
    have Hq := Lib.hid hq
    clear hp hs hc hx hB hk hq
    go_enter Try.func14, Try.ntmps14
    go_wp2_with fail
    refine (HU.out _).mono ?_
    rintro e w1 ⟨rfl, rfl⟩
    go_upto_region 4 with (fail)
    refine forget (fun W => Below w.heap.size w W ∧ W.heap[w.heap.size]? = some (.cells (rpC Fr.R.zero none 0) 39 (0, 0))) ⟨bnew (Below.refl _ _) _, heap_alloc_new w _⟩ ?_
    rintro W1 ⟨hbW, hrow⟩
    have HH := Lib.hid (And.intro hbW hrow)
    clear hbW hrow
    go_region
    go_upto_region 5 with (fail)
    rw [← Hx.out]
    refine forget (fun W => St2 w W w.heap.size W1.heap.size 39 (rpC Fr.R.zero none 0) (rpC ⟨c, 0, 0, 0, Rs.zero⟩ none 0)) (by
      obtain ⟨q1, q2⟩ := HH.out
      have hlt := (Array.getElem?_eq_some_iff.1 q2).1
      exact St2.drew ⟨bnew q1 _, Nat.le_refl _, q1.size, Nat.ne_of_lt hlt, (Below.heap_alloc _ _ _ hlt).trans q2, heap_alloc_new W1 _⟩) ?_
    obtain ⟨g, hg⟩ : ∃ g, g = W1.heap.size := ⟨_, rfl⟩
    obtain ⟨q, hq0⟩ : ∃ q, q = w.heap.size := ⟨_, rfl⟩
    rw [← hg, ← hq0]
    clear hg hq0 HH wk p1
    intro V0 S0
    have HS := Lib.hid S0
    clear S0
    have c0 := (rpAt HS.out.x).c0
    have c1 := (rpAt HS.out.x).c1
    have c2 := (rpAt HS.out.x).c2
    have z1 := (rpAt HS.out.x).fz 1
    have z2 := (rpAt HS.out.x).fz 2
    go_wp2_with fail
    refine (HRQ.out _).mono ?_
    rw [Hq.out, rqV]
    rintro e w2 ⟨rfl, hb⟩
    have HS1 := Lib.hid (HS.out.grow hb)
    clear hb c0 c1 c2 z1 z2 HS
    have c1 := (rpAt HS1.out.x).c1
    have c2 := (rpAt HS1.out.x).c2
    have z1 := (rpAt HS1.out.x).fz 1
    have z2 := (rpAt HS1.out.x).fz 2
    go_upto_region 7 with (fail)
    refine forget (fun W => St2 w W q g 39 (rpC Fr.R.zero none 0) (rpC ⟨c, 0, 0, 0, Rs.zero⟩ none 0)) (((HS1.out.cellX 1 _).cellX 2 _).to rfl (by simp [rpC])) ?_
    clear c1 c2 z1 z2 HS1
    intro V1 S1
    have HS2 := Lib.hid S1
    clear S1
    have c0 := (rpAt HS2.out.x).c0
    have c3 := (rpAt HS2.out.x).c3
    have z3 := (rpAt HS2.out.x).fz 3
    go_wp2_with (refine wpList_store_sub rfl 39 _ _ rfl q 0 rfl 39 _ (rpC Fr.R.zero none 0) rfl HS2.out.z (Nat.le_refl 8) (sizeRpC _ _ _) (rpC_one _ _ _) ?_)
    have hres := results_ct (P := Try.prog) (fn := Try.f14) rfl
    refine bodyPost_ret (hres _ _ q 39 (rpC Fr.R.zero none 0) (0, 0) _ rfl ((HS2.out.setZ 0 (rpC Fr.R.zero none 0).toList).to (layRp _ _ _ _ _ _) rfl).z Try.underlying39 rfl sizeRp) rfl ⟨none, 0, by rw [E.out]; rfl, by rw [E.out]; exact .inl rfl, (HS2.out.setZ 0 _).b⟩
  have hE := Fr.rread_k hB hk hq
  have hl2 := Fr.rq_len hq
  rw [← Lib.size_eq] at hl2
  obtain ⟨y, hy⟩ : ∃ y : ByteArray, y = ⟨l2.toArray⟩ := ⟨_, rfl⟩
  have hyl : y.data.toList = l2 := by rw [hy]
  have zy : y.size ≤ 10000000 := by rw [Lib.size_eq, hyl]; omega
  have Hq := Lib.hid hq
  have Hy := Lib.hid hy
  clear hq hp hs hc hx hB hy hl2
  by_cases k3 : c = 3
  case pos =>
    rw [if_pos k3] at hE
    have e1 : ((c : Int) == 1) = false := kd_f (m := 1) (by omega)
    have e3 : ((c : Int) == 3) = true := kd_t k3
    have e6 : ((c : Int) == 6) = false := kd_f (m := 6) (by omega)
    have Hk3 := Lib.hid k3
    have HL := Lib.hid (fun W => readLead_any y W (by omega))
    rw [hyl] at HL
    rcases hd : Cm.rdB l2 with _ | ⟨d, l3⟩
    · have E : Hid (Fr.rread s.data.toList = none) := Lib.hid (by rw [hE, hd]; rfl)
      have Hd := Lib.hid hd
      clear hd hE hk k3 hyl
      go_enter Try.func14, Try.ntmps14
      go_wp2_with fail
      refine (HU.out _).mono ?_
      rintro e w1 ⟨rfl, rfl⟩
      go_upto_region 4 with (fail)
      refine forget (fun W => Below w.heap.size w W ∧ W.heap[w.heap.size]? = some (.cells (rpC Fr.R.zero none 0) 39 (0, 0))) ⟨bnew (Below.refl _ _) _, heap_alloc_new w _⟩ ?_
      rintro W1 ⟨hbW, hrow⟩
      have HH := Lib.hid (And.intro hbW hrow)
      clear hbW hrow
      go_region
      go_upto_region 5 with (fail)
      rw [← Hx.out]
      refine forget (fun W => St2 w W w.heap.size W1.heap.size 39 (rpC Fr.R.zero none 0) (rpC ⟨c, 0, 0, 0, Rs.zero⟩ none 0)) (by
        obtain ⟨q1, q2⟩ := HH.out
        have hlt := (Array.getElem?_eq_some_iff.1 q2).1
        exact St2.drew ⟨bnew q1 _, Nat.le_refl _, q1.size, Nat.ne_of_lt hlt, (Below.heap_alloc _ _ _ hlt).trans q2, heap_alloc_new W1 _⟩) ?_
      obtain ⟨g, hg⟩ : ∃ g, g = W1.heap.size := ⟨_, rfl⟩
      obtain ⟨q, hq0⟩ : ∃ q, q = w.heap.size := ⟨_, rfl⟩
      rw [← hg, ← hq0]
      clear hg hq0 HH wk p1
      intro V0 S0
      have HS := Lib.hid S0
      clear S0
      have c0 := (rpAt HS.out.x).c0
      have c1 := (rpAt HS.out.x).c1
      have c2 := (rpAt HS.out.x).c2
      have z1 := (rpAt HS.out.x).fz 1
      have z2 := (rpAt HS.out.x).fz 2
      go_wp2_with fail
      refine (HRQ.out _).mono ?_
      rw [Hq.out, rqV]
      rw [← Hy.out]
      rintro e w2 ⟨rfl, hb⟩
      have HS1 := Lib.hid (HS.out.grow hb)
      clear hb c0 c1 c2 z1 z2 HS
      have c1 := (rpAt HS1.out.x).c1
      have c2 := (rpAt HS1.out.x).c2
      have z1 := (rpAt HS1.out.x).fz 1
      have z2 := (rpAt HS1.out.x).fz 2
      go_upto_region 7 with (fail)
      refine forget (fun W => St2 w W q g 39 (rpC Fr.R.zero none 0) (rpC ⟨c, a, b, 0, Rs.zero⟩ none 0)) (((HS1.out.cellX 1 _).cellX 2 _).to rfl (by simp [rpC])) ?_
      clear c1 c2 z1 z2 HS1
      intro V1 S1
      have HS2 := Lib.hid S1
      clear S1
      have c0 := (rpAt HS2.out.x).c0
      have c3 := (rpAt HS2.out.x).c3
      have z3 := (rpAt HS2.out.x).fz 3
      go_wp2_with fail
      refine (HL.out _).mono ?_
      rw [Hd.out, rlV]
      rintro e w3 ⟨rfl, hb⟩
      have HS3 := Lib.hid (HS2.out.grow hb)
      clear hb c0 c3 z3 HS2
      have c3 := (rpAt HS3.out.x).c3
      have z3 := (rpAt HS3.out.x).fz 3
      go_upto_region 9 with (fail)
      refine forget (fun W => St2 w W q g 39 (rpC Fr.R.zero none 0) (rpC ⟨c, a, b, 0, Rs.zero⟩ none 0)) ((HS3.out.cellX 3 _).to rfl (by simp [rpC])) ?_
      clear c3 z3 HS3
      intro V3 S3
      have HS4 := Lib.hid S3
      clear S3
      have c0 := (rpAt HS4.out.x).c0
      go_wp2_with (refine wpList_store_sub rfl 39 _ _ rfl q 0 rfl 39 _ (rpC Fr.R.zero none 0) rfl HS4.out.z (Nat.le_refl 8) (sizeRpC _ _ _) (rpC_one _ _ _) ?_)
      have hres := results_ct (P := Try.prog) (fn := Try.f14) rfl
      refine bodyPost_ret (hres _ _ q 39 (rpC Fr.R.zero none 0) (0, 0) _ rfl ((HS4.out.setZ 0 (rpC Fr.R.zero none 0).toList).to (layRp _ _ _ _ _ _) rfl).z Try.underlying39 rfl sizeRp) rfl ⟨none, 0, by rw [E.out]; rfl, by rw [E.out]; exact .inl rfl, (HS4.out.setZ 0 _).b⟩
    rw [hd] at hE
    simp only [Option.bind_some] at hE
    obtain ⟨y3, hy3⟩ : ∃ y : ByteArray, y = ⟨l3.toArray⟩ := ⟨_, rfl⟩
    have hyl3 : y3.data.toList = l3 := by rw [hy3]
    have Hy3 := Lib.hid hy3
    have Hd := Lib.hid hd
    clear hd hk k3 hyl hy3
    by_cases h0 : y3.size = 0
    case neg =>
      have E : Hid (Fr.rread s.data.toList = none) := Lib.hid (by rw [hE, if_neg (fun h => h0 (by rw [Lib.size_eq, hyl3, h.1]; rfl))])
      have hem := emp_f h0
      clear h0 hE hyl3
      go_enter Try.func14, Try.ntmps14
      go_wp2_with fail
      refine (HU.out _).mono ?_
      rintro e w1 ⟨rfl, rfl⟩
      go_upto_region 4 with (fail)
      refine forget (fun W => Below w.heap.size w W ∧ W.heap[w.heap.size]? = some (.cells (rpC Fr.R.zero none 0) 39 (0, 0))) ⟨bnew (Below.refl _ _) _, heap_alloc_new w _⟩ ?_
      rintro W1 ⟨hbW, hrow⟩
      have HH := Lib.hid (And.intro hbW hrow)
      clear hbW hrow
      go_region
      go_upto_region 5 with (fail)
      rw [← Hx.out]
      refine forget (fun W => St2 w W w.heap.size W1.heap.size 39 (rpC Fr.R.zero none 0) (rpC ⟨c, 0, 0, 0, Rs.zero⟩ none 0)) (by
        obtain ⟨q1, q2⟩ := HH.out
        have hlt := (Array.getElem?_eq_some_iff.1 q2).1
        exact St2.drew ⟨bnew q1 _, Nat.le_refl _, q1.size, Nat.ne_of_lt hlt, (Below.heap_alloc _ _ _ hlt).trans q2, heap_alloc_new W1 _⟩) ?_
      obtain ⟨g, hg⟩ : ∃ g, g = W1.heap.size := ⟨_, rfl⟩
      obtain ⟨q, hq0⟩ : ∃ q, q = w.heap.size := ⟨_, rfl⟩
      rw [← hg, ← hq0]
      clear hg hq0 HH wk p1
      intro V0 S0
      have HS := Lib.hid S0
      clear S0
      have c0 := (rpAt HS.out.x).c0
      have c1 := (rpAt HS.out.x).c1
      have c2 := (rpAt HS.out.x).c2
      have z1 := (rpAt HS.out.x).fz 1
      have z2 := (rpAt HS.out.x).fz 2
      go_wp2_with fail
      refine (HRQ.out _).mono ?_
      rw [Hq.out, rqV]
      rw [← Hy.out]
      rintro e w2 ⟨rfl, hb⟩
      have HS1 := Lib.hid (HS.out.grow hb)
      clear hb c0 c1 c2 z1 z2 HS
      have c1 := (rpAt HS1.out.x).c1
      have c2 := (rpAt HS1.out.x).c2
      have z1 := (rpAt HS1.out.x).fz 1
      have z2 := (rpAt HS1.out.x).fz 2
      go_upto_region 7 with (fail)
      refine forget (fun W => St2 w W q g 39 (rpC Fr.R.zero none 0) (rpC ⟨c, a, b, 0, Rs.zero⟩ none 0)) (((HS1.out.cellX 1 _).cellX 2 _).to rfl (by simp [rpC])) ?_
      clear c1 c2 z1 z2 HS1
      intro V1 S1
      have HS2 := Lib.hid S1
      clear S1
      have c0 := (rpAt HS2.out.x).c0
      have c3 := (rpAt HS2.out.x).c3
      have z3 := (rpAt HS2.out.x).fz 3
      go_wp2_with fail
      refine (HL.out _).mono ?_
      rw [Hd.out, rlV]
      rw [← Hy3.out]
      rintro e w3 ⟨rfl, hb⟩
      have HS3 := Lib.hid (HS2.out.grow hb)
      clear hb c0 c3 z3 HS2
      have c3 := (rpAt HS3.out.x).c3
      have z3 := (rpAt HS3.out.x).fz 3
      go_upto_region 9 with (fail)
      refine forget (fun W => St2 w W q g 39 (rpC Fr.R.zero none 0) (rpC ⟨c, a, b, d, Rs.zero⟩ none 0)) ((HS3.out.cellX 3 _).to rfl (by simp [rpC])) ?_
      clear c3 z3 HS3
      intro V3 S3
      have HS4 := Lib.hid S3
      clear S3
      have c0 := (rpAt HS4.out.x).c0
      go_wp2_with (refine wpList_store_sub rfl 39 _ _ rfl q 0 rfl 39 _ (rpC Fr.R.zero none 0) rfl HS4.out.z (Nat.le_refl 8) (sizeRpC _ _ _) (rpC_one _ _ _) ?_)
      have hres := results_ct (P := Try.prog) (fn := Try.f14) rfl
      refine bodyPost_ret (hres _ _ q 39 (rpC Fr.R.zero none 0) (0, 0) _ rfl ((HS4.out.setZ 0 (rpC Fr.R.zero none 0).toList).to (layRp _ _ _ _ _ _) rfl).z Try.underlying39 rfl sizeRp) rfl ⟨none, 0, by rw [E.out]; rfl, by rw [E.out]; exact .inl rfl, (HS4.out.setZ 0 _).b⟩
    have hl3 : l3 = [] := List.eq_nil_of_length_eq_zero (by rw [← hyl3, ← Lib.size_eq]; exact h0)
    have hem := emp_t h0
    by_cases d5 : d ≤ 5
    case neg =>
      have E : Hid (Fr.rread s.data.toList = none) := Lib.hid (by rw [hE, if_neg (fun h => d5 h.2)])
      have Hr : Hid (Fr.right ⟨c, a, b, d, Rs.zero⟩ = false) := Lib.hid (by rw [Hk3.out]; simp [Fr.right, d5])
      clear h0 hE hyl3 hl3 d5
      go_enter Try.func14, Try.ntmps14
      go_wp2_with fail
      refine (HU.out _).mono ?_
      rintro e w1 ⟨rfl, rfl⟩
      go_upto_region 4 with (fail)
      refine forget (fun W => Below w.heap.size w W ∧ W.heap[w.heap.size]? = some (.cells (rpC Fr.R.zero none 0) 39 (0, 0))) ⟨bnew (Below.refl _ _) _, heap_alloc_new w _⟩ ?_
      rintro W1 ⟨hbW, hrow⟩
      have HH := Lib.hid (And.intro hbW hrow)
      clear hbW hrow
      go_region
      go_upto_region 5 with (fail)
      rw [← Hx.out]
      refine forget (fun W => St2 w W w.heap.size W1.heap.size 39 (rpC Fr.R.zero none 0) (rpC ⟨c, 0, 0, 0, Rs.zero⟩ none 0)) (by
        obtain ⟨q1, q2⟩ := HH.out
        have hlt := (Array.getElem?_eq_some_iff.1 q2).1
        exact St2.drew ⟨bnew q1 _, Nat.le_refl _, q1.size, Nat.ne_of_lt hlt, (Below.heap_alloc _ _ _ hlt).trans q2, heap_alloc_new W1 _⟩) ?_
      obtain ⟨g, hg⟩ : ∃ g, g = W1.heap.size := ⟨_, rfl⟩
      obtain ⟨q, hq0⟩ : ∃ q, q = w.heap.size := ⟨_, rfl⟩
      rw [← hg, ← hq0]
      clear hg hq0 HH wk p1
      intro V0 S0
      have HS := Lib.hid S0
      clear S0
      have c0 := (rpAt HS.out.x).c0
      have c1 := (rpAt HS.out.x).c1
      have c2 := (rpAt HS.out.x).c2
      have z1 := (rpAt HS.out.x).fz 1
      have z2 := (rpAt HS.out.x).fz 2
      go_wp2_with fail
      refine (HRQ.out _).mono ?_
      rw [Hq.out, rqV]
      rw [← Hy.out]
      rintro e w2 ⟨rfl, hb⟩
      have HS1 := Lib.hid (HS.out.grow hb)
      clear hb c0 c1 c2 z1 z2 HS
      have c1 := (rpAt HS1.out.x).c1
      have c2 := (rpAt HS1.out.x).c2
      have z1 := (rpAt HS1.out.x).fz 1
      have z2 := (rpAt HS1.out.x).fz 2
      go_upto_region 7 with (fail)
      refine forget (fun W => St2 w W q g 39 (rpC Fr.R.zero none 0) (rpC ⟨c, a, b, 0, Rs.zero⟩ none 0)) (((HS1.out.cellX 1 _).cellX 2 _).to rfl (by simp [rpC])) ?_
      clear c1 c2 z1 z2 HS1
      intro V1 S1
      have HS2 := Lib.hid S1
      clear S1
      have c0 := (rpAt HS2.out.x).c0
      have c3 := (rpAt HS2.out.x).c3
      have z3 := (rpAt HS2.out.x).fz 3
      go_wp2_with fail
      refine (HL.out _).mono ?_
      rw [Hd.out, rlV]
      rw [← Hy3.out]
      rintro e w3 ⟨rfl, hb⟩
      have HS3 := Lib.hid (HS2.out.grow hb)
      clear hb c0 c3 z3 HS2
      have c3 := (rpAt HS3.out.x).c3
      have z3 := (rpAt HS3.out.x).fz 3
      go_upto_region 9 with (fail)
      refine forget (fun W => St2 w W q g 39 (rpC Fr.R.zero none 0) (rpC ⟨c, a, b, d, Rs.zero⟩ none 0)) ((HS3.out.cellX 3 _).to rfl (by simp [rpC])) ?_
      clear c3 z3 HS3
      intro V3 S3
      have HS4 := Lib.hid S3
      clear S3
      have c0 := (rpAt HS4.out.x).c0
      go_wp2_with (refine wpList_load_sub rfl 39 _ rfl g 0 rfl 39 _ (rpC ⟨c, a, b, d, Rs.zero⟩ none 0) (0, 0) _ HS4.out.x (subAll _) Try.underlying39 rfl (sizeRpC _ _ _) ?_)
      refine (HN.out _ _ _ _).mono ?_
      rw [Hr.out]
      rintro e w9 ⟨rfl, hb9⟩
      have HS9 := Lib.hid (HS4.out.grow hb9)
      clear hb9 c0
      go_wp2_with (refine wpList_store_sub rfl 39 _ _ rfl q 0 rfl 39 _ (rpC Fr.R.zero none 0) rfl HS9.out.z (Nat.le_refl 8) (sizeRpC _ _ _) (rpC_one _ _ _) ?_)
      have hres := results_ct (P := Try.prog) (fn := Try.f14) rfl
      refine bodyPost_ret (hres _ _ q 39 (rpC Fr.R.zero none 0) (0, 0) _ rfl ((HS9.out.setZ 0 (rpC Fr.R.zero none 0).toList).to (layRp _ _ _ _ _ _) rfl).z Try.underlying39 rfl sizeRp) rfl ⟨none, 0, by rw [E.out]; rfl, by rw [E.out]; exact .inl rfl, (HS9.out.setZ 0 _).b⟩
    have E : Hid (Fr.rread s.data.toList = some ⟨c, a, b, d, Rs.zero⟩) := Lib.hid (by rw [hE, if_pos ⟨hl3, d5⟩, Hk3.out])
    have Hr : Hid (Fr.right ⟨c, a, b, d, Rs.zero⟩ = true) := Lib.hid (by rw [Hk3.out]; simp [Fr.right, d5, (Fr.noRes_iff _).2])
    clear h0 hE hyl3 hl3 d5
    go_enter Try.func14, Try.ntmps14
    go_wp2_with fail
    refine (HU.out _).mono ?_
    rintro e w1 ⟨rfl, rfl⟩
    go_upto_region 4 with (fail)
    refine forget (fun W => Below w.heap.size w W ∧ W.heap[w.heap.size]? = some (.cells (rpC Fr.R.zero none 0) 39 (0, 0))) ⟨bnew (Below.refl _ _) _, heap_alloc_new w _⟩ ?_
    rintro W1 ⟨hbW, hrow⟩
    have HH := Lib.hid (And.intro hbW hrow)
    clear hbW hrow
    go_region
    go_upto_region 5 with (fail)
    rw [← Hx.out]
    refine forget (fun W => St2 w W w.heap.size W1.heap.size 39 (rpC Fr.R.zero none 0) (rpC ⟨c, 0, 0, 0, Rs.zero⟩ none 0)) (by
      obtain ⟨q1, q2⟩ := HH.out
      have hlt := (Array.getElem?_eq_some_iff.1 q2).1
      exact St2.drew ⟨bnew q1 _, Nat.le_refl _, q1.size, Nat.ne_of_lt hlt, (Below.heap_alloc _ _ _ hlt).trans q2, heap_alloc_new W1 _⟩) ?_
    obtain ⟨g, hg⟩ : ∃ g, g = W1.heap.size := ⟨_, rfl⟩
    obtain ⟨q, hq0⟩ : ∃ q, q = w.heap.size := ⟨_, rfl⟩
    rw [← hg, ← hq0]
    clear hg hq0 HH wk p1
    intro V0 S0
    have HS := Lib.hid S0
    clear S0
    have c0 := (rpAt HS.out.x).c0
    have c1 := (rpAt HS.out.x).c1
    have c2 := (rpAt HS.out.x).c2
    have z1 := (rpAt HS.out.x).fz 1
    have z2 := (rpAt HS.out.x).fz 2
    go_wp2_with fail
    refine (HRQ.out _).mono ?_
    rw [Hq.out, rqV]
    rw [← Hy.out]
    rintro e w2 ⟨rfl, hb⟩
    have HS1 := Lib.hid (HS.out.grow hb)
    clear hb c0 c1 c2 z1 z2 HS
    have c1 := (rpAt HS1.out.x).c1
    have c2 := (rpAt HS1.out.x).c2
    have z1 := (rpAt HS1.out.x).fz 1
    have z2 := (rpAt HS1.out.x).fz 2
    go_upto_region 7 with (fail)
    refine forget (fun W => St2 w W q g 39 (rpC Fr.R.zero none 0) (rpC ⟨c, a, b, 0, Rs.zero⟩ none 0)) (((HS1.out.cellX 1 _).cellX 2 _).to rfl (by simp [rpC])) ?_
    clear c1 c2 z1 z2 HS1
    intro V1 S1
    have HS2 := Lib.hid S1
    clear S1
    have c0 := (rpAt HS2.out.x).c0
    have c3 := (rpAt HS2.out.x).c3
    have z3 := (rpAt HS2.out.x).fz 3
    go_wp2_with fail
    refine (HL.out _).mono ?_
    rw [Hd.out, rlV]
    rw [← Hy3.out]
    rintro e w3 ⟨rfl, hb⟩
    have HS3 := Lib.hid (HS2.out.grow hb)
    clear hb c0 c3 z3 HS2
    have c3 := (rpAt HS3.out.x).c3
    have z3 := (rpAt HS3.out.x).fz 3
    go_upto_region 9 with (fail)
    refine forget (fun W => St2 w W q g 39 (rpC Fr.R.zero none 0) (rpC ⟨c, a, b, d, Rs.zero⟩ none 0)) ((HS3.out.cellX 3 _).to rfl (by simp [rpC])) ?_
    clear c3 z3 HS3
    intro V3 S3
    have HS4 := Lib.hid S3
    clear S3
    have c0 := (rpAt HS4.out.x).c0
    go_wp2_with (refine wpList_load_sub rfl 39 _ rfl g 0 rfl 39 _ (rpC ⟨c, a, b, d, Rs.zero⟩ none 0) (0, 0) _ HS4.out.x (subAll _) Try.underlying39 rfl (sizeRpC _ _ _) ?_)
    refine (HN.out _ _ _ _).mono ?_
    rw [Hr.out]
    rintro e w9 ⟨rfl, hb9⟩
    have HS9 := Lib.hid (HS4.out.grow hb9)
    clear hb9 c0 HS4
    go_wp2_with (first | (refine wpList_load_sub rfl 39 _ rfl g 0 rfl 39 _ (rpC ⟨c, a, b, d, Rs.zero⟩ none 0) (0, 0) _ HS9.out.x (subAll _) Try.underlying39 rfl (sizeRpC _ _ _) ?_) | (refine wpList_store_sub rfl 39 _ _ rfl q 0 rfl 39 _ (rpC ⟨c, a, b, d, Rs.zero⟩ none 0) rfl HS9.out.z (Nat.le_refl 8) (sizeRpC _ _ _) (rpC_one _ _ _) ?_))
    have hres := results_ct (P := Try.prog) (fn := Try.f14) rfl
    refine bodyPost_ret (hres _ _ q 39 (rpC ⟨c, a, b, d, Rs.zero⟩ none 0) (0, 0) _ rfl ((HS9.out.setZ 0 (rpC ⟨c, a, b, d, Rs.zero⟩ none 0).toList).to (layRp _ _ _ _ _ _) rfl).z Try.underlying39 rfl sizeRp) rfl ⟨_, _, by rw [E.out]; rfl, by rw [E.out]; exact .inl rfl, (HS9.out.setZ 0 _).b⟩
  rw [if_neg k3] at hE
  have e3 : ((c : Int) == 3) = false := kd_f k3
  by_cases k6 : c = 6
  case pos =>
    rw [if_pos k6] at hE
    have e6 : ((c : Int) == 6) = true := kd_t k6
    have Hk6 := Lib.hid k6
    have HRR := Lib.hid (fun W => cmdReadRes_any y W (by omega))
    rw [hyl] at HRR
    rcases hd : Rs.read l2 with _ | x6
    · have E : Hid (Fr.rread s.data.toList = none) := Lib.hid (by rw [hE, hd]; rfl)
      have Hd := Lib.hid hd
      clear hd hE hk k3 k6 hyl
      go_enter Try.func14, Try.ntmps14
      go_wp2_with fail
      refine (HU.out _).mono ?_
      rintro e w1 ⟨rfl, rfl⟩
      go_upto_region 4 with (fail)
      refine forget (fun W => Below w.heap.size w W ∧ W.heap[w.heap.size]? = some (.cells (rpC Fr.R.zero none 0) 39 (0, 0))) ⟨bnew (Below.refl _ _) _, heap_alloc_new w _⟩ ?_
      rintro W1 ⟨hbW, hrow⟩
      have HH := Lib.hid (And.intro hbW hrow)
      clear hbW hrow
      go_region
      go_upto_region 5 with (fail)
      rw [← Hx.out]
      refine forget (fun W => St2 w W w.heap.size W1.heap.size 39 (rpC Fr.R.zero none 0) (rpC ⟨c, 0, 0, 0, Rs.zero⟩ none 0)) (by
        obtain ⟨q1, q2⟩ := HH.out
        have hlt := (Array.getElem?_eq_some_iff.1 q2).1
        exact St2.drew ⟨bnew q1 _, Nat.le_refl _, q1.size, Nat.ne_of_lt hlt, (Below.heap_alloc _ _ _ hlt).trans q2, heap_alloc_new W1 _⟩) ?_
      obtain ⟨g, hg⟩ : ∃ g, g = W1.heap.size := ⟨_, rfl⟩
      obtain ⟨q, hq0⟩ : ∃ q, q = w.heap.size := ⟨_, rfl⟩
      rw [← hg, ← hq0]
      clear hg hq0 HH wk p1
      intro V0 S0
      have HS := Lib.hid S0
      clear S0
      have c0 := (rpAt HS.out.x).c0
      have c1 := (rpAt HS.out.x).c1
      have c2 := (rpAt HS.out.x).c2
      have z1 := (rpAt HS.out.x).fz 1
      have z2 := (rpAt HS.out.x).fz 2
      go_wp2_with fail
      refine (HRQ.out _).mono ?_
      rw [Hq.out, rqV]
      rw [← Hy.out]
      rintro e w2 ⟨rfl, hb⟩
      have HS1 := Lib.hid (HS.out.grow hb)
      clear hb c0 c1 c2 z1 z2 HS
      have c1 := (rpAt HS1.out.x).c1
      have c2 := (rpAt HS1.out.x).c2
      have z1 := (rpAt HS1.out.x).fz 1
      have z2 := (rpAt HS1.out.x).fz 2
      go_upto_region 7 with (fail)
      refine forget (fun W => St2 w W q g 39 (rpC Fr.R.zero none 0) (rpC ⟨c, a, b, 0, Rs.zero⟩ none 0)) (((HS1.out.cellX 1 _).cellX 2 _).to rfl (by simp [rpC])) ?_
      clear c1 c2 z1 z2 HS1
      intro V1 S1
      have HS2 := Lib.hid S1
      clear S1
      have c0 := (rpAt HS2.out.x).c0
      have c3 := (rpAt HS2.out.x).c3
      have z3 := (rpAt HS2.out.x).fz 3
      go_wp2_with fail
      refine (HRR.out _).mono ?_
      rw [Hd.out]
      rintro e w3 ⟨A6, cap6, rfl, hl6, hb⟩
      have HS3 := Lib.hid (HS2.out.grow hb)
      have HL6 : Hid (Lies w3 A6 (rc (Rs.zero).rows)) := Lib.hid hl6
      clear hb hl6 c0 c3 z3 HS2
      go_upto_region 11 with (refine wpList_store_sub rfl 37 _ _ rfl g 4 rfl 39 _ (resC Rs.zero A6 cap6) rfl HS3.out.x (Nat.le_refl 8) (sizeResC _ _ _) (resC_one _ _ _) ?_)
      refine forget (fun W => St2 w W q g 39 (rpC Fr.R.zero none 0) (rpC ⟨c, a, b, 0, Rs.zero⟩ A6 cap6) ∧ Lies W A6 (rc (Rs.zero).rows)) ⟨(HS3.out.setX 4 _).to rfl (layRes _ _ _ _ _ _), HL6.out.sets (rp_apart HS3.out.x HL6.out)⟩ ?_
      clear HS3 HL6
      rintro V3 ⟨S3, L3⟩
      have HS4 := Lib.hid S3
      have HL4 := Lib.hid L3
      clear S3 L3
      go_wp2_with (refine wpList_store_sub rfl 39 _ _ rfl q 0 rfl 39 _ (rpC Fr.R.zero none 0) rfl HS4.out.z (Nat.le_refl 8) (sizeRpC _ _ _) (rpC_one _ _ _) ?_)
      have hres := results_ct (P := Try.prog) (fn := Try.f14) rfl
      refine bodyPost_ret (hres _ _ q 39 (rpC Fr.R.zero none 0) (0, 0) _ rfl ((HS4.out.setZ 0 (rpC Fr.R.zero none 0).toList).to (layRp _ _ _ _ _ _) rfl).z Try.underlying39 rfl sizeRp) rfl ⟨none, 0, by rw [E.out]; rfl, by rw [E.out]; exact .inl rfl, (HS4.out.setZ 0 _).b⟩
    have E : Hid (Fr.rread s.data.toList = some ⟨c, a, b, 0, x6⟩) := Lib.hid (by rw [hE, hd, Hk6.out]; rfl)
    have Hd := Lib.hid hd
    have Hr : Hid (Fr.right ⟨c, a, b, 0, x6⟩ = true) := Lib.hid (by rw [Hk6.out]; rfl)
    clear hd hE hk k3 k6 hyl
    go_enter Try.func14, Try.ntmps14
    go_wp2_with fail
    refine (HU.out _).mono ?_
    rintro e w1 ⟨rfl, rfl⟩
    go_upto_region 4 with (fail)
    refine forget (fun W => Below w.heap.size w W ∧ W.heap[w.heap.size]? = some (.cells (rpC Fr.R.zero none 0) 39 (0, 0))) ⟨bnew (Below.refl _ _) _, heap_alloc_new w _⟩ ?_
    rintro W1 ⟨hbW, hrow⟩
    have HH := Lib.hid (And.intro hbW hrow)
    clear hbW hrow
    go_region
    go_upto_region 5 with (fail)
    rw [← Hx.out]
    refine forget (fun W => St2 w W w.heap.size W1.heap.size 39 (rpC Fr.R.zero none 0) (rpC ⟨c, 0, 0, 0, Rs.zero⟩ none 0)) (by
      obtain ⟨q1, q2⟩ := HH.out
      have hlt := (Array.getElem?_eq_some_iff.1 q2).1
      exact St2.drew ⟨bnew q1 _, Nat.le_refl _, q1.size, Nat.ne_of_lt hlt, (Below.heap_alloc _ _ _ hlt).trans q2, heap_alloc_new W1 _⟩) ?_
    obtain ⟨g, hg⟩ : ∃ g, g = W1.heap.size := ⟨_, rfl⟩
    obtain ⟨q, hq0⟩ : ∃ q, q = w.heap.size := ⟨_, rfl⟩
    rw [← hg, ← hq0]
    clear hg hq0 HH wk p1
    intro V0 S0
    have HS := Lib.hid S0
    clear S0
    have c0 := (rpAt HS.out.x).c0
    have c1 := (rpAt HS.out.x).c1
    have c2 := (rpAt HS.out.x).c2
    have z1 := (rpAt HS.out.x).fz 1
    have z2 := (rpAt HS.out.x).fz 2
    go_wp2_with fail
    refine (HRQ.out _).mono ?_
    rw [Hq.out, rqV]
    rw [← Hy.out]
    rintro e w2 ⟨rfl, hb⟩
    have HS1 := Lib.hid (HS.out.grow hb)
    clear hb c0 c1 c2 z1 z2 HS
    have c1 := (rpAt HS1.out.x).c1
    have c2 := (rpAt HS1.out.x).c2
    have z1 := (rpAt HS1.out.x).fz 1
    have z2 := (rpAt HS1.out.x).fz 2
    go_upto_region 7 with (fail)
    refine forget (fun W => St2 w W q g 39 (rpC Fr.R.zero none 0) (rpC ⟨c, a, b, 0, Rs.zero⟩ none 0)) (((HS1.out.cellX 1 _).cellX 2 _).to rfl (by simp [rpC])) ?_
    clear c1 c2 z1 z2 HS1
    intro V1 S1
    have HS2 := Lib.hid S1
    clear S1
    have c0 := (rpAt HS2.out.x).c0
    have c3 := (rpAt HS2.out.x).c3
    have z3 := (rpAt HS2.out.x).fz 3
    go_wp2_with fail
    refine (HRR.out _).mono ?_
    rw [Hd.out]
    rintro e w3 ⟨A6, cap6, rfl, hl6, hb⟩
    have HS3 := Lib.hid (HS2.out.grow hb)
    have HL6 : Hid (Lies w3 A6 (rc (x6).rows)) := Lib.hid hl6
    clear hb hl6 c0 c3 z3 HS2
    go_upto_region 11 with (refine wpList_store_sub rfl 37 _ _ rfl g 4 rfl 39 _ (resC x6 A6 cap6) rfl HS3.out.x (Nat.le_refl 8) (sizeResC _ _ _) (resC_one _ _ _) ?_)
    refine forget (fun W => St2 w W q g 39 (rpC Fr.R.zero none 0) (rpC ⟨c, a, b, 0, x6⟩ A6 cap6) ∧ Lies W A6 (rc (x6).rows)) ⟨(HS3.out.setX 4 _).to rfl (layRes _ _ _ _ _ _), HL6.out.sets (rp_apart HS3.out.x HL6.out)⟩ ?_
    clear HS3 HL6
    rintro V3 ⟨S3, L3⟩
    have HS4 := Lib.hid S3
    have HL4 := Lib.hid L3
    clear S3 L3
    go_wp2_with (refine wpList_load_sub rfl 39 _ rfl g 0 rfl 39 _ (rpC ⟨c, a, b, 0, x6⟩ A6 cap6) (0, 0) _ HS4.out.x (subAll _) Try.underlying39 rfl (sizeRpC _ _ _) ?_)
    refine (HN.out _ _ _ _).mono ?_
    rw [Hr.out]
    rintro e w9 ⟨rfl, hb9⟩
    have HS9 := Lib.hid (HS4.out.grow hb9)
    have HL9 := Lib.hid (HL4.out.below hb9)
    clear hb9 HS4 HL4
    go_wp2_with (first | (refine wpList_load_sub rfl 39 _ rfl g 0 rfl 39 _ (rpC ⟨c, a, b, 0, x6⟩ A6 cap6) (0, 0) _ HS9.out.x (subAll _) Try.underlying39 rfl (sizeRpC _ _ _) ?_) | (refine wpList_store_sub rfl 39 _ _ rfl q 0 rfl 39 _ (rpC ⟨c, a, b, 0, x6⟩ A6 cap6) rfl HS9.out.z (Nat.le_refl 8) (sizeRpC _ _ _) (rpC_one _ _ _) ?_))
    have hres := results_ct (P := Try.prog) (fn := Try.f14) rfl
    refine bodyPost_ret (hres _ _ q 39 (rpC ⟨c, a, b, 0, x6⟩ A6 cap6) (0, 0) _ rfl ((HS9.out.setZ 0 (rpC ⟨c, a, b, 0, x6⟩ A6 cap6).toList).to (layRp _ _ _ _ _ _) rfl).z Try.underlying39 rfl sizeRp) rfl ⟨_, _, by rw [E.out]; rfl, by rw [E.out]; exact HL9.out.sets (rp_apart HS9.out.z HL9.out), (HS9.out.setZ 0 _).b⟩
  rw [if_neg k6] at hE
  have e6 : ((c : Int) == 6) = false := kd_f k6
  clear hk k3 k6
  by_cases h0 : y.size = 0
  case neg =>
    have E : Hid (Fr.rread s.data.toList = none) := Lib.hid (by rw [hE, if_neg (fun h => h0 (by rw [Lib.size_eq, hyl, h.1]; rfl))])
    have hem := emp_f h0
    clear h0 hE hyl
    go_enter Try.func14, Try.ntmps14
    go_wp2_with fail
    refine (HU.out _).mono ?_
    rintro e w1 ⟨rfl, rfl⟩
    go_upto_region 4 with (fail)
    refine forget (fun W => Below w.heap.size w W ∧ W.heap[w.heap.size]? = some (.cells (rpC Fr.R.zero none 0) 39 (0, 0))) ⟨bnew (Below.refl _ _) _, heap_alloc_new w _⟩ ?_
    rintro W1 ⟨hbW, hrow⟩
    have HH := Lib.hid (And.intro hbW hrow)
    clear hbW hrow
    go_region
    go_upto_region 5 with (fail)
    rw [← Hx.out]
    refine forget (fun W => St2 w W w.heap.size W1.heap.size 39 (rpC Fr.R.zero none 0) (rpC ⟨c, 0, 0, 0, Rs.zero⟩ none 0)) (by
      obtain ⟨q1, q2⟩ := HH.out
      have hlt := (Array.getElem?_eq_some_iff.1 q2).1
      exact St2.drew ⟨bnew q1 _, Nat.le_refl _, q1.size, Nat.ne_of_lt hlt, (Below.heap_alloc _ _ _ hlt).trans q2, heap_alloc_new W1 _⟩) ?_
    obtain ⟨g, hg⟩ : ∃ g, g = W1.heap.size := ⟨_, rfl⟩
    obtain ⟨q, hq0⟩ : ∃ q, q = w.heap.size := ⟨_, rfl⟩
    rw [← hg, ← hq0]
    clear hg hq0 HH wk p1
    intro V0 S0
    have HS := Lib.hid S0
    clear S0
    have c0 := (rpAt HS.out.x).c0
    have c1 := (rpAt HS.out.x).c1
    have c2 := (rpAt HS.out.x).c2
    have z1 := (rpAt HS.out.x).fz 1
    have z2 := (rpAt HS.out.x).fz 2
    go_wp2_with fail
    refine (HRQ.out _).mono ?_
    rw [Hq.out, rqV]
    rw [← Hy.out]
    rintro e w2 ⟨rfl, hb⟩
    have HS1 := Lib.hid (HS.out.grow hb)
    clear hb c0 c1 c2 z1 z2 HS
    have c1 := (rpAt HS1.out.x).c1
    have c2 := (rpAt HS1.out.x).c2
    have z1 := (rpAt HS1.out.x).fz 1
    have z2 := (rpAt HS1.out.x).fz 2
    go_upto_region 7 with (fail)
    refine forget (fun W => St2 w W q g 39 (rpC Fr.R.zero none 0) (rpC ⟨c, a, b, 0, Rs.zero⟩ none 0)) (((HS1.out.cellX 1 _).cellX 2 _).to rfl (by simp [rpC])) ?_
    clear c1 c2 z1 z2 HS1
    intro V1 S1
    have HS2 := Lib.hid S1
    clear S1
    have c0 := (rpAt HS2.out.x).c0
    have c3 := (rpAt HS2.out.x).c3
    have z3 := (rpAt HS2.out.x).fz 3
    go_wp2_with (refine wpList_store_sub rfl 39 _ _ rfl q 0 rfl 39 _ (rpC Fr.R.zero none 0) rfl HS2.out.z (Nat.le_refl 8) (sizeRpC _ _ _) (rpC_one _ _ _) ?_)
    have hres := results_ct (P := Try.prog) (fn := Try.f14) rfl
    refine bodyPost_ret (hres _ _ q 39 (rpC Fr.R.zero none 0) (0, 0) _ rfl ((HS2.out.setZ 0 (rpC Fr.R.zero none 0).toList).to (layRp _ _ _ _ _ _) rfl).z Try.underlying39 rfl sizeRp) rfl ⟨none, 0, by rw [E.out]; rfl, by rw [E.out]; exact .inl rfl, (HS2.out.setZ 0 _).b⟩
  have hl2 : l2 = [] := List.eq_nil_of_length_eq_zero (by rw [← hyl, ← Lib.size_eq]; exact h0)
  have hem := emp_t h0
  rcases hr : Fr.right ⟨c, a, b, 0, Rs.zero⟩ with _ | _
  · have E : Hid (Fr.rread s.data.toList = none) := Lib.hid (by rw [hE, if_neg (fun h => by rw [hr] at h; cases h.2)])
    have Hr := Lib.hid hr
    clear h0 hE hyl hl2 hr
    go_enter Try.func14, Try.ntmps14
    go_wp2_with fail
    refine (HU.out _).mono ?_
    rintro e w1 ⟨rfl, rfl⟩
    go_upto_region 4 with (fail)
    refine forget (fun W => Below w.heap.size w W ∧ W.heap[w.heap.size]? = some (.cells (rpC Fr.R.zero none 0) 39 (0, 0))) ⟨bnew (Below.refl _ _) _, heap_alloc_new w _⟩ ?_
    rintro W1 ⟨hbW, hrow⟩
    have HH := Lib.hid (And.intro hbW hrow)
    clear hbW hrow
    go_region
    go_upto_region 5 with (fail)
    rw [← Hx.out]
    refine forget (fun W => St2 w W w.heap.size W1.heap.size 39 (rpC Fr.R.zero none 0) (rpC ⟨c, 0, 0, 0, Rs.zero⟩ none 0)) (by
      obtain ⟨q1, q2⟩ := HH.out
      have hlt := (Array.getElem?_eq_some_iff.1 q2).1
      exact St2.drew ⟨bnew q1 _, Nat.le_refl _, q1.size, Nat.ne_of_lt hlt, (Below.heap_alloc _ _ _ hlt).trans q2, heap_alloc_new W1 _⟩) ?_
    obtain ⟨g, hg⟩ : ∃ g, g = W1.heap.size := ⟨_, rfl⟩
    obtain ⟨q, hq0⟩ : ∃ q, q = w.heap.size := ⟨_, rfl⟩
    rw [← hg, ← hq0]
    clear hg hq0 HH wk p1
    intro V0 S0
    have HS := Lib.hid S0
    clear S0
    have c0 := (rpAt HS.out.x).c0
    have c1 := (rpAt HS.out.x).c1
    have c2 := (rpAt HS.out.x).c2
    have z1 := (rpAt HS.out.x).fz 1
    have z2 := (rpAt HS.out.x).fz 2
    go_wp2_with fail
    refine (HRQ.out _).mono ?_
    rw [Hq.out, rqV]
    rw [← Hy.out]
    rintro e w2 ⟨rfl, hb⟩
    have HS1 := Lib.hid (HS.out.grow hb)
    clear hb c0 c1 c2 z1 z2 HS
    have c1 := (rpAt HS1.out.x).c1
    have c2 := (rpAt HS1.out.x).c2
    have z1 := (rpAt HS1.out.x).fz 1
    have z2 := (rpAt HS1.out.x).fz 2
    go_upto_region 7 with (fail)
    refine forget (fun W => St2 w W q g 39 (rpC Fr.R.zero none 0) (rpC ⟨c, a, b, 0, Rs.zero⟩ none 0)) (((HS1.out.cellX 1 _).cellX 2 _).to rfl (by simp [rpC])) ?_
    clear c1 c2 z1 z2 HS1
    intro V1 S1
    have HS2 := Lib.hid S1
    clear S1
    have c0 := (rpAt HS2.out.x).c0
    have c3 := (rpAt HS2.out.x).c3
    have z3 := (rpAt HS2.out.x).fz 3
    go_wp2_with (refine wpList_load_sub rfl 39 _ rfl g 0 rfl 39 _ (rpC ⟨c, a, b, 0, Rs.zero⟩ none 0) (0, 0) _ HS2.out.x (subAll _) Try.underlying39 rfl (sizeRpC _ _ _) ?_)
    refine (HN.out _ _ _ _).mono ?_
    rw [Hr.out]
    rintro e w9 ⟨rfl, hb9⟩
    have HS9 := Lib.hid (HS2.out.grow hb9)
    clear hb9 c0 c3 z3
    go_wp2_with (refine wpList_store_sub rfl 39 _ _ rfl q 0 rfl 39 _ (rpC Fr.R.zero none 0) rfl HS9.out.z (Nat.le_refl 8) (sizeRpC _ _ _) (rpC_one _ _ _) ?_)
    have hres := results_ct (P := Try.prog) (fn := Try.f14) rfl
    refine bodyPost_ret (hres _ _ q 39 (rpC Fr.R.zero none 0) (0, 0) _ rfl ((HS9.out.setZ 0 (rpC Fr.R.zero none 0).toList).to (layRp _ _ _ _ _ _) rfl).z Try.underlying39 rfl sizeRp) rfl ⟨none, 0, by rw [E.out]; rfl, by rw [E.out]; exact .inl rfl, (HS9.out.setZ 0 _).b⟩
  · have E : Hid (Fr.rread s.data.toList = some ⟨c, a, b, 0, Rs.zero⟩) := Lib.hid (by rw [hE, if_pos ⟨hl2, hr⟩])
    have Hr := Lib.hid hr
    clear h0 hE hyl hl2 hr
    go_enter Try.func14, Try.ntmps14
    go_wp2_with fail
    refine (HU.out _).mono ?_
    rintro e w1 ⟨rfl, rfl⟩
    go_upto_region 4 with (fail)
    refine forget (fun W => Below w.heap.size w W ∧ W.heap[w.heap.size]? = some (.cells (rpC Fr.R.zero none 0) 39 (0, 0))) ⟨bnew (Below.refl _ _) _, heap_alloc_new w _⟩ ?_
    rintro W1 ⟨hbW, hrow⟩
    have HH := Lib.hid (And.intro hbW hrow)
    clear hbW hrow
    go_region
    go_upto_region 5 with (fail)
    rw [← Hx.out]
    refine forget (fun W => St2 w W w.heap.size W1.heap.size 39 (rpC Fr.R.zero none 0) (rpC ⟨c, 0, 0, 0, Rs.zero⟩ none 0)) (by
      obtain ⟨q1, q2⟩ := HH.out
      have hlt := (Array.getElem?_eq_some_iff.1 q2).1
      exact St2.drew ⟨bnew q1 _, Nat.le_refl _, q1.size, Nat.ne_of_lt hlt, (Below.heap_alloc _ _ _ hlt).trans q2, heap_alloc_new W1 _⟩) ?_
    obtain ⟨g, hg⟩ : ∃ g, g = W1.heap.size := ⟨_, rfl⟩
    obtain ⟨q, hq0⟩ : ∃ q, q = w.heap.size := ⟨_, rfl⟩
    rw [← hg, ← hq0]
    clear hg hq0 HH wk p1
    intro V0 S0
    have HS := Lib.hid S0
    clear S0
    have c0 := (rpAt HS.out.x).c0
    have c1 := (rpAt HS.out.x).c1
    have c2 := (rpAt HS.out.x).c2
    have z1 := (rpAt HS.out.x).fz 1
    have z2 := (rpAt HS.out.x).fz 2
    go_wp2_with fail
    refine (HRQ.out _).mono ?_
    rw [Hq.out, rqV]
    rw [← Hy.out]
    rintro e w2 ⟨rfl, hb⟩
    have HS1 := Lib.hid (HS.out.grow hb)
    clear hb c0 c1 c2 z1 z2 HS
    have c1 := (rpAt HS1.out.x).c1
    have c2 := (rpAt HS1.out.x).c2
    have z1 := (rpAt HS1.out.x).fz 1
    have z2 := (rpAt HS1.out.x).fz 2
    go_upto_region 7 with (fail)
    refine forget (fun W => St2 w W q g 39 (rpC Fr.R.zero none 0) (rpC ⟨c, a, b, 0, Rs.zero⟩ none 0)) (((HS1.out.cellX 1 _).cellX 2 _).to rfl (by simp [rpC])) ?_
    clear c1 c2 z1 z2 HS1
    intro V1 S1
    have HS2 := Lib.hid S1
    clear S1
    have c0 := (rpAt HS2.out.x).c0
    have c3 := (rpAt HS2.out.x).c3
    have z3 := (rpAt HS2.out.x).fz 3
    go_wp2_with (refine wpList_load_sub rfl 39 _ rfl g 0 rfl 39 _ (rpC ⟨c, a, b, 0, Rs.zero⟩ none 0) (0, 0) _ HS2.out.x (subAll _) Try.underlying39 rfl (sizeRpC _ _ _) ?_)
    refine (HN.out _ _ _ _).mono ?_
    rw [Hr.out]
    rintro e w9 ⟨rfl, hb9⟩
    have HS9 := Lib.hid (HS2.out.grow hb9)
    clear hb9 c0 c3 z3 HS2
    go_wp2_with (first | (refine wpList_load_sub rfl 39 _ rfl g 0 rfl 39 _ (rpC ⟨c, a, b, 0, Rs.zero⟩ none 0) (0, 0) _ HS9.out.x (subAll _) Try.underlying39 rfl (sizeRpC _ _ _) ?_) | (refine wpList_store_sub rfl 39 _ _ rfl q 0 rfl 39 _ (rpC ⟨c, a, b, 0, Rs.zero⟩ none 0) rfl HS9.out.z (Nat.le_refl 8) (sizeRpC _ _ _) (rpC_one _ _ _) ?_))
    have hres := results_ct (P := Try.prog) (fn := Try.f14) rfl
    refine bodyPost_ret (hres _ _ q 39 (rpC ⟨c, a, b, 0, Rs.zero⟩ none 0) (0, 0) _ rfl ((HS9.out.setZ 0 (rpC ⟨c, a, b, 0, Rs.zero⟩ none 0).toList).to (layRp _ _ _ _ _ _) rfl).z Try.underlying39 rfl sizeRp) rfl ⟨_, _, by rw [E.out]; rfl, by rw [E.out]; exact .inl rfl, (HS9.out.setZ 0 _).b⟩
set_option maxRecDepth 100000 in
set_option maxHeartbeats 4000000 in
theorem fReadReply_any (s : ByteArray) (w : World) (hs : s.size ≤ 10000000) : Calls Try.prog 14 #[.string s] w (RetRp (Fr.rread s.data.toList) w) := by
  by_cases hp : 0 < s.size
  · by_cases hk : s[0].toNat = 1
    · exact rrep_1 s w hs hp hk
    · exact rrep_n s w hs hp hk
  have E : Hid (Fr.rread s.data.toList = none) := Lib.hid (by unfold Fr.rread Fr.rparse; rw [rdB0 s (by omega)]; rfl)
  have HU := Lib.hid (fun W => ReadU_no s 1 W (by omega))
  clear hp
  go_enter Try.func14, Try.ntmps14
  go_wp2_with fail
  refine (HU.out _).mono ?_
  rintro e w1 ⟨rfl, rfl⟩
  go_wp2_with fail
  have hres := results_ct (P := Try.prog) (fn := Try.f14) rfl
  refine bodyPost_ret (hres _ _ w.heap.size 39 (rpC Fr.R.zero none 0) (0, 0) _ rfl (heap_alloc_new w _) Try.underlying39 rfl sizeRp) rfl ⟨none, 0, by rw [E.out]; rfl, by rw [E.out]; exact .inl rfl, bnew (Below.refl _ _) _⟩
end Go.Proofs.Ytlcgjlganmblpaa
