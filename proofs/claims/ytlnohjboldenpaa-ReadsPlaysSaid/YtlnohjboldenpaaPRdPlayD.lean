/-
  ReadsPlays: does and said walked.
-/
import Derived.Test.YtlnohjboldenpaaPRdPlayW
set_option linter.unusedSimpArgs false
set_option linter.unusedVariables false
namespace Go.Proofs.Ytlnohjboldenpaa
open Go.RowKit Go.Sort
theorem results_t4 {P : Program} {fn : Func} {u1 u2 u3 u4 : Tmp} (h : fn.results = #[.tmp u1, .tmp u2, .tmp u3, .tmp u4]) (tmps : Array Value) (w : World) :
    (results fn tmps).run P w = .ok (.tuple #[tmps.getD u1 undef, tmps.getD u2 undef, tmps.getD u3 undef, tmps.getD u4 undef]) w := by
  simp [results, h]
/-- What does hands back. -/
def RetDo (w : World) (p : Nat) (Z : Nat → Prop) (r' : Rd.R) (b : Bool) (n : Nat) (X : List Rd.E) (Y : List Nat) (W : World) (e : Ending) (w' : World) : Prop :=
  ∃ A2 c2 B2 d2, e = .returned (.tuple #[.bool b, .int .i64 (n : Int), .slice A2 X.length c2, .slice B2 Y.length d2]) ∧ Sl w' 3 A2 X.length c2 (rdc X) ∧ Sl w' 1 B2 Y.length d2 (uc Y) ∧ (∀ b, blk A2 = some b → W.heap.size ≤ b) ∧ (∀ b, blk B2 = some b → W.heap.size ≤ b) ∧ RZ w w' p r' (Zb (Zb Z A2) B2) ∧ Zk Z W w'
theorem Zb.none {Z : Nat → Prop} : Zb Z Option.none = Z := funext fun k => propext ⟨fun h => h.elim id (fun h => by cases h), .inl⟩
set_option maxRecDepth 100000 in
set_option maxHeartbeats 4000000 in
theorem does13_any {w W : World} {p : Nat} {r : Rd.R} {Z : Nat → Prop} (h : RZ w W p r Z) (o a b : Nat) (ha : a < Nm.top) (hb : b < Nm.top) (hf : r.b.length + r.w.length + 1 ≤ 100000) :
    Calls Try.prog 43 #[.pointer (some ⟨p, 0, none⟩), .agg #[.int .u8 (o : Int), .int .u64 (a : Int), .int .u64 (b : Int)]] W (RetDo w p Z (Rd.step r o a b) (Rd.tb r o a) (Rd.tn r o) (Rd.tx r o a) (Rd.ty r o) W) := by
  have hbn := bnew (Below.refl W.heap.size W) (.cells #[.int .u8 (o : Int), .int .u64 (a : Int), .int .u64 (b : Int)] 90)
  have H1 := Lib.hid (h.bel hbn)
  have HZ := Lib.hid (Zk.bel (Z := Z) hbn h.zl)
  have HS := Lib.hid hbn.size
  have hres := results_t4 (P := Try.prog) (fn := Try.f43) rfl
  have Hres := Lib.hid hres
  clear h hbn hres
  by_cases h0 : o = 0
  · subst h0
    have HC := Lib.hid (rz_ask H1.out a ha (by omega))
    have E : Hid (Rd.step r 0 a b = Rd.ask r a ∧ Rd.tb r 0 a = !Rd.has r a ∧ Rd.tn r 0 = 0 ∧ Rd.tx r 0 a = [] ∧ Rd.ty r 0 = []) := Lib.hid ⟨rfl, rfl, rfl, rfl, rfl⟩
    unfold RetDo
    rw [E.out.1, E.out.2.1, E.out.2.2.1, E.out.2.2.2.1, E.out.2.2.2.2]
    clear E H1 HS ha hb
    go_enter Try.func43, Try.ntmps43
    go_wp2_with (go_at_call 47; refine HC.out.mono ?_; rintro e w2 ⟨rfl, m1, m2⟩)
    refine bodyPost_ret (Hres.out _ _) rfl ⟨none, 0, none, 0, rfl, Sl.nil _ _, Sl.nil _ _, (fun b h => by cases h), (fun b h => by cases h), by rw [Zb.none, Zb.none]; exact m1, HZ.out.trans m2⟩
  have s0 : ((o : Int) == 0) = false := by simp; omega
  have s0' : ((o : Int) = 0) = False := by simp; omega
  by_cases h1 : o = 1
  · subst h1
    have HC := Lib.hid (rz_begin H1.out a b ha hb (by omega))
    have E : Hid (Rd.step r 1 a b = Rd.begin r a b ∧ Rd.tb r 1 a = false ∧ Rd.tn r 1 = r.w.length ∧ Rd.tx r 1 a = [] ∧ Rd.ty r 1 = []) := Lib.hid ⟨rfl, rfl, rfl, rfl, rfl⟩
    unfold RetDo
    rw [E.out.1, E.out.2.1, E.out.2.2.1, E.out.2.2.2.1, E.out.2.2.2.2]
    clear E H1 HS ha hb s0 s0' h0
    go_enter Try.func43, Try.ntmps43
    go_wp2_with (go_at_call 48; refine HC.out.mono ?_; rintro e w2 ⟨rfl, m1, m2⟩)
    refine bodyPost_ret (Hres.out _ _) rfl ⟨none, 0, none, 0, rfl, Sl.nil _ _, Sl.nil _ _, (fun b h => by cases h), (fun b h => by cases h), by rw [Zb.none, Zb.none]; exact m1, HZ.out.trans m2⟩
  have s1 : ((o : Int) == 1) = false := by simp; omega
  have s1' : ((o : Int) = 1) = False := by simp; omega
  by_cases h2 : o = 2
  · subst h2
    have HC := Lib.hid (rz_told H1.out a)
    have E : Hid (Rd.step r 2 a b = Rd.left r a ∧ Rd.tb r 2 a = false ∧ Rd.tn r 2 = 0 ∧ Rd.tx r 2 a = Rd.told r a ∧ Rd.ty r 2 = []) := Lib.hid ⟨rfl, rfl, rfl, rfl, rfl⟩
    unfold RetDo
    rw [E.out.1, E.out.2.1, E.out.2.2.1, E.out.2.2.2.1, E.out.2.2.2.2]
    clear E H1 ha hb s0 s0' h0 s1 s1' h1
    go_enter Try.func43, Try.ntmps43
    go_wp2_with (go_at_call 49; refine HC.out.mono ?_; rintro e w2 ⟨A2, c2, rfl, m0, m3, m1, m2⟩)
    refine bodyPost_ret (Hres.out _ _) rfl ⟨A2, c2, none, 0, rfl, m0, Sl.nil _ _, (fun b h => by have := m3 b h; have := HS.out; omega), (fun b h => by cases h), by rw [Zb.none]; exact m1, HZ.out.trans m2⟩
  have s2 : ((o : Int) == 2) = false := by simp; omega
  have s2' : ((o : Int) = 2) = False := by simp; omega
  by_cases h3 : o = 3
  · subst h3
    have HC := Lib.hid (rz_drop H1.out)
    have E : Hid (Rd.step r 3 a b = ⟨[], []⟩ ∧ Rd.tb r 3 a = false ∧ Rd.tn r 3 = 0 ∧ Rd.tx r 3 a = [] ∧ Rd.ty r 3 = Rd.ids r) := Lib.hid ⟨rfl, rfl, rfl, rfl, rfl⟩
    unfold RetDo
    rw [E.out.1, E.out.2.1, E.out.2.2.1, E.out.2.2.2.1, E.out.2.2.2.2]
    clear E H1 ha hb s0 s0' h0 s1 s1' h1 s2 s2' h2
    go_enter Try.func43, Try.ntmps43
    go_wp2_with (go_at_call 50; refine HC.out.mono ?_; rintro e w2 ⟨B2, d2, rfl, m0, m3, m1, m2⟩)
    refine bodyPost_ret (Hres.out _ _) rfl ⟨none, 0, B2, d2, rfl, Sl.nil _ _, m0, (fun b h => by cases h), (fun b h => by have := m3 b h; have := HS.out; omega), by rw [Zb.none]; exact m1, HZ.out.trans m2⟩
  have s3 : ((o : Int) == 3) = false := by simp; omega
  have s3' : ((o : Int) = 3) = False := by simp; omega
  have E : Hid (Rd.step r o a b = r ∧ Rd.tb r o a = false ∧ Rd.tn r o = 0 ∧ Rd.tx r o a = [] ∧ Rd.ty r o = []) := Lib.hid (by
    unfold Rd.step Rd.tb Rd.tn Rd.tx Rd.ty
    rw [if_neg h0, if_neg h1, if_neg h2, if_neg h3, if_neg h0, if_neg h1, if_neg h2, if_neg h3]
    exact ⟨rfl, rfl, rfl, rfl, rfl⟩)
  unfold RetDo
  rw [E.out.1, E.out.2.1, E.out.2.2.1, E.out.2.2.2.1, E.out.2.2.2.2]
  clear E ha hb h0 h1 h2 h3
  go_enter Try.func43, Try.ntmps43
  go_wp2_with fail
  refine bodyPost_ret (Hres.out _ _) rfl ⟨none, 0, none, 0, rfl, Sl.nil _ _, Sl.nil _ _, (fun b h => by cases h), (fun b h => by cases h), by rw [Zb.none, Zb.none]; exact H1.out, HZ.out⟩
end Go.Proofs.Ytlnohjboldenpaa
