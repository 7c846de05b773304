/-
  wapentakeref06.Write walked. WRITTEN BY wip/tools/gen_frrw.py.
-/
import Derived.Test.YtlcgjlganmblpaaRFrB
import Derived.Test.YtlcgjlganmblpaaRFrRefRep
import Derived.Test.YtlcgjlganmblpaaRFrW
import Derived.Test.YtlcgjlganmblpaaROrWrite
import Derived.Test.YtlcgjlganmblpaaRCmdMay
set_option linter.unusedSimpArgs false
set_option linter.unusedVariables false
namespace Go.Proofs.Ytlcgjlganmblpaa
open Go.RowKit
set_option linter.unusedVariables false
/-- What the walk keeps of a frame's row. -/
structure FrS (w W : World) (g : Nat) (f : Fr.F) (A : Option Addr) (cap : Nat) : Prop where
  b : Below w.heap.size w W
  row : W.heap[g]? = some (.cells (frC f A cap) 32 (0, 0))
theorem FrS.lt {w W : World} {g : Nat} {f : Fr.F} {A : Option Addr} {cap : Nat} (h : FrS w W g f A cap) : g < W.heap.size := (Array.getElem?_eq_some_iff.1 h.row).1
theorem FrS.grow {w W W' : World} {g : Nat} {f : Fr.F} {A : Option Addr} {cap : Nat} (h : FrS w W g f A cap) (hb : Below W.heap.size W W') : FrS w W' g f A cap :=
  ⟨bnext h.b hb, (hb.block _ h.lt).trans h.row⟩
theorem FrS.new {w W : World} {g : Nat} {f : Fr.F} {A : Option Addr} {cap : Nat} (h : FrS w W g f A cap) (o : Obj) : FrS w (W.alloc o) g f A cap := h.grow (bnew (Below.refl _ _) _)
theorem FrS.tok {w W : World} {g : Nat} {f : Fr.F} {A : Option Addr} {cap : Nat} (h : FrS w W g f A cap) (k : Nat) (hk : k < 8) : W.cell? ⟨g, 1 + k, none⟩ = some (.int .u8 (((f.tok.l[k]'(by rw [tl_len]; exact hk)).toNat : Nat) : Int)) := by
  rw [cell_of_row W g (1 + k) _ _ _ h.row, subTok f A cap k hk, tk8_at f.tok k hk]
theorem cmdZ : cmdC Cm.zero none 0 = #[.int .u8 0, .int .u64 0, .int .u64 0, .string ⟨#[]⟩, .string ⟨#[]⟩, .string ⟨#[]⟩, .string ⟨#[]⟩, .string ⟨#[]⟩, .int .u8 0, .int .u64 0, .int .u64 0, .slice none 0 0] := rfl
def hdK (f : Fr.F) (k : Nat) : List UInt8 := Cm.one f.kind ++ f.tok.l.take k
theorem hdK_step (f : Fr.F) (k : Nat) (hk : k < 8) : hdK f k ++ Cm.one (f.tok.l[k]'(by rw [tl_len]; exact hk)).toNat = hdK f (k + 1) := by
  unfold hdK
  rw [List.take_succ_eq_append_getElem (by rw [tl_len]; exact hk), ← List.append_assoc]
  congr 1
  unfold Cm.one
  rw [b8_of]
theorem hdK8 (f : Fr.F) : hdK f 8 = Fr.head f := by
  unfold hdK Fr.head
  rw [List.take_of_length_le (by rw [tl_len]; exact Nat.le_refl _)]
theorem hdK_len (f : Fr.F) (k : Nat) : (hdK f k).length ≤ 9 := by
  unfold hdK
  rw [List.length_append, List.length_take]
  have := tl_len f.tok
  have : (Cm.one f.kind).length = 1 := rfl
  omega
set_option maxRecDepth 100000 in
set_option maxHeartbeats 8000000 in
theorem rwrite_any6 (f : Fr.F) (hf : Fr.Fits f) (hn : f.cmd.parts.length ≤ 1000000) (hz : (Cm.bytes f.cmd).length ≤ 50000000) (A : Option Addr) (cap : Nat) (w : World) (hA : Lies w A (pc f.cmd.parts)) :
    Calls Try.prog 18 #[.agg (frC f A cap)] w (RetS (Fr.write f) w) := by
  have hM := fun W (hb : Below w.heap.size w W) => may_any f.cmd hf.cmd A cap W (hA.below hb) hn hz
  have hW := fun W (hb : Below w.heap.size w W) => write_any f.cmd hf.cmd A cap W (hA.below hb) hn hz
  have hS := fun W (hb : Below w.heap.size w W) => same_any f.cmd Cm.zero A none cap 0 W (hA.below hb) (.inl rfl) hn
  have hO := fun W => mayOper_any f.op W
  have hP := fun W => refWriteOper_any f.op hf.op W
  have heq := oper_eql f.op Og.Oper.zero
  rw [operZ] at heq
  rw [cmdZ] at hS
  unfold RetTr at hO
  unfold RetS at hW hP ⊢
  have HM := Lib.hid hM
  have HW := Lib.hid hW
  have HSm := Lib.hid hS
  have HO := Lib.hid hO
  have HP := Lib.hid hP
  have Heq := Lib.hid heq
  have HU := Lib.hid (fun W => str_one f.kind hf.kind W)
  obtain ⟨X, hX⟩ : ∃ X, X = frC f A cap := ⟨_, rfl⟩
  have S0 : FrS w (w.alloc (.cells X 32)) w.heap.size f A cap := ⟨bnew (Below.refl _ _) _, by rw [← hX]; exact heap_alloc_new w _⟩
  have HS0 := Lib.hid S0
  rw [← hX]
  have HZ := Lib.hid hz
  clear S0 hX hM hW hS hO hP heq hf hn hA hz
  by_cases k1 : f.kind = 1
  case pos =>
    have e1 : ((f.kind : Int) == 1) = true := kd_t k1
    have e2 : ((f.kind : Int) == 2) = false := kd_f (m := 2) (by omega)
    by_cases hz : f.op = Og.Oper.zero
    case neg =>
      have E : Hid (Fr.write f = []) := Lib.hid (Fr.write_no (fun h => by rcases h with h | h; exact hz h.2.1; omega))
      have heq := Heq.out
      rw [decide_eq_false hz] at heq
      clear k1 hz
      go_enter Try.func18, Try.ntmps18
      go_upto_region 1 with (fail)
      refine forget (fun W => FrS w W w.heap.size f A cap) HS0.out ?_
      obtain ⟨g, hg⟩ : ∃ g, g = w.heap.size := ⟨_, rfl⟩
      rw [← hg]
      clear hg HS0
      intro W1 S1
      have HS1 := Lib.hid S1
      have c0 := (frAt S1.row).c0
      clear S1
      have hcv := HU.out W1
      go_upto_region 2 with (fail)
      refine forget (fun W => FrS w W g f A cap) (HS1.out.new _) ?_
      clear hcv HS1 c0
      intro W2 S2
      have HS2 := Lib.hid S2
      clear S2
      go_wp2_with fail
      go_loopw [3, 4] (fun v i W => ∃ (k : Nat) (s : ByteArray), k ≤ 8 ∧ i = .int .i64 (k : Int) ∧ v = .string s ∧ s = ⟨(hdK f k).toArray⟩ ∧ FrS w W g f A cap) (fun _ i _ => 8 - (intOf i).toNat)
      case atStart => exact ⟨0, _, by omega, rfl, rfl, by unfold hdK; simp, HS2.out⟩
      case round =>
        obtain ⟨k, s, hk, rfl, rfl, hs, S⟩ := hrel
        have HS := Lib.hid S
        by_cases hlt : k < 8
        · have hcell := S.tok k hlt
          have hst := hdK_step f k hlt
          obtain ⟨b, hb⟩ : ∃ b : Nat, b = (f.tok.l[k]'(by rw [tl_len]; exact hlt)).toNat := ⟨_, rfl⟩
          rw [← hb] at hcell hst
          have hcv := str_one b (by rw [hb]; exact (f.tok.l[k]'(by rw [tl_len]; exact hlt)).toNat_lt) wr
          have hadd := sadd (hdK f k) (Cm.one b) (by have := hdK_len f k; have : (Cm.one b).length = 1 := rfl; omega)
          rw [hst, ← hs] at hadd
          obtain ⟨cc, hcc⟩ : ∃ cc : ByteArray, cc = ⟨(Cm.one b).toArray⟩ := ⟨_, rfl⟩
          obtain ⟨s2, hs2⟩ : ∃ s2 : ByteArray, s2 = ⟨(hdK f (k + 1)).toArray⟩ := ⟨_, rfl⟩
          rw [← hcc, ← hs2] at hadd
          rw [← hcc] at hcv
          have Hs2 := Lib.hid hs2
          have k0 : (0 : Int) ≤ (k : Int) := by omega
          have k1 : (k : Int) < 8 := by omega
          clear S hst hb hs hcc hs2
          go_wp2_with fail
          go_roundw
          case rel => exact ⟨k + 1, s2, by omega, by go_num, rfl, Hs2.out, HS.out.new _⟩
          case measure => simp [intOf]; omega
        · obtain rfl : k = 8 := by omega
          rw [hdK8] at hs
          have Hs := Lib.hid hs
          have c0 := (frAt S.row).c0
          clear S hs HS2
          go_wp2_with (first | (refine wpList_load_sub rfl 30 _ rfl g 9 rfl 32 (frC f A cap) (cmdC f.cmd A cap) (0, 0) _ ?_ (subCmd _ _ _) Try.underlying30 rfl (sizeCmdC _ _ _) ?_; exact HS.out.row) | (refine wpList_load_sub rfl 26 _ rfl g 21 rfl 32 (frC f A cap) (operC f.op) (0, 0) _ ?_ (subOp _ _ _) Try.underlying26 rfl (sizeOpC _) ?_; exact HS.out.row))
          go_ret
          exact ⟨by rw [E.out]; rfl, HS.out.b⟩
    have heq := Heq.out
    rw [decide_eq_true hz] at heq
    rcases hm : Cm.may f.cmd with _ | _
    · have E : Hid (Fr.write f = []) := Lib.hid (Fr.write_no (fun h => by rcases h with h | h; rw [hm] at h; cases h.2.2; omega))
      have Hm := Lib.hid hm
      rw [hm] at HM
      clear k1 hz hm
      go_enter Try.func18, Try.ntmps18
      go_upto_region 1 with (fail)
      refine forget (fun W => FrS w W w.heap.size f A cap) HS0.out ?_
      obtain ⟨g, hg⟩ : ∃ g, g = w.heap.size := ⟨_, rfl⟩
      rw [← hg]
      clear hg HS0
      intro W1 S1
      have HS1 := Lib.hid S1
      have c0 := (frAt S1.row).c0
      clear S1
      have hcv := HU.out W1
      go_upto_region 2 with (fail)
      refine forget (fun W => FrS w W g f A cap) (HS1.out.new _) ?_
      clear hcv HS1 c0
      intro W2 S2
      have HS2 := Lib.hid S2
      clear S2
      go_wp2_with fail
      go_loopw [3, 4] (fun v i W => ∃ (k : Nat) (s : ByteArray), k ≤ 8 ∧ i = .int .i64 (k : Int) ∧ v = .string s ∧ s = ⟨(hdK f k).toArray⟩ ∧ FrS w W g f A cap) (fun _ i _ => 8 - (intOf i).toNat)
      case atStart => exact ⟨0, _, by omega, rfl, rfl, by unfold hdK; simp, HS2.out⟩
      case round =>
        obtain ⟨k, s, hk, rfl, rfl, hs, S⟩ := hrel
        have HS := Lib.hid S
        by_cases hlt : k < 8
        · have hcell := S.tok k hlt
          have hst := hdK_step f k hlt
          obtain ⟨b, hb⟩ : ∃ b : Nat, b = (f.tok.l[k]'(by rw [tl_len]; exact hlt)).toNat := ⟨_, rfl⟩
          rw [← hb] at hcell hst
          have hcv := str_one b (by rw [hb]; exact (f.tok.l[k]'(by rw [tl_len]; exact hlt)).toNat_lt) wr
          have hadd := sadd (hdK f k) (Cm.one b) (by have := hdK_len f k; have : (Cm.one b).length = 1 := rfl; omega)
          rw [hst, ← hs] at hadd
          obtain ⟨cc, hcc⟩ : ∃ cc : ByteArray, cc = ⟨(Cm.one b).toArray⟩ := ⟨_, rfl⟩
          obtain ⟨s2, hs2⟩ : ∃ s2 : ByteArray, s2 = ⟨(hdK f (k + 1)).toArray⟩ := ⟨_, rfl⟩
          rw [← hcc, ← hs2] at hadd
          rw [← hcc] at hcv
          have Hs2 := Lib.hid hs2
          have k0 : (0 : Int) ≤ (k : Int) := by omega
          have k1 : (k : Int) < 8 := by omega
          clear S hst hb hs hcc hs2
          go_wp2_with fail
          go_roundw
          case rel => exact ⟨k + 1, s2, by omega, by go_num, rfl, Hs2.out, HS.out.new _⟩
          case measure => simp [intOf]; omega
        · obtain rfl : k = 8 := by omega
          rw [hdK8] at hs
          have Hs := Lib.hid hs
          have c0 := (frAt S.row).c0
          clear S hs HS2
          go_wp2_with (first | (refine wpList_load_sub rfl 30 _ rfl g 9 rfl 32 (frC f A cap) (cmdC f.cmd A cap) (0, 0) _ ?_ (subCmd _ _ _) Try.underlying30 rfl (sizeCmdC _ _ _) ?_; exact HS.out.row) | (refine wpList_load_sub rfl 26 _ rfl g 21 rfl 32 (frC f A cap) (operC f.op) (0, 0) _ ?_ (subOp _ _ _) Try.underlying26 rfl (sizeOpC _) ?_; exact HS.out.row))
          refine (HM.out _ HS.out.b).mono ?_
          rintro e w3 ⟨rfl, hb⟩
          have HS3 := Lib.hid (HS.out.grow hb)
          clear hb c0
          have c0 := (frAt HS3.out.row).c0
          go_wp2_with (first | (refine wpList_load_sub rfl 30 _ rfl g 9 rfl 32 (frC f A cap) (cmdC f.cmd A cap) (0, 0) _ ?_ (subCmd _ _ _) Try.underlying30 rfl (sizeCmdC _ _ _) ?_; exact HS3.out.row) | (refine wpList_load_sub rfl 26 _ rfl g 21 rfl 32 (frC f A cap) (operC f.op) (0, 0) _ ?_ (subOp _ _ _) Try.underlying26 rfl (sizeOpC _) ?_; exact HS3.out.row))
          go_ret
          exact ⟨by rw [E.out]; rfl, HS3.out.b⟩
    have E : Hid (Fr.write f = Fr.head f ++ Cm.write f.cmd) := Lib.hid (by rw [Fr.write_yes (.inl ⟨k1, hz, hm⟩)]; unfold Fr.enc Cm.write; rw [if_pos k1, hm, if_pos rfl])
    have Hwl : Hid ((Cm.write f.cmd).length ≤ 50000000) := Lib.hid (by unfold Cm.write; rw [hm, if_pos rfl]; exact HZ.out)
    rw [hm] at HM
    clear k1 hz hm
    go_enter Try.func18, Try.ntmps18
    go_upto_region 1 with (fail)
    refine forget (fun W => FrS w W w.heap.size f A cap) HS0.out ?_
    obtain ⟨g, hg⟩ : ∃ g, g = w.heap.size := ⟨_, rfl⟩
    rw [← hg]
    clear hg HS0
    intro W1 S1
    have HS1 := Lib.hid S1
    have c0 := (frAt S1.row).c0
    clear S1
    have hcv := HU.out W1
    go_upto_region 2 with (fail)
    refine forget (fun W => FrS w W g f A cap) (HS1.out.new _) ?_
    clear hcv HS1 c0
    intro W2 S2
    have HS2 := Lib.hid S2
    clear S2
    go_wp2_with fail
    go_loopw [3, 4] (fun v i W => ∃ (k : Nat) (s : ByteArray), k ≤ 8 ∧ i = .int .i64 (k : Int) ∧ v = .string s ∧ s = ⟨(hdK f k).toArray⟩ ∧ FrS w W g f A cap) (fun _ i _ => 8 - (intOf i).toNat)
    case atStart => exact ⟨0, _, by omega, rfl, rfl, by unfold hdK; simp, HS2.out⟩
    case round =>
      obtain ⟨k, s, hk, rfl, rfl, hs, S⟩ := hrel
      have HS := Lib.hid S
      by_cases hlt : k < 8
      · have hcell := S.tok k hlt
        have hst := hdK_step f k hlt
        obtain ⟨b, hb⟩ : ∃ b : Nat, b = (f.tok.l[k]'(by rw [tl_len]; exact hlt)).toNat := ⟨_, rfl⟩
        rw [← hb] at hcell hst
        have hcv := str_one b (by rw [hb]; exact (f.tok.l[k]'(by rw [tl_len]; exact hlt)).toNat_lt) wr
        have hadd := sadd (hdK f k) (Cm.one b) (by have := hdK_len f k; have : (Cm.one b).length = 1 := rfl; omega)
        rw [hst, ← hs] at hadd
        obtain ⟨cc, hcc⟩ : ∃ cc : ByteArray, cc = ⟨(Cm.one b).toArray⟩ := ⟨_, rfl⟩
        obtain ⟨s2, hs2⟩ : ∃ s2 : ByteArray, s2 = ⟨(hdK f (k + 1)).toArray⟩ := ⟨_, rfl⟩
        rw [← hcc, ← hs2] at hadd
        rw [← hcc] at hcv
        have Hs2 := Lib.hid hs2
        have k0 : (0 : Int) ≤ (k : Int) := by omega
        have k1 : (k : Int) < 8 := by omega
        clear S hst hb hs hcc hs2
        go_wp2_with fail
        go_roundw
        case rel => exact ⟨k + 1, s2, by omega, by go_num, rfl, Hs2.out, HS.out.new _⟩
        case measure => simp [intOf]; omega
      · obtain rfl : k = 8 := by omega
        rw [hdK8] at hs
        have Hs := Lib.hid hs
        have c0 := (frAt S.row).c0
        clear S hs HS2
        go_wp2_with (first | (refine wpList_load_sub rfl 30 _ rfl g 9 rfl 32 (frC f A cap) (cmdC f.cmd A cap) (0, 0) _ ?_ (subCmd _ _ _) Try.underlying30 rfl (sizeCmdC _ _ _) ?_; exact HS.out.row) | (refine wpList_load_sub rfl 26 _ rfl g 21 rfl 32 (frC f A cap) (operC f.op) (0, 0) _ ?_ (subOp _ _ _) Try.underlying26 rfl (sizeOpC _) ?_; exact HS.out.row))
        refine (HM.out _ HS.out.b).mono ?_
        rintro e w3 ⟨rfl, hb⟩
        have HS3 := Lib.hid (HS.out.grow hb)
        clear hb c0
        have c0 := (frAt HS3.out.row).c0
        have hadd := sadd (Fr.head f) (Cm.write f.cmd) (by have := hdK_len f 8; rw [hdK8] at this; have := Hwl.out; omega)
        rw [← Hs.out] at hadd
        obtain ⟨t, ht⟩ : ∃ t : ByteArray, t = ⟨(Cm.write f.cmd).toArray⟩ := ⟨_, rfl⟩
        obtain ⟨s2, hs2⟩ : ∃ s2 : ByteArray, s2 = ⟨(Fr.head f ++ Cm.write f.cmd).toArray⟩ := ⟨_, rfl⟩
        rw [← ht, ← hs2] at hadd
        have Ht := Lib.hid ht
        have Hs2 := Lib.hid hs2
        clear ht hs2
        go_wp2_with (first | (refine wpList_load_sub rfl 30 _ rfl g 9 rfl 32 (frC f A cap) (cmdC f.cmd A cap) (0, 0) _ ?_ (subCmd _ _ _) Try.underlying30 rfl (sizeCmdC _ _ _) ?_; exact HS3.out.row) | (refine wpList_load_sub rfl 26 _ rfl g 21 rfl 32 (frC f A cap) (operC f.op) (0, 0) _ ?_ (subOp _ _ _) Try.underlying26 rfl (sizeOpC _) ?_; exact HS3.out.row))
        refine (HW.out _ HS3.out.b).mono ?_
        rw [← Ht.out]
        rintro e w4 ⟨rfl, hb⟩
        have HS4 := Lib.hid (HS3.out.grow hb)
        clear hb
        go_wp2_with fail
        go_ret
        exact ⟨by rw [E.out, ← Hs2.out]; rfl, HS4.out.b⟩
  have e1 : ((f.kind : Int) == 1) = false := kd_f k1
  by_cases k2 : f.kind = 2
  case neg =>
    have e2 : ((f.kind : Int) == 2) = false := kd_f k2
    have E : Hid (Fr.write f = []) := Lib.hid (Fr.write_no (fun h => by rcases h with h | h; exact k1 h.1; exact k2 h.1))
    clear k1 k2
    go_enter Try.func18, Try.ntmps18
    go_upto_region 1 with (fail)
    refine forget (fun W => FrS w W w.heap.size f A cap) HS0.out ?_
    obtain ⟨g, hg⟩ : ∃ g, g = w.heap.size := ⟨_, rfl⟩
    rw [← hg]
    clear hg HS0
    intro W1 S1
    have HS1 := Lib.hid S1
    have c0 := (frAt S1.row).c0
    clear S1
    have hcv := HU.out W1
    go_upto_region 2 with (fail)
    refine forget (fun W => FrS w W g f A cap) (HS1.out.new _) ?_
    clear hcv HS1 c0
    intro W2 S2
    have HS2 := Lib.hid S2
    clear S2
    go_wp2_with fail
    go_loopw [3, 4] (fun v i W => ∃ (k : Nat) (s : ByteArray), k ≤ 8 ∧ i = .int .i64 (k : Int) ∧ v = .string s ∧ s = ⟨(hdK f k).toArray⟩ ∧ FrS w W g f A cap) (fun _ i _ => 8 - (intOf i).toNat)
    case atStart => exact ⟨0, _, by omega, rfl, rfl, by unfold hdK; simp, HS2.out⟩
    case round =>
      obtain ⟨k, s, hk, rfl, rfl, hs, S⟩ := hrel
      have HS := Lib.hid S
      by_cases hlt : k < 8
      · have hcell := S.tok k hlt
        have hst := hdK_step f k hlt
        obtain ⟨b, hb⟩ : ∃ b : Nat, b = (f.tok.l[k]'(by rw [tl_len]; exact hlt)).toNat := ⟨_, rfl⟩
        rw [← hb] at hcell hst
        have hcv := str_one b (by rw [hb]; exact (f.tok.l[k]'(by rw [tl_len]; exact hlt)).toNat_lt) wr
        have hadd := sadd (hdK f k) (Cm.one b) (by have := hdK_len f k; have : (Cm.one b).length = 1 := rfl; omega)
        rw [hst, ← hs] at hadd
        obtain ⟨cc, hcc⟩ : ∃ cc : ByteArray, cc = ⟨(Cm.one b).toArray⟩ := ⟨_, rfl⟩
        obtain ⟨s2, hs2⟩ : ∃ s2 : ByteArray, s2 = ⟨(hdK f (k + 1)).toArray⟩ := ⟨_, rfl⟩
        rw [← hcc, ← hs2] at hadd
        rw [← hcc] at hcv
        have Hs2 := Lib.hid hs2
        have k0 : (0 : Int) ≤ (k : Int) := by omega
        have k1 : (k : Int) < 8 := by omega
        clear S hst hb hs hcc hs2
        go_wp2_with fail
        go_roundw
        case rel => exact ⟨k + 1, s2, by omega, by go_num, rfl, Hs2.out, HS.out.new _⟩
        case measure => simp [intOf]; omega
      · obtain rfl : k = 8 := by omega
        rw [hdK8] at hs
        have Hs := Lib.hid hs
        have c0 := (frAt S.row).c0
        clear S hs HS2
        go_wp2_with (first | (refine wpList_load_sub rfl 30 _ rfl g 9 rfl 32 (frC f A cap) (cmdC f.cmd A cap) (0, 0) _ ?_ (subCmd _ _ _) Try.underlying30 rfl (sizeCmdC _ _ _) ?_; exact HS.out.row) | (refine wpList_load_sub rfl 26 _ rfl g 21 rfl 32 (frC f A cap) (operC f.op) (0, 0) _ ?_ (subOp _ _ _) Try.underlying26 rfl (sizeOpC _) ?_; exact HS.out.row))
        go_ret
        exact ⟨by rw [E.out]; rfl, HS.out.b⟩
  have e2 : ((f.kind : Int) == 2) = true := kd_t k2
  rcases hs : Cm.same f.cmd Cm.zero with _ | _
  · have E : Hid (Fr.write f = []) := Lib.hid (Fr.write_no (fun h => by
      rcases h with h | h
      · omega
      · rw [h.2.1, Cm.same_refl] at hs; cases hs))
    rw [hs] at HSm
    clear k1 k2 hs
    go_enter Try.func18, Try.ntmps18
    go_upto_region 1 with (fail)
    refine forget (fun W => FrS w W w.heap.size f A cap) HS0.out ?_
    obtain ⟨g, hg⟩ : ∃ g, g = w.heap.size := ⟨_, rfl⟩
    rw [← hg]
    clear hg HS0
    intro W1 S1
    have HS1 := Lib.hid S1
    have c0 := (frAt S1.row).c0
    clear S1
    have hcv := HU.out W1
    go_upto_region 2 with (fail)
    refine forget (fun W => FrS w W g f A cap) (HS1.out.new _) ?_
    clear hcv HS1 c0
    intro W2 S2
    have HS2 := Lib.hid S2
    clear S2
    go_wp2_with fail
    go_loopw [3, 4] (fun v i W => ∃ (k : Nat) (s : ByteArray), k ≤ 8 ∧ i = .int .i64 (k : Int) ∧ v = .string s ∧ s = ⟨(hdK f k).toArray⟩ ∧ FrS w W g f A cap) (fun _ i _ => 8 - (intOf i).toNat)
    case atStart => exact ⟨0, _, by omega, rfl, rfl, by unfold hdK; simp, HS2.out⟩
    case round =>
      obtain ⟨k, s, hk, rfl, rfl, hs, S⟩ := hrel
      have HS := Lib.hid S
      by_cases hlt : k < 8
      · have hcell := S.tok k hlt
        have hst := hdK_step f k hlt
        obtain ⟨b, hb⟩ : ∃ b : Nat, b = (f.tok.l[k]'(by rw [tl_len]; exact hlt)).toNat := ⟨_, rfl⟩
        rw [← hb] at hcell hst
        have hcv := str_one b (by rw [hb]; exact (f.tok.l[k]'(by rw [tl_len]; exact hlt)).toNat_lt) wr
        have hadd := sadd (hdK f k) (Cm.one b) (by have := hdK_len f k; have : (Cm.one b).length = 1 := rfl; omega)
        rw [hst, ← hs] at hadd
        obtain ⟨cc, hcc⟩ : ∃ cc : ByteArray, cc = ⟨(Cm.one b).toArray⟩ := ⟨_, rfl⟩
        obtain ⟨s2, hs2⟩ : ∃ s2 : ByteArray, s2 = ⟨(hdK f (k + 1)).toArray⟩ := ⟨_, rfl⟩
        rw [← hcc, ← hs2] at hadd
        rw [← hcc] at hcv
        have Hs2 := Lib.hid hs2
        have k0 : (0 : Int) ≤ (k : Int) := by omega
        have k1 : (k : Int) < 8 := by omega
        clear S hst hb hs hcc hs2
        go_wp2_with fail
        go_roundw
        case rel => exact ⟨k + 1, s2, by omega, by go_num, rfl, Hs2.out, HS.out.new _⟩
        case measure => simp [intOf]; omega
      · obtain rfl : k = 8 := by omega
        rw [hdK8] at hs
        have Hs := Lib.hid hs
        have c0 := (frAt S.row).c0
        clear S hs HS2
        go_wp2_with (first | (refine wpList_load_sub rfl 30 _ rfl g 9 rfl 32 (frC f A cap) (cmdC f.cmd A cap) (0, 0) _ ?_ (subCmd _ _ _) Try.underlying30 rfl (sizeCmdC _ _ _) ?_; exact HS.out.row) | (refine wpList_load_sub rfl 26 _ rfl g 21 rfl 32 (frC f A cap) (operC f.op) (0, 0) _ ?_ (subOp _ _ _) Try.underlying26 rfl (sizeOpC _) ?_; exact HS.out.row))
        refine (HSm.out _ HS.out.b).mono ?_
        rintro e w3 ⟨rfl, hb⟩
        have HS3 := Lib.hid (HS.out.grow hb)
        clear hb c0
        have c0 := (frAt HS3.out.row).c0
        go_wp2_with (first | (refine wpList_load_sub rfl 30 _ rfl g 9 rfl 32 (frC f A cap) (cmdC f.cmd A cap) (0, 0) _ ?_ (subCmd _ _ _) Try.underlying30 rfl (sizeCmdC _ _ _) ?_; exact HS3.out.row) | (refine wpList_load_sub rfl 26 _ rfl g 21 rfl 32 (frC f A cap) (operC f.op) (0, 0) _ ?_ (subOp _ _ _) Try.underlying26 rfl (sizeOpC _) ?_; exact HS3.out.row))
        go_ret
        exact ⟨by rw [E.out]; rfl, HS3.out.b⟩
  rw [hs] at HSm
  by_cases hm : Og.may f.op
  case neg =>
    have E : Hid (Fr.write f = []) := Lib.hid (Fr.write_no (fun h => by
      rcases h with h | h
      · omega
      · exact hm h.2.2))
    rw [decide_eq_false hm] at HO
    clear k1 k2 hs hm
    go_enter Try.func18, Try.ntmps18
    go_upto_region 1 with (fail)
    refine forget (fun W => FrS w W w.heap.size f A cap) HS0.out ?_
    obtain ⟨g, hg⟩ : ∃ g, g = w.heap.size := ⟨_, rfl⟩
    rw [← hg]
    clear hg HS0
    intro W1 S1
    have HS1 := Lib.hid S1
    have c0 := (frAt S1.row).c0
    clear S1
    have hcv := HU.out W1
    go_upto_region 2 with (fail)
    refine forget (fun W => FrS w W g f A cap) (HS1.out.new _) ?_
    clear hcv HS1 c0
    intro W2 S2
    have HS2 := Lib.hid S2
    clear S2
    go_wp2_with fail
    go_loopw [3, 4] (fun v i W => ∃ (k : Nat) (s : ByteArray), k ≤ 8 ∧ i = .int .i64 (k : Int) ∧ v = .string s ∧ s = ⟨(hdK f k).toArray⟩ ∧ FrS w W g f A cap) (fun _ i _ => 8 - (intOf i).toNat)
    case atStart => exact ⟨0, _, by omega, rfl, rfl, by unfold hdK; simp, HS2.out⟩
    case round =>
      obtain ⟨k, s, hk, rfl, rfl, hs, S⟩ := hrel
      have HS := Lib.hid S
      by_cases hlt : k < 8
      · have hcell := S.tok k hlt
        have hst := hdK_step f k hlt
        obtain ⟨b, hb⟩ : ∃ b : Nat, b = (f.tok.l[k]'(by rw [tl_len]; exact hlt)).toNat := ⟨_, rfl⟩
        rw [← hb] at hcell hst
        have hcv := str_one b (by rw [hb]; exact (f.tok.l[k]'(by rw [tl_len]; exact hlt)).toNat_lt) wr
        have hadd := sadd (hdK f k) (Cm.one b) (by have := hdK_len f k; have : (Cm.one b).length = 1 := rfl; omega)
        rw [hst, ← hs] at hadd
        obtain ⟨cc, hcc⟩ : ∃ cc : ByteArray, cc = ⟨(Cm.one b).toArray⟩ := ⟨_, rfl⟩
        obtain ⟨s2, hs2⟩ : ∃ s2 : ByteArray, s2 = ⟨(hdK f (k + 1)).toArray⟩ := ⟨_, rfl⟩
        rw [← hcc, ← hs2] at hadd
        rw [← hcc] at hcv
        have Hs2 := Lib.hid hs2
        have k0 : (0 : Int) ≤ (k : Int) := by omega
        have k1 : (k : Int) < 8 := by omega
        clear S hst hb hs hcc hs2
        go_wp2_with fail
        go_roundw
        case rel => exact ⟨k + 1, s2, by omega, by go_num, rfl, Hs2.out, HS.out.new _⟩
        case measure => simp [intOf]; omega
      · obtain rfl : k = 8 := by omega
        rw [hdK8] at hs
        have Hs := Lib.hid hs
        have c0 := (frAt S.row).c0
        clear S hs HS2
        go_wp2_with (first | (refine wpList_load_sub rfl 30 _ rfl g 9 rfl 32 (frC f A cap) (cmdC f.cmd A cap) (0, 0) _ ?_ (subCmd _ _ _) Try.underlying30 rfl (sizeCmdC _ _ _) ?_; exact HS.out.row) | (refine wpList_load_sub rfl 26 _ rfl g 21 rfl 32 (frC f A cap) (operC f.op) (0, 0) _ ?_ (subOp _ _ _) Try.underlying26 rfl (sizeOpC _) ?_; exact HS.out.row))
        refine (HSm.out _ HS.out.b).mono ?_
        rintro e w3 ⟨rfl, hb⟩
        have HS3 := Lib.hid (HS.out.grow hb)
        clear hb c0
        have c0 := (frAt HS3.out.row).c0
        go_wp2_with (first | (refine wpList_load_sub rfl 30 _ rfl g 9 rfl 32 (frC f A cap) (cmdC f.cmd A cap) (0, 0) _ ?_ (subCmd _ _ _) Try.underlying30 rfl (sizeCmdC _ _ _) ?_; exact HS3.out.row) | (refine wpList_load_sub rfl 26 _ rfl g 21 rfl 32 (frC f A cap) (operC f.op) (0, 0) _ ?_ (subOp _ _ _) Try.underlying26 rfl (sizeOpC _) ?_; exact HS3.out.row))
        refine (HO.out _).mono ?_
        rintro e w4 ⟨rfl, hb⟩
        have HS4 := Lib.hid (HS3.out.grow hb)
        clear hb c0
        have c0 := (frAt HS4.out.row).c0
        go_wp2_with (first | (refine wpList_load_sub rfl 30 _ rfl g 9 rfl 32 (frC f A cap) (cmdC f.cmd A cap) (0, 0) _ ?_ (subCmd _ _ _) Try.underlying30 rfl (sizeCmdC _ _ _) ?_; exact HS4.out.row) | (refine wpList_load_sub rfl 26 _ rfl g 21 rfl 32 (frC f A cap) (operC f.op) (0, 0) _ ?_ (subOp _ _ _) Try.underlying26 rfl (sizeOpC _) ?_; exact HS4.out.row))
        go_ret
        exact ⟨by rw [E.out]; rfl, HS4.out.b⟩
  have E : Hid (Fr.write f = Fr.head f ++ Og.write f.op) := Lib.hid (by rw [Fr.write_yes (.inr ⟨k2, (Cm.same_iff _ _).1 hs, hm⟩)]; unfold Fr.enc Og.write; rw [if_neg (by omega), if_pos hm])
  have Hwl : Hid ((Og.write f.op).length ≤ 60) := Lib.hid (by unfold Og.write; rw [if_pos hm]; exact Fr.oenc_len hm)
  rw [decide_eq_true hm] at HO
  clear k1 k2 hs hm
  go_enter Try.func18, Try.ntmps18
  go_upto_region 1 with (fail)
  refine forget (fun W => FrS w W w.heap.size f A cap) HS0.out ?_
  obtain ⟨g, hg⟩ : ∃ g, g = w.heap.size := ⟨_, rfl⟩
  rw [← hg]
  clear hg HS0
  intro W1 S1
  have HS1 := Lib.hid S1
  have c0 := (frAt S1.row).c0
  clear S1
  have hcv := HU.out W1
  go_upto_region 2 with (fail)
  refine forget (fun W => FrS w W g f A cap) (HS1.out.new _) ?_
  clear hcv HS1 c0
  intro W2 S2
  have HS2 := Lib.hid S2
  clear S2
  go_wp2_with fail
  go_loopw [3, 4] (fun v i W => ∃ (k : Nat) (s : ByteArray), k ≤ 8 ∧ i = .int .i64 (k : Int) ∧ v = .string s ∧ s = ⟨(hdK f k).toArray⟩ ∧ FrS w W g f A cap) (fun _ i _ => 8 - (intOf i).toNat)
  case atStart => exact ⟨0, _, by omega, rfl, rfl, by unfold hdK; simp, HS2.out⟩
  case round =>
    obtain ⟨k, s, hk, rfl, rfl, hs, S⟩ := hrel
    have HS := Lib.hid S
    by_cases hlt : k < 8
    · have hcell := S.tok k hlt
      have hst := hdK_step f k hlt
      obtain ⟨b, hb⟩ : ∃ b : Nat, b = (f.tok.l[k]'(by rw [tl_len]; exact hlt)).toNat := ⟨_, rfl⟩
      rw [← hb] at hcell hst
      have hcv := str_one b (by rw [hb]; exact (f.tok.l[k]'(by rw [tl_len]; exact hlt)).toNat_lt) wr
      have hadd := sadd (hdK f k) (Cm.one b) (by have := hdK_len f k; have : (Cm.one b).length = 1 := rfl; omega)
      rw [hst, ← hs] at hadd
      obtain ⟨cc, hcc⟩ : ∃ cc : ByteArray, cc = ⟨(Cm.one b).toArray⟩ := ⟨_, rfl⟩
      obtain ⟨s2, hs2⟩ : ∃ s2 : ByteArray, s2 = ⟨(hdK f (k + 1)).toArray⟩ := ⟨_, rfl⟩
      rw [← hcc, ← hs2] at hadd
      rw [← hcc] at hcv
      have Hs2 := Lib.hid hs2
      have k0 : (0 : Int) ≤ (k : Int) := by omega
      have k1 : (k : Int) < 8 := by omega
      clear S hst hb hs hcc hs2
      go_wp2_with fail
      go_roundw
      case rel => exact ⟨k + 1, s2, by omega, by go_num, rfl, Hs2.out, HS.out.new _⟩
      case measure => simp [intOf]; omega
    · obtain rfl : k = 8 := by omega
      rw [hdK8] at hs
      have Hs := Lib.hid hs
      have c0 := (frAt S.row).c0
      clear S hs HS2
      go_wp2_with (first | (refine wpList_load_sub rfl 30 _ rfl g 9 rfl 32 (frC f A cap) (cmdC f.cmd A cap) (0, 0) _ ?_ (subCmd _ _ _) Try.underlying30 rfl (sizeCmdC _ _ _) ?_; exact HS.out.row) | (refine wpList_load_sub rfl 26 _ rfl g 21 rfl 32 (frC f A cap) (operC f.op) (0, 0) _ ?_ (subOp _ _ _) Try.underlying26 rfl (sizeOpC _) ?_; exact HS.out.row))
      refine (HSm.out _ HS.out.b).mono ?_
      rintro e w3 ⟨rfl, hb⟩
      have HS3 := Lib.hid (HS.out.grow hb)
      clear hb c0
      have c0 := (frAt HS3.out.row).c0
      go_wp2_with (first | (refine wpList_load_sub rfl 30 _ rfl g 9 rfl 32 (frC f A cap) (cmdC f.cmd A cap) (0, 0) _ ?_ (subCmd _ _ _) Try.underlying30 rfl (sizeCmdC _ _ _) ?_; exact HS3.out.row) | (refine wpList_load_sub rfl 26 _ rfl g 21 rfl 32 (frC f A cap) (operC f.op) (0, 0) _ ?_ (subOp _ _ _) Try.underlying26 rfl (sizeOpC _) ?_; exact HS3.out.row))
      refine (HO.out _).mono ?_
      rintro e w4 ⟨rfl, hb⟩
      have HS4 := Lib.hid (HS3.out.grow hb)
      clear hb c0
      have c0 := (frAt HS4.out.row).c0
      have hadd := sadd (Fr.head f) (Og.write f.op) (by have := hdK_len f 8; rw [hdK8] at this; have := Hwl.out; omega)
      rw [← Hs.out] at hadd
      obtain ⟨t, ht⟩ : ∃ t : ByteArray, t = ⟨(Og.write f.op).toArray⟩ := ⟨_, rfl⟩
      obtain ⟨s2, hs2⟩ : ∃ s2 : ByteArray, s2 = ⟨(Fr.head f ++ Og.write f.op).toArray⟩ := ⟨_, rfl⟩
      rw [← ht, ← hs2] at hadd
      have Ht := Lib.hid ht
      have Hs2 := Lib.hid hs2
      clear ht hs2
      go_wp2_with (first | (refine wpList_load_sub rfl 30 _ rfl g 9 rfl 32 (frC f A cap) (cmdC f.cmd A cap) (0, 0) _ ?_ (subCmd _ _ _) Try.underlying30 rfl (sizeCmdC _ _ _) ?_; exact HS4.out.row) | (refine wpList_load_sub rfl 26 _ rfl g 21 rfl 32 (frC f A cap) (operC f.op) (0, 0) _ ?_ (subOp _ _ _) Try.underlying26 rfl (sizeOpC _) ?_; exact HS4.out.row))
      refine (HP.out _).mono ?_
      rw [← Ht.out]
      rintro e w5 ⟨rfl, hb⟩
      have HS5 := Lib.hid (HS4.out.grow hb)
      clear hb
      go_wp2_with fail
      go_ret
      exact ⟨by rw [E.out, ← Hs2.out]; rfl, HS5.out.b⟩
end Go.Proofs.Ytlcgjlganmblpaa
