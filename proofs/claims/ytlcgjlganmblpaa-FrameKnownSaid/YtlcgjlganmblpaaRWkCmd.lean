/-
  cmd.walkCmd walked, by any walker. WRITTEN BY wip/tools/gen_wkcmd.py.
-/
import Derived.Test.YtlcgjlganmblpaaRWk
import Derived.Test.YtlcgjlganmblpaaRCmdRead
set_option linter.unusedSimpArgs false
set_option linter.unusedVariables false
namespace Go.Proofs.Ytlcgjlganmblpaa
open Go.RowKit
namespace Wk
def Alg.body (A : Alg) (op ses seq : Nat) (s : St) (c : Cm.Cmd) : Cm.Cmd × St :=
  if op = 1 ∨ op = 6 then (⟨op, ses, seq, Cm.e0, Cm.e0, Cm.e0, Cm.e0, Cm.e0, 0, 0, (A.grp s c.ttl 18446744073709551615).1, []⟩, (A.grp s c.ttl 18446744073709551615).2)
  else if op = 2 then (⟨op, ses, seq, (A.txt s c.key).1, (A.txt (A.txt s c.key).2 c.val).1, Cm.e0, Cm.e0, Cm.e0, 0, (A.grp (A.txt (A.txt s c.key).2 c.val).2 c.lease 18446744073709551615).1, 0, []⟩, (A.grp (A.txt (A.txt s c.key).2 c.val).2 c.lease 18446744073709551615).2)
  else if op = 3 ∨ op = 8 then (⟨op, ses, seq, (A.txt s c.key).1, Cm.e0, Cm.e0, Cm.e0, Cm.e0, 0, 0, 0, []⟩, (A.txt s c.key).2)
  else if op = 4 then (⟨op, ses, seq, (A.txt s c.key).1, (A.txt (A.txt (A.txt s c.key).2 c.exp).2 c.val).1, (A.txt (A.txt s c.key).2 c.exp).1, Cm.e0, Cm.e0, 0, 0, 0, []⟩, (A.txt (A.txt (A.txt s c.key).2 c.exp).2 c.val).2)
  else if op = 5 then (⟨op, ses, seq, Cm.e0, Cm.e0, Cm.e0, Cm.e0, Cm.e0, 0, 0, 0, (A.batch s c.parts).1⟩, (A.batch s c.parts).2)
  else if op = 7 then (⟨op, ses, seq, Cm.e0, Cm.e0, Cm.e0, Cm.e0, Cm.e0, 0, (A.grp s c.lease 18446744073709551615).1, 0, []⟩, (A.grp s c.lease 18446744073709551615).2)
  else if op = 9 then (⟨op, ses, seq, Cm.e0, Cm.e0, Cm.e0, (A.txt s c.frm).1, (A.txt (A.txt s c.frm).2 c.tto).1, (A.oct (A.txt (A.txt s c.frm).2 c.tto).2 c.lim 0 255).1, 0, 0, []⟩, (A.oct (A.txt (A.txt s c.frm).2 c.tto).2 c.lim 0 255).2)
  else (⟨op, ses, seq, Cm.e0, Cm.e0, Cm.e0, Cm.e0, Cm.e0, 0, 0, 0, []⟩, s)
def Alg.cmd (A : Alg) (s : St) (c : Cm.Cmd) : Cm.Cmd × St :=
  A.body (A.oct s c.op 1 11).1 (A.grp (A.oct s c.op 1 11).2 c.ses 18446744073709551615).1 (A.grp (A.grp (A.oct s c.op 1 11).2 c.ses 18446744073709551615).2 c.seq 18446744073709551615).1 (A.grp (A.grp (A.oct s c.op 1 11).2 c.ses 18446744073709551615).2 c.seq 18446744073709551615).2 c
end Wk
/-- Texts that aren't too long. -/
structure Short (c : Cm.Cmd) : Prop where
  key : c.key.size ≤ 100000
  val : c.val.size ≤ 100000
  exp : c.exp.size ≤ 100000
  frm : c.frm.size ≤ 100000
  tto : c.tto.size ≤ 100000
  len : c.parts.length ≤ 1000000
  parts : ∀ p ∈ c.parts, p.op < 256 ∧ p.key.size ≤ 100000 ∧ p.val.size ≤ 100000
theorem set_prt (c : Cm.Cmd) (A : Option Addr) (cap : Nat) (ps : List Cm.Part) (B : Option Addr) (cb : Nat) : (cmdC c A cap).setIfInBounds 11 (.slice B ps.length cb) = cmdC { c with parts := ps } B cb := by simp [cmdC]
set_option maxRecDepth 100000 in
set_option maxHeartbeats 4000000 in
theorem wcmd_any {T : TypeId} {A : Wk.Alg} {B : Nat} (K : Wkr T A B) (W : World) (g : Nat) (o : Option Nat) (s : Wk.St) (c : Cm.Cmd) (A0 : Option Addr) (cap : Nat) (h : K.At W g o s) (l0 : s.l.length ≤ 100000000)
    (hx : Lies W A0 (pc c.parts)) (hxb : ∀ b off, A0 = some ⟨b, off, none⟩ → c.parts ≠ [] → b < B) (hf : Cm.Fits c) (hz : Short c)
    : Calls Try.prog 60 #[.iface T (.pointer (some ⟨g, 0, none⟩)), .agg (cmdC c A0 cap)] W fun e w' => ∃ Au cu o', e = .returned (.agg (cmdC (A.cmd s c).1 Au cu)) ∧ Made K W w' g o o' (A.cmd s c).2 Au (pc (A.cmd s c).1.parts) := by
  have mO := K.mO g
  have mG := K.mG g
  have mT := K.mT g
  have eO := K.eO
  have eG := K.eG
  have eT := K.eT
  have HS := Lib.hid (WS.start K h 30 (cmdC c A0 cap) (cmdC Cm.zero none 0) (cmdC Cm.zero none 0))
  have Hx := Lib.hid hx
  have HOB : Hid (∀ b, o = some b → b < B → False) := Lib.hid (fun b e h2 => by have := ((K.lo h).2.2.2 b e).1; omega)
  clear h hx
  have hC : A.cmd s c = A.cmd s c := rfl
  conv at hC => rhs; unfold Wk.Alg.cmd
  have HC := Lib.hid hC
  clear hC
  have FX := cmdF c A0 cap
  obtain ⟨X, hX⟩ : ∃ X, X = cmdC c A0 cap := ⟨_, rfl⟩
  rw [← hX] at FX HS ⊢
  obtain ⟨hx, hx1, x0, x1, x2, x3, x4, x5, x6, x7, x8, x9, x10, x11⟩ := FX
  have hszX : (Try.prog.info? 30).map (·.size) = some X.size := by rw [hx]; exact sizeCmd
  have Hsz := Lib.hid hszX
  have HX := Lib.hid hX
  clear hszX hX
  go_enter Try.func60, Try.ntmps60
  go_upto_region 2 with (fail)
  rw [HX.out] at HS
  refine forget (fun W' => WS K W W' g o o s 30 W.heap.size (W.heap.size + 1) (W.heap.size + 1 + 1) (cmdC c A0 cap) (cmdC Cm.zero none 0) (cmdC Cm.zero none 0)) (by first | exact HS.out | (rw [HX.out]; exact HS.out)) ?_
  clear HS
  clear hx hx1 x0 x1 x2 x3 x4 x5 x6 x7 x8 x9 x10 x11 Hsz HX
  intro W2 S
  have HS := Lib.hid S
  have a0 : W2.cell? ⟨W.heap.size, 0, none⟩ = some (.int .u8 (c.op : Int)) := S.la.cell 0
  have HS := Lib.hid S
  clear S
  go_wp2_with fail
  have S := HS.out
  have hc := K.cO _ g o s c.op 1 11 S.at_ (by omega) hf.op (by omega) (by omega)
  have l1 := A.lenO s c.op 1 11
  have t1 := A.ltO s c.op 1 11 hf.op
  obtain ⟨r, hr⟩ : ∃ r, r = A.oct s c.op 1 11 := ⟨_, rfl⟩
  rw [← hr] at hc l1 t1
  obtain ⟨op, s1⟩ := r
  simp only at hc l1 t1
  refine hc.mono ?_
  rintro e w1 ⟨rfl, o1, hA, hK⟩
  have S' := S.call hA hK
  have k0 : w1.cell? ⟨W.heap.size + 1 + 1, 0, none⟩ = some (.int .u8 0) := S'.lc.cell 0
  have z0 := S'.lc.fz 0
  have S2 := S'.put 0 (.int .u8 (op : Int)) (vs := cmdC ⟨op, 0, 0, Cm.e0, Cm.e0, Cm.e0, Cm.e0, Cm.e0, 0, 0, 0, []⟩ none 0) (set_op _ _ _ op)
  have HS2 := Lib.hid S2
  have Hr1 := Lib.hid hr
  clear S S' S2 hA hK HS hc hr
  go_upto_region 3 with (fail)
  refine forget (fun W' => WS K W W' g o o1 s1 30 W.heap.size (W.heap.size + 1) (W.heap.size + 1 + 1) (cmdC c A0 cap) (cmdC Cm.zero none 0) (cmdC ⟨op, 0, 0, Cm.e0, Cm.e0, Cm.e0, Cm.e0, Cm.e0, 0, 0, 0, []⟩ none 0)) HS2.out ?_
  clear HS2 k0 z0
  intro W2 S
  clear a0
  have a0 : W2.cell? ⟨W.heap.size, 1, none⟩ = some (.int .u64 (c.ses : Int)) := S.la.cell 1
  have HS := Lib.hid S
  clear S
  go_wp2_with fail
  have S := HS.out
  have hc := K.cG _ g o1 s1 c.ses 18446744073709551615 S.at_ (by omega) hf.ses (by unfold Nm.top; omega)
  rw [show (((18446744073709551615 : Nat) : Int)) = 18446744073709551615 from rfl] at hc
  have l2 := A.lenG s1 c.ses 18446744073709551615 hf.ses
  have t2 := A.ltG s1 c.ses 18446744073709551615 hf.ses
  obtain ⟨r, hr⟩ : ∃ r, r = A.grp s1 c.ses 18446744073709551615 := ⟨_, rfl⟩
  rw [← hr] at hc l2 t2
  obtain ⟨ses, s2⟩ := r
  simp only at hc l2 t2
  refine hc.mono ?_
  rintro e w2 ⟨rfl, o2, hA, hK⟩
  have S' := S.call hA hK
  have k0 : w2.cell? ⟨W.heap.size + 1 + 1, 1, none⟩ = some (.int .u64 0) := S'.lc.cell 1
  have z0 := S'.lc.fz 1
  have S2 := S'.put 1 (.int .u64 (ses : Int)) (vs := cmdC ⟨op, ses, 0, Cm.e0, Cm.e0, Cm.e0, Cm.e0, Cm.e0, 0, 0, 0, []⟩ none 0) (set_ses _ _ _ ses)
  have HS2 := Lib.hid S2
  have Hr2 := Lib.hid hr
  clear S S' S2 hA hK HS hc hr
  go_upto_region 4 with (fail)
  refine forget (fun W' => WS K W W' g o o2 s2 30 W.heap.size (W.heap.size + 1) (W.heap.size + 1 + 1) (cmdC c A0 cap) (cmdC Cm.zero none 0) (cmdC ⟨op, ses, 0, Cm.e0, Cm.e0, Cm.e0, Cm.e0, Cm.e0, 0, 0, 0, []⟩ none 0)) HS2.out ?_
  clear HS2 k0 z0
  intro W2 S
  clear a0
  have a0 : W2.cell? ⟨W.heap.size, 2, none⟩ = some (.int .u64 (c.seq : Int)) := S.la.cell 2
  have HS := Lib.hid S
  clear S
  go_wp2_with fail
  have S := HS.out
  have hc := K.cG _ g o2 s2 c.seq 18446744073709551615 S.at_ (by omega) hf.seq (by unfold Nm.top; omega)
  rw [show (((18446744073709551615 : Nat) : Int)) = 18446744073709551615 from rfl] at hc
  have l3 := A.lenG s2 c.seq 18446744073709551615 hf.seq
  have t3 := A.ltG s2 c.seq 18446744073709551615 hf.seq
  obtain ⟨r, hr⟩ : ∃ r, r = A.grp s2 c.seq 18446744073709551615 := ⟨_, rfl⟩
  rw [← hr] at hc l3 t3
  obtain ⟨seq, s3⟩ := r
  simp only at hc l3 t3
  refine hc.mono ?_
  rintro e w3 ⟨rfl, o3, hA, hK⟩
  have S' := S.call hA hK
  have k0 : w3.cell? ⟨W.heap.size + 1 + 1, 2, none⟩ = some (.int .u64 0) := S'.lc.cell 2
  have z0 := S'.lc.fz 2
  have S2 := S'.put 2 (.int .u64 (seq : Int)) (vs := cmdC ⟨op, ses, seq, Cm.e0, Cm.e0, Cm.e0, Cm.e0, Cm.e0, 0, 0, 0, []⟩ none 0) (set_seq _ _ _ seq)
  have HS2 := Lib.hid S2
  have Hr3 := Lib.hid hr
  clear S S' S2 hA hK HS hc hr
  go_upto_region 5 with (fail)
  refine forget (fun W' => WS K W W' g o o3 s3 30 W.heap.size (W.heap.size + 1) (W.heap.size + 1 + 1) (cmdC c A0 cap) (cmdC Cm.zero none 0) (cmdC ⟨op, ses, seq, Cm.e0, Cm.e0, Cm.e0, Cm.e0, Cm.e0, 0, 0, 0, []⟩ none 0)) HS2.out ?_
  clear HS2 k0 z0
  intro W2 S
  clear a0
  have a0 : W2.cell? ⟨W.heap.size + 1 + 1, 0, none⟩ = some (.int .u8 (op : Int)) := S.lc.cell 0
  have HS := Lib.hid S
  clear S
  rw [← Hr1.out] at HC
  simp only at HC
  rw [← Hr2.out] at HC
  simp only at HC
  rw [← Hr3.out] at HC
  simp only at HC
  go_upto_block 0 with (fail)
  go_cut [] (fun W' => ∃ o' Au cu, WS K W W' g o o' (A.body op ses seq s3 c).2 30 W.heap.size (W.heap.size + 1) (W.heap.size + 1 + 1) (cmdC c A0 cap) (cmdC Cm.zero none 0) (cmdC (A.body op ses seq s3 c).1 Au cu) ∧ Lies W' Au (pc (A.body op ses seq s3 c).1.parts) ∧ ∀ b off, Au = some ⟨b, off, none⟩ → W.heap.size + 2 < b ∧ b ≠ g ∧ o' ≠ some b)
  case first =>
    by_cases h : op = 1
    · have Ho := Lib.hid h
      have e1 : ((op : Int) == 1) = true := by rw [beq_iff_eq]; omega
      have e2 : ((op : Int) == 2) = false := by rw [beq_eq_false_iff_ne]; omega
      have e3 : ((op : Int) == 3) = false := by rw [beq_eq_false_iff_ne]; omega
      have e4 : ((op : Int) == 4) = false := by rw [beq_eq_false_iff_ne]; omega
      have e5 : ((op : Int) == 5) = false := by rw [beq_eq_false_iff_ne]; omega
      have e6 : ((op : Int) == 6) = false := by rw [beq_eq_false_iff_ne]; omega
      have e7 : ((op : Int) == 7) = false := by rw [beq_eq_false_iff_ne]; omega
      have e8 : ((op : Int) == 8) = false := by rw [beq_eq_false_iff_ne]; omega
      have e9 : ((op : Int) == 9) = false := by rw [beq_eq_false_iff_ne]; omega
      clear h
      go_upto_region 8 with (fail)
      refine forget (fun W' => WS K W W' g o o3 s3 30 W.heap.size (W.heap.size + 1) (W.heap.size + 1 + 1) (cmdC c A0 cap) (cmdC Cm.zero none 0) (cmdC ⟨op, ses, seq, Cm.e0, Cm.e0, Cm.e0, Cm.e0, Cm.e0, 0, 0, 0, []⟩ none 0)) HS.out ?_
      clear HS a0
      intro W2 S
      have a0 : W2.cell? ⟨W.heap.size, 10, none⟩ = some (.int .u64 (c.ttl : Int)) := S.la.cell 10
      have HS := Lib.hid S
      clear S
      go_wp2_with fail
      have S := HS.out
      have hc := K.cG _ g o3 s3 c.ttl 18446744073709551615 S.at_ (by omega) hf.ttl (by unfold Nm.top; omega)
      rw [show (((18446744073709551615 : Nat) : Int)) = 18446744073709551615 from rfl] at hc
      have l4 := A.lenG s3 c.ttl 18446744073709551615 hf.ttl
      have t4 := A.ltG s3 c.ttl 18446744073709551615 hf.ttl
      obtain ⟨r, hr⟩ : ∃ r, r = A.grp s3 c.ttl 18446744073709551615 := ⟨_, rfl⟩
      rw [← hr] at hc l4 t4
      obtain ⟨x0, s4⟩ := r
      simp only at hc l4 t4
      refine hc.mono ?_
      rintro e w4 ⟨rfl, o4, hA, hK⟩
      have S' := S.call hA hK
      have k0 : w4.cell? ⟨W.heap.size + 1 + 1, 10, none⟩ = some (.int .u64 0) := S'.lc.cell 10
      have z0 := S'.lc.fz 10
      have S2 := S'.put 10 (.int .u64 (x0 : Int)) (vs := cmdC ⟨op, ses, seq, Cm.e0, Cm.e0, Cm.e0, Cm.e0, Cm.e0, 0, 0, x0, []⟩ none 0) (set_ttl _ _ _ x0)
      have HS2 := Lib.hid S2
      have Hr4 := Lib.hid hr
      clear S S' S2 hA hK HS hc hr
      go_wp2_with fail
      go_meet
      have eb : A.body op ses seq s3 c = (⟨op, ses, seq, Cm.e0, Cm.e0, Cm.e0, Cm.e0, Cm.e0, 0, 0, x0, []⟩, s4) := by
        unfold Wk.Alg.body; rw [if_pos (by have := Ho.out; omega)]; rw [← Hr4.out]
      rw [eb]
      exact ⟨o4, none, 0, HS2.out, .inl rfl, fun _ _ h => (by cases h)⟩
    by_cases h : op = 6
    · have Ho := Lib.hid h
      have e1 : ((op : Int) == 1) = false := by rw [beq_eq_false_iff_ne]; omega
      have e2 : ((op : Int) == 2) = false := by rw [beq_eq_false_iff_ne]; omega
      have e3 : ((op : Int) == 3) = false := by rw [beq_eq_false_iff_ne]; omega
      have e4 : ((op : Int) == 4) = false := by rw [beq_eq_false_iff_ne]; omega
      have e5 : ((op : Int) == 5) = false := by rw [beq_eq_false_iff_ne]; omega
      have e6 : ((op : Int) == 6) = true := by rw [beq_iff_eq]; omega
      have e7 : ((op : Int) == 7) = false := by rw [beq_eq_false_iff_ne]; omega
      have e8 : ((op : Int) == 8) = false := by rw [beq_eq_false_iff_ne]; omega
      have e9 : ((op : Int) == 9) = false := by rw [beq_eq_false_iff_ne]; omega
      clear h
      go_upto_region 8 with (fail)
      refine forget (fun W' => WS K W W' g o o3 s3 30 W.heap.size (W.heap.size + 1) (W.heap.size + 1 + 1) (cmdC c A0 cap) (cmdC Cm.zero none 0) (cmdC ⟨op, ses, seq, Cm.e0, Cm.e0, Cm.e0, Cm.e0, Cm.e0, 0, 0, 0, []⟩ none 0)) HS.out ?_
      clear HS a0
      intro W2 S
      have a0 : W2.cell? ⟨W.heap.size, 10, none⟩ = some (.int .u64 (c.ttl : Int)) := S.la.cell 10
      have HS := Lib.hid S
      clear S
      go_wp2_with fail
      have S := HS.out
      have hc := K.cG _ g o3 s3 c.ttl 18446744073709551615 S.at_ (by omega) hf.ttl (by unfold Nm.top; omega)
      rw [show (((18446744073709551615 : Nat) : Int)) = 18446744073709551615 from rfl] at hc
      have l4 := A.lenG s3 c.ttl 18446744073709551615 hf.ttl
      have t4 := A.ltG s3 c.ttl 18446744073709551615 hf.ttl
      obtain ⟨r, hr⟩ : ∃ r, r = A.grp s3 c.ttl 18446744073709551615 := ⟨_, rfl⟩
      rw [← hr] at hc l4 t4
      obtain ⟨x0, s4⟩ := r
      simp only at hc l4 t4
      refine hc.mono ?_
      rintro e w4 ⟨rfl, o4, hA, hK⟩
      have S' := S.call hA hK
      have k0 : w4.cell? ⟨W.heap.size + 1 + 1, 10, none⟩ = some (.int .u64 0) := S'.lc.cell 10
      have z0 := S'.lc.fz 10
      have S2 := S'.put 10 (.int .u64 (x0 : Int)) (vs := cmdC ⟨op, ses, seq, Cm.e0, Cm.e0, Cm.e0, Cm.e0, Cm.e0, 0, 0, x0, []⟩ none 0) (set_ttl _ _ _ x0)
      have HS2 := Lib.hid S2
      have Hr4 := Lib.hid hr
      clear S S' S2 hA hK HS hc hr
      go_wp2_with fail
      go_meet
      have eb : A.body op ses seq s3 c = (⟨op, ses, seq, Cm.e0, Cm.e0, Cm.e0, Cm.e0, Cm.e0, 0, 0, x0, []⟩, s4) := by
        unfold Wk.Alg.body; rw [if_pos (by have := Ho.out; omega)]; rw [← Hr4.out]
      rw [eb]
      exact ⟨o4, none, 0, HS2.out, .inl rfl, fun _ _ h => (by cases h)⟩
    by_cases h : op = 2
    · have Ho := Lib.hid h
      have e1 : ((op : Int) == 1) = false := by rw [beq_eq_false_iff_ne]; omega
      have e2 : ((op : Int) == 2) = true := by rw [beq_iff_eq]; omega
      have e3 : ((op : Int) == 3) = false := by rw [beq_eq_false_iff_ne]; omega
      have e4 : ((op : Int) == 4) = false := by rw [beq_eq_false_iff_ne]; omega
      have e5 : ((op : Int) == 5) = false := by rw [beq_eq_false_iff_ne]; omega
      have e6 : ((op : Int) == 6) = false := by rw [beq_eq_false_iff_ne]; omega
      have e7 : ((op : Int) == 7) = false := by rw [beq_eq_false_iff_ne]; omega
      have e8 : ((op : Int) == 8) = false := by rw [beq_eq_false_iff_ne]; omega
      have e9 : ((op : Int) == 9) = false := by rw [beq_eq_false_iff_ne]; omega
      clear h
      go_upto_region 10 with (fail)
      refine forget (fun W' => WS K W W' g o o3 s3 30 W.heap.size (W.heap.size + 1) (W.heap.size + 1 + 1) (cmdC c A0 cap) (cmdC Cm.zero none 0) (cmdC ⟨op, ses, seq, Cm.e0, Cm.e0, Cm.e0, Cm.e0, Cm.e0, 0, 0, 0, []⟩ none 0)) HS.out ?_
      clear HS a0
      intro W2 S
      have a0 : W2.cell? ⟨W.heap.size, 3, none⟩ = some (.string c.key) := S.la.cell 3
      have HS := Lib.hid S
      clear S
      go_wp2_with fail
      have S := HS.out
      have hc := K.cT _ g o3 s3 c.key S.at_ (by omega) (by have := hz.key; omega)
      have l4 := A.lenT s3 c.key (by have := hz.key; unfold Nm.top; omega)
      have q4 := hz.key
      have t4 : True := trivial
      obtain ⟨r, hr⟩ : ∃ r, r = A.txt s3 c.key := ⟨_, rfl⟩
      rw [← hr] at hc l4
      obtain ⟨x0, s4⟩ := r
      simp only at hc l4
      refine hc.mono ?_
      rintro e w4 ⟨rfl, o4, hA, hK⟩
      have S' := S.call hA hK
      have k0 : w4.cell? ⟨W.heap.size + 1 + 1, 3, none⟩ = some (.string ⟨#[]⟩) := S'.lc.cell 3
      have z0 := S'.lc.fz 3
      have S2 := S'.put 3 (.string x0) (vs := cmdC ⟨op, ses, seq, x0, Cm.e0, Cm.e0, Cm.e0, Cm.e0, 0, 0, 0, []⟩ none 0) (set_key _ _ _ x0)
      have HS2 := Lib.hid S2
      have Hr4 := Lib.hid hr
      clear S S' S2 hA hK HS hc hr
      go_upto_region 11 with (fail)
      refine forget (fun W' => WS K W W' g o o4 s4 30 W.heap.size (W.heap.size + 1) (W.heap.size + 1 + 1) (cmdC c A0 cap) (cmdC Cm.zero none 0) (cmdC ⟨op, ses, seq, x0, Cm.e0, Cm.e0, Cm.e0, Cm.e0, 0, 0, 0, []⟩ none 0)) HS2.out ?_
      clear HS2 k0 z0
      intro W2 S
      clear a0
      have a0 : W2.cell? ⟨W.heap.size, 4, none⟩ = some (.string c.val) := S.la.cell 4
      have HS := Lib.hid S
      clear S
      go_wp2_with fail
      have S := HS.out
      have hc := K.cT _ g o4 s4 c.val S.at_ (by omega) (by have := hz.val; omega)
      have l5 := A.lenT s4 c.val (by have := hz.val; unfold Nm.top; omega)
      have q5 := hz.val
      have t5 : True := trivial
      obtain ⟨r, hr⟩ : ∃ r, r = A.txt s4 c.val := ⟨_, rfl⟩
      rw [← hr] at hc l5
      obtain ⟨x1, s5⟩ := r
      simp only at hc l5
      refine hc.mono ?_
      rintro e w5 ⟨rfl, o5, hA, hK⟩
      have S' := S.call hA hK
      have k0 : w5.cell? ⟨W.heap.size + 1 + 1, 4, none⟩ = some (.string ⟨#[]⟩) := S'.lc.cell 4
      have z0 := S'.lc.fz 4
      have S2 := S'.put 4 (.string x1) (vs := cmdC ⟨op, ses, seq, x0, x1, Cm.e0, Cm.e0, Cm.e0, 0, 0, 0, []⟩ none 0) (set_val _ _ _ x1)
      have HS2 := Lib.hid S2
      have Hr5 := Lib.hid hr
      clear S S' S2 hA hK HS hc hr
      go_upto_region 12 with (fail)
      refine forget (fun W' => WS K W W' g o o5 s5 30 W.heap.size (W.heap.size + 1) (W.heap.size + 1 + 1) (cmdC c A0 cap) (cmdC Cm.zero none 0) (cmdC ⟨op, ses, seq, x0, x1, Cm.e0, Cm.e0, Cm.e0, 0, 0, 0, []⟩ none 0)) HS2.out ?_
      clear HS2 k0 z0
      intro W2 S
      clear a0
      have a0 : W2.cell? ⟨W.heap.size, 9, none⟩ = some (.int .u64 (c.lease : Int)) := S.la.cell 9
      have HS := Lib.hid S
      clear S
      go_wp2_with fail
      have S := HS.out
      have hc := K.cG _ g o5 s5 c.lease 18446744073709551615 S.at_ (by omega) hf.lease (by unfold Nm.top; omega)
      rw [show (((18446744073709551615 : Nat) : Int)) = 18446744073709551615 from rfl] at hc
      have l6 := A.lenG s5 c.lease 18446744073709551615 hf.lease
      have t6 := A.ltG s5 c.lease 18446744073709551615 hf.lease
      obtain ⟨r, hr⟩ : ∃ r, r = A.grp s5 c.lease 18446744073709551615 := ⟨_, rfl⟩
      rw [← hr] at hc l6 t6
      obtain ⟨x2, s6⟩ := r
      simp only at hc l6 t6
      refine hc.mono ?_
      rintro e w6 ⟨rfl, o6, hA, hK⟩
      have S' := S.call hA hK
      have k0 : w6.cell? ⟨W.heap.size + 1 + 1, 9, none⟩ = some (.int .u64 0) := S'.lc.cell 9
      have z0 := S'.lc.fz 9
      have S2 := S'.put 9 (.int .u64 (x2 : Int)) (vs := cmdC ⟨op, ses, seq, x0, x1, Cm.e0, Cm.e0, Cm.e0, 0, x2, 0, []⟩ none 0) (set_lease _ _ _ x2)
      have HS2 := Lib.hid S2
      have Hr6 := Lib.hid hr
      clear S S' S2 hA hK HS hc hr
      go_wp2_with fail
      go_meet
      have eb : A.body op ses seq s3 c = (⟨op, ses, seq, x0, x1, Cm.e0, Cm.e0, Cm.e0, 0, x2, 0, []⟩, s6) := by
        unfold Wk.Alg.body; rw [if_neg (by have := Ho.out; omega), if_pos (by have := Ho.out; omega)]; rw [← Hr4.out]; simp only; rw [← Hr5.out]; simp only; rw [← Hr6.out]
      rw [eb]
      exact ⟨o6, none, 0, HS2.out, .inl rfl, fun _ _ h => (by cases h)⟩
    by_cases h : op = 3
    · have Ho := Lib.hid h
      have e1 : ((op : Int) == 1) = false := by rw [beq_eq_false_iff_ne]; omega
      have e2 : ((op : Int) == 2) = false := by rw [beq_eq_false_iff_ne]; omega
      have e3 : ((op : Int) == 3) = true := by rw [beq_iff_eq]; omega
      have e4 : ((op : Int) == 4) = false := by rw [beq_eq_false_iff_ne]; omega
      have e5 : ((op : Int) == 5) = false := by rw [beq_eq_false_iff_ne]; omega
      have e6 : ((op : Int) == 6) = false := by rw [beq_eq_false_iff_ne]; omega
      have e7 : ((op : Int) == 7) = false := by rw [beq_eq_false_iff_ne]; omega
      have e8 : ((op : Int) == 8) = false := by rw [beq_eq_false_iff_ne]; omega
      have e9 : ((op : Int) == 9) = false := by rw [beq_eq_false_iff_ne]; omega
      clear h
      go_upto_region 15 with (fail)
      refine forget (fun W' => WS K W W' g o o3 s3 30 W.heap.size (W.heap.size + 1) (W.heap.size + 1 + 1) (cmdC c A0 cap) (cmdC Cm.zero none 0) (cmdC ⟨op, ses, seq, Cm.e0, Cm.e0, Cm.e0, Cm.e0, Cm.e0, 0, 0, 0, []⟩ none 0)) HS.out ?_
      clear HS a0
      intro W2 S
      have a0 : W2.cell? ⟨W.heap.size, 3, none⟩ = some (.string c.key) := S.la.cell 3
      have HS := Lib.hid S
      clear S
      go_wp2_with fail
      have S := HS.out
      have hc := K.cT _ g o3 s3 c.key S.at_ (by omega) (by have := hz.key; omega)
      have l4 := A.lenT s3 c.key (by have := hz.key; unfold Nm.top; omega)
      have q4 := hz.key
      have t4 : True := trivial
      obtain ⟨r, hr⟩ : ∃ r, r = A.txt s3 c.key := ⟨_, rfl⟩
      rw [← hr] at hc l4
      obtain ⟨x0, s4⟩ := r
      simp only at hc l4
      refine hc.mono ?_
      rintro e w4 ⟨rfl, o4, hA, hK⟩
      have S' := S.call hA hK
      have k0 : w4.cell? ⟨W.heap.size + 1 + 1, 3, none⟩ = some (.string ⟨#[]⟩) := S'.lc.cell 3
      have z0 := S'.lc.fz 3
      have S2 := S'.put 3 (.string x0) (vs := cmdC ⟨op, ses, seq, x0, Cm.e0, Cm.e0, Cm.e0, Cm.e0, 0, 0, 0, []⟩ none 0) (set_key _ _ _ x0)
      have HS2 := Lib.hid S2
      have Hr4 := Lib.hid hr
      clear S S' S2 hA hK HS hc hr
      go_wp2_with fail
      go_meet
      have eb : A.body op ses seq s3 c = (⟨op, ses, seq, x0, Cm.e0, Cm.e0, Cm.e0, Cm.e0, 0, 0, 0, []⟩, s4) := by
        unfold Wk.Alg.body; rw [if_neg (by have := Ho.out; omega), if_neg (by have := Ho.out; omega), if_pos (by have := Ho.out; omega)]; rw [← Hr4.out]
      rw [eb]
      exact ⟨o4, none, 0, HS2.out, .inl rfl, fun _ _ h => (by cases h)⟩
    by_cases h : op = 8
    · have Ho := Lib.hid h
      have e1 : ((op : Int) == 1) = false := by rw [beq_eq_false_iff_ne]; omega
      have e2 : ((op : Int) == 2) = false := by rw [beq_eq_false_iff_ne]; omega
      have e3 : ((op : Int) == 3) = false := by rw [beq_eq_false_iff_ne]; omega
      have e4 : ((op : Int) == 4) = false := by rw [beq_eq_false_iff_ne]; omega
      have e5 : ((op : Int) == 5) = false := by rw [beq_eq_false_iff_ne]; omega
      have e6 : ((op : Int) == 6) = false := by rw [beq_eq_false_iff_ne]; omega
      have e7 : ((op : Int) == 7) = false := by rw [beq_eq_false_iff_ne]; omega
      have e8 : ((op : Int) == 8) = true := by rw [beq_iff_eq]; omega
      have e9 : ((op : Int) == 9) = false := by rw [beq_eq_false_iff_ne]; omega
      clear h
      go_upto_region 15 with (fail)
      refine forget (fun W' => WS K W W' g o o3 s3 30 W.heap.size (W.heap.size + 1) (W.heap.size + 1 + 1) (cmdC c A0 cap) (cmdC Cm.zero none 0) (cmdC ⟨op, ses, seq, Cm.e0, Cm.e0, Cm.e0, Cm.e0, Cm.e0, 0, 0, 0, []⟩ none 0)) HS.out ?_
      clear HS a0
      intro W2 S
      have a0 : W2.cell? ⟨W.heap.size, 3, none⟩ = some (.string c.key) := S.la.cell 3
      have HS := Lib.hid S
      clear S
      go_wp2_with fail
      have S := HS.out
      have hc := K.cT _ g o3 s3 c.key S.at_ (by omega) (by have := hz.key; omega)
      have l4 := A.lenT s3 c.key (by have := hz.key; unfold Nm.top; omega)
      have q4 := hz.key
      have t4 : True := trivial
      obtain ⟨r, hr⟩ : ∃ r, r = A.txt s3 c.key := ⟨_, rfl⟩
      rw [← hr] at hc l4
      obtain ⟨x0, s4⟩ := r
      simp only at hc l4
      refine hc.mono ?_
      rintro e w4 ⟨rfl, o4, hA, hK⟩
      have S' := S.call hA hK
      have k0 : w4.cell? ⟨W.heap.size + 1 + 1, 3, none⟩ = some (.string ⟨#[]⟩) := S'.lc.cell 3
      have z0 := S'.lc.fz 3
      have S2 := S'.put 3 (.string x0) (vs := cmdC ⟨op, ses, seq, x0, Cm.e0, Cm.e0, Cm.e0, Cm.e0, 0, 0, 0, []⟩ none 0) (set_key _ _ _ x0)
      have HS2 := Lib.hid S2
      have Hr4 := Lib.hid hr
      clear S S' S2 hA hK HS hc hr
      go_wp2_with fail
      go_meet
      have eb : A.body op ses seq s3 c = (⟨op, ses, seq, x0, Cm.e0, Cm.e0, Cm.e0, Cm.e0, 0, 0, 0, []⟩, s4) := by
        unfold Wk.Alg.body; rw [if_neg (by have := Ho.out; omega), if_neg (by have := Ho.out; omega), if_pos (by have := Ho.out; omega)]; rw [← Hr4.out]
      rw [eb]
      exact ⟨o4, none, 0, HS2.out, .inl rfl, fun _ _ h => (by cases h)⟩
    by_cases h : op = 4
    · have Ho := Lib.hid h
      have e1 : ((op : Int) == 1) = false := by rw [beq_eq_false_iff_ne]; omega
      have e2 : ((op : Int) == 2) = false := by rw [beq_eq_false_iff_ne]; omega
      have e3 : ((op : Int) == 3) = false := by rw [beq_eq_false_iff_ne]; omega
      have e4 : ((op : Int) == 4) = true := by rw [beq_iff_eq]; omega
      have e5 : ((op : Int) == 5) = false := by rw [beq_eq_false_iff_ne]; omega
      have e6 : ((op : Int) == 6) = false := by rw [beq_eq_false_iff_ne]; omega
      have e7 : ((op : Int) == 7) = false := by rw [beq_eq_false_iff_ne]; omega
      have e8 : ((op : Int) == 8) = false := by rw [beq_eq_false_iff_ne]; omega
      have e9 : ((op : Int) == 9) = false := by rw [beq_eq_false_iff_ne]; omega
      clear h
      go_upto_region 17 with (fail)
      refine forget (fun W' => WS K W W' g o o3 s3 30 W.heap.size (W.heap.size + 1) (W.heap.size + 1 + 1) (cmdC c A0 cap) (cmdC Cm.zero none 0) (cmdC ⟨op, ses, seq, Cm.e0, Cm.e0, Cm.e0, Cm.e0, Cm.e0, 0, 0, 0, []⟩ none 0)) HS.out ?_
      clear HS a0
      intro W2 S
      have a0 : W2.cell? ⟨W.heap.size, 3, none⟩ = some (.string c.key) := S.la.cell 3
      have HS := Lib.hid S
      clear S
      go_wp2_with fail
      have S := HS.out
      have hc := K.cT _ g o3 s3 c.key S.at_ (by omega) (by have := hz.key; omega)
      have l4 := A.lenT s3 c.key (by have := hz.key; unfold Nm.top; omega)
      have q4 := hz.key
      have t4 : True := trivial
      obtain ⟨r, hr⟩ : ∃ r, r = A.txt s3 c.key := ⟨_, rfl⟩
      rw [← hr] at hc l4
      obtain ⟨x0, s4⟩ := r
      simp only at hc l4
      refine hc.mono ?_
      rintro e w4 ⟨rfl, o4, hA, hK⟩
      have S' := S.call hA hK
      have k0 : w4.cell? ⟨W.heap.size + 1 + 1, 3, none⟩ = some (.string ⟨#[]⟩) := S'.lc.cell 3
      have z0 := S'.lc.fz 3
      have S2 := S'.put 3 (.string x0) (vs := cmdC ⟨op, ses, seq, x0, Cm.e0, Cm.e0, Cm.e0, Cm.e0, 0, 0, 0, []⟩ none 0) (set_key _ _ _ x0)
      have HS2 := Lib.hid S2
      have Hr4 := Lib.hid hr
      clear S S' S2 hA hK HS hc hr
      go_upto_region 18 with (fail)
      refine forget (fun W' => WS K W W' g o o4 s4 30 W.heap.size (W.heap.size + 1) (W.heap.size + 1 + 1) (cmdC c A0 cap) (cmdC Cm.zero none 0) (cmdC ⟨op, ses, seq, x0, Cm.e0, Cm.e0, Cm.e0, Cm.e0, 0, 0, 0, []⟩ none 0)) HS2.out ?_
      clear HS2 k0 z0
      intro W2 S
      clear a0
      have a0 : W2.cell? ⟨W.heap.size, 5, none⟩ = some (.string c.exp) := S.la.cell 5
      have HS := Lib.hid S
      clear S
      go_wp2_with fail
      have S := HS.out
      have hc := K.cT _ g o4 s4 c.exp S.at_ (by omega) (by have := hz.exp; omega)
      have l5 := A.lenT s4 c.exp (by have := hz.exp; unfold Nm.top; omega)
      have q5 := hz.exp
      have t5 : True := trivial
      obtain ⟨r, hr⟩ : ∃ r, r = A.txt s4 c.exp := ⟨_, rfl⟩
      rw [← hr] at hc l5
      obtain ⟨x1, s5⟩ := r
      simp only at hc l5
      refine hc.mono ?_
      rintro e w5 ⟨rfl, o5, hA, hK⟩
      have S' := S.call hA hK
      have k0 : w5.cell? ⟨W.heap.size + 1 + 1, 5, none⟩ = some (.string ⟨#[]⟩) := S'.lc.cell 5
      have z0 := S'.lc.fz 5
      have S2 := S'.put 5 (.string x1) (vs := cmdC ⟨op, ses, seq, x0, Cm.e0, x1, Cm.e0, Cm.e0, 0, 0, 0, []⟩ none 0) (set_exp _ _ _ x1)
      have HS2 := Lib.hid S2
      have Hr5 := Lib.hid hr
      clear S S' S2 hA hK HS hc hr
      go_upto_region 19 with (fail)
      refine forget (fun W' => WS K W W' g o o5 s5 30 W.heap.size (W.heap.size + 1) (W.heap.size + 1 + 1) (cmdC c A0 cap) (cmdC Cm.zero none 0) (cmdC ⟨op, ses, seq, x0, Cm.e0, x1, Cm.e0, Cm.e0, 0, 0, 0, []⟩ none 0)) HS2.out ?_
      clear HS2 k0 z0
      intro W2 S
      clear a0
      have a0 : W2.cell? ⟨W.heap.size, 4, none⟩ = some (.string c.val) := S.la.cell 4
      have HS := Lib.hid S
      clear S
      go_wp2_with fail
      have S := HS.out
      have hc := K.cT _ g o5 s5 c.val S.at_ (by omega) (by have := hz.val; omega)
      have l6 := A.lenT s5 c.val (by have := hz.val; unfold Nm.top; omega)
      have q6 := hz.val
      have t6 : True := trivial
      obtain ⟨r, hr⟩ : ∃ r, r = A.txt s5 c.val := ⟨_, rfl⟩
      rw [← hr] at hc l6
      obtain ⟨x2, s6⟩ := r
      simp only at hc l6
      refine hc.mono ?_
      rintro e w6 ⟨rfl, o6, hA, hK⟩
      have S' := S.call hA hK
      have k0 : w6.cell? ⟨W.heap.size + 1 + 1, 4, none⟩ = some (.string ⟨#[]⟩) := S'.lc.cell 4
      have z0 := S'.lc.fz 4
      have S2 := S'.put 4 (.string x2) (vs := cmdC ⟨op, ses, seq, x0, x2, x1, Cm.e0, Cm.e0, 0, 0, 0, []⟩ none 0) (set_val _ _ _ x2)
      have HS2 := Lib.hid S2
      have Hr6 := Lib.hid hr
      clear S S' S2 hA hK HS hc hr
      go_wp2_with fail
      go_meet
      have eb : A.body op ses seq s3 c = (⟨op, ses, seq, x0, x2, x1, Cm.e0, Cm.e0, 0, 0, 0, []⟩, s6) := by
        unfold Wk.Alg.body; rw [if_neg (by have := Ho.out; omega), if_neg (by have := Ho.out; omega), if_neg (by have := Ho.out; omega), if_pos (by have := Ho.out; omega)]; rw [← Hr4.out]; simp only; rw [← Hr5.out]; simp only; rw [← Hr6.out]
      rw [eb]
      exact ⟨o6, none, 0, HS2.out, .inl rfl, fun _ _ h => (by cases h)⟩
    by_cases h : op = 5
    · have Ho := Lib.hid h
      have e1 : ((op : Int) == 1) = false := by rw [beq_eq_false_iff_ne]; omega
      have e2 : ((op : Int) == 2) = false := by rw [beq_eq_false_iff_ne]; omega
      have e3 : ((op : Int) == 3) = false := by rw [beq_eq_false_iff_ne]; omega
      have e4 : ((op : Int) == 4) = false := by rw [beq_eq_false_iff_ne]; omega
      have e5 : ((op : Int) == 5) = true := by rw [beq_iff_eq]; omega
      have e6 : ((op : Int) == 6) = false := by rw [beq_eq_false_iff_ne]; omega
      have e7 : ((op : Int) == 7) = false := by rw [beq_eq_false_iff_ne]; omega
      have e8 : ((op : Int) == 8) = false := by rw [beq_eq_false_iff_ne]; omega
      have e9 : ((op : Int) == 9) = false := by rw [beq_eq_false_iff_ne]; omega
      clear h
      go_upto_region 21 with (fail)
      refine forget (fun W' => WS K W W' g o o3 s3 30 W.heap.size (W.heap.size + 1) (W.heap.size + 1 + 1) (cmdC c A0 cap) (cmdC Cm.zero none 0) (cmdC ⟨op, ses, seq, Cm.e0, Cm.e0, Cm.e0, Cm.e0, Cm.e0, 0, 0, 0, []⟩ none 0)) HS.out ?_
      clear HS a0
      intro W2 S
      have a0 : W2.cell? ⟨W.heap.size, 11, none⟩ = some (.slice A0 c.parts.length cap) := S.la.cell 11
      have HS := Lib.hid S
      clear S
      have hx2 : Lies W2 A0 (pc c.parts) := by
        by_cases hxe : c.parts = []
        · rw [hxe]; exact .inl rfl
        rcases Hx.out with hx | ⟨b, off, rfl, hb, hcs⟩
        · exact .inl hx
        · have h3 := hxb b off rfl hxe
          have hKK := HS.out.kept
          obtain ⟨h1, _, _, h4⟩ := K.lo HS.out.at_
          have hno : o ≠ some b := fun e => HOB.out b e h3
          exact .inr ⟨b, off, rfl, Nat.lt_of_lt_of_le hb hKK.size, fun i u hu => (World.cell?_of_block (a := ⟨b, off + i, none⟩) (hKK.block b hb (by omega) hno)).trans (hcs i u hu)⟩
      have hcw := wparts_any K W2 g o3 s3 A0 cap c.parts HS.out.at_ hz.len (by omega) hx2 hxb hz.parts
      have Hcw := Lib.hid hcw
      clear hx2 hcw
      go_wp2_with fail
      refine Hcw.out.mono ?_
      rintro e w4 ⟨Au, cu, o4, rfl, hM⟩
      obtain ⟨hA, hK, hL, hsep⟩ := hM
      have S' := HS.out.call hA hK
      have hlo : W.heap.size + 1 + 1 < W2.heap.size := HS.out.lc.lt
      have k0 : w4.cell? ⟨W.heap.size + 1 + 1, 11, none⟩ = some (.slice none 0 0) := S'.lc.cell 11
      have z0 := S'.lc.fz 11
      have S2 := S'.put 11 (.slice Au (A.batch s3 c.parts).1.length cu) (vs := cmdC ⟨op, ses, seq, Cm.e0, Cm.e0, Cm.e0, Cm.e0, Cm.e0, 0, 0, 0, (A.batch s3 c.parts).1⟩ Au cu) (set_prt _ _ _ _ _ _)
      have HS2 := Lib.hid S2
      have HL := Lib.hid (And.intro hL hsep)
      clear S' S2 hA hK HS Hcw hL hsep
      go_wp2_with fail
      go_meet
      have eb : A.body op ses seq s3 c = (⟨op, ses, seq, Cm.e0, Cm.e0, Cm.e0, Cm.e0, Cm.e0, 0, 0, 0, (A.batch s3 c.parts).1⟩, (A.batch s3 c.parts).2) := by
        unfold Wk.Alg.body; rw [if_neg (by have := Ho.out; omega), if_neg (by have := Ho.out; omega), if_neg (by have := Ho.out; omega), if_neg (by have := Ho.out; omega), if_pos Ho.out]
      rw [eb]
      obtain ⟨hL, hsep⟩ := HL.out
      exact ⟨o4, Au, cu, HS2.out, hL.set (fun b off e => by have := (hsep b off e).1; omega), fun b off e => by have := hsep b off e; exact ⟨by omega, this.2⟩⟩
    by_cases h : op = 7
    · have Ho := Lib.hid h
      have e1 : ((op : Int) == 1) = false := by rw [beq_eq_false_iff_ne]; omega
      have e2 : ((op : Int) == 2) = false := by rw [beq_eq_false_iff_ne]; omega
      have e3 : ((op : Int) == 3) = false := by rw [beq_eq_false_iff_ne]; omega
      have e4 : ((op : Int) == 4) = false := by rw [beq_eq_false_iff_ne]; omega
      have e5 : ((op : Int) == 5) = false := by rw [beq_eq_false_iff_ne]; omega
      have e6 : ((op : Int) == 6) = false := by rw [beq_eq_false_iff_ne]; omega
      have e7 : ((op : Int) == 7) = true := by rw [beq_iff_eq]; omega
      have e8 : ((op : Int) == 8) = false := by rw [beq_eq_false_iff_ne]; omega
      have e9 : ((op : Int) == 9) = false := by rw [beq_eq_false_iff_ne]; omega
      clear h
      go_upto_region 23 with (fail)
      refine forget (fun W' => WS K W W' g o o3 s3 30 W.heap.size (W.heap.size + 1) (W.heap.size + 1 + 1) (cmdC c A0 cap) (cmdC Cm.zero none 0) (cmdC ⟨op, ses, seq, Cm.e0, Cm.e0, Cm.e0, Cm.e0, Cm.e0, 0, 0, 0, []⟩ none 0)) HS.out ?_
      clear HS a0
      intro W2 S
      have a0 : W2.cell? ⟨W.heap.size, 9, none⟩ = some (.int .u64 (c.lease : Int)) := S.la.cell 9
      have HS := Lib.hid S
      clear S
      go_wp2_with fail
      have S := HS.out
      have hc := K.cG _ g o3 s3 c.lease 18446744073709551615 S.at_ (by omega) hf.lease (by unfold Nm.top; omega)
      rw [show (((18446744073709551615 : Nat) : Int)) = 18446744073709551615 from rfl] at hc
      have l4 := A.lenG s3 c.lease 18446744073709551615 hf.lease
      have t4 := A.ltG s3 c.lease 18446744073709551615 hf.lease
      obtain ⟨r, hr⟩ : ∃ r, r = A.grp s3 c.lease 18446744073709551615 := ⟨_, rfl⟩
      rw [← hr] at hc l4 t4
      obtain ⟨x0, s4⟩ := r
      simp only at hc l4 t4
      refine hc.mono ?_
      rintro e w4 ⟨rfl, o4, hA, hK⟩
      have S' := S.call hA hK
      have k0 : w4.cell? ⟨W.heap.size + 1 + 1, 9, none⟩ = some (.int .u64 0) := S'.lc.cell 9
      have z0 := S'.lc.fz 9
      have S2 := S'.put 9 (.int .u64 (x0 : Int)) (vs := cmdC ⟨op, ses, seq, Cm.e0, Cm.e0, Cm.e0, Cm.e0, Cm.e0, 0, x0, 0, []⟩ none 0) (set_lease _ _ _ x0)
      have HS2 := Lib.hid S2
      have Hr4 := Lib.hid hr
      clear S S' S2 hA hK HS hc hr
      go_wp2_with fail
      go_meet
      have eb : A.body op ses seq s3 c = (⟨op, ses, seq, Cm.e0, Cm.e0, Cm.e0, Cm.e0, Cm.e0, 0, x0, 0, []⟩, s4) := by
        unfold Wk.Alg.body; rw [if_neg (by have := Ho.out; omega), if_neg (by have := Ho.out; omega), if_neg (by have := Ho.out; omega), if_neg (by have := Ho.out; omega), if_neg (by have := Ho.out; omega), if_pos (by have := Ho.out; omega)]; rw [← Hr4.out]
      rw [eb]
      exact ⟨o4, none, 0, HS2.out, .inl rfl, fun _ _ h => (by cases h)⟩
    by_cases h : op = 9
    · have Ho := Lib.hid h
      have e1 : ((op : Int) == 1) = false := by rw [beq_eq_false_iff_ne]; omega
      have e2 : ((op : Int) == 2) = false := by rw [beq_eq_false_iff_ne]; omega
      have e3 : ((op : Int) == 3) = false := by rw [beq_eq_false_iff_ne]; omega
      have e4 : ((op : Int) == 4) = false := by rw [beq_eq_false_iff_ne]; omega
      have e5 : ((op : Int) == 5) = false := by rw [beq_eq_false_iff_ne]; omega
      have e6 : ((op : Int) == 6) = false := by rw [beq_eq_false_iff_ne]; omega
      have e7 : ((op : Int) == 7) = false := by rw [beq_eq_false_iff_ne]; omega
      have e8 : ((op : Int) == 8) = false := by rw [beq_eq_false_iff_ne]; omega
      have e9 : ((op : Int) == 9) = true := by rw [beq_iff_eq]; omega
      clear h
      go_upto_region 25 with (fail)
      refine forget (fun W' => WS K W W' g o o3 s3 30 W.heap.size (W.heap.size + 1) (W.heap.size + 1 + 1) (cmdC c A0 cap) (cmdC Cm.zero none 0) (cmdC ⟨op, ses, seq, Cm.e0, Cm.e0, Cm.e0, Cm.e0, Cm.e0, 0, 0, 0, []⟩ none 0)) HS.out ?_
      clear HS a0
      intro W2 S
      have a0 : W2.cell? ⟨W.heap.size, 6, none⟩ = some (.string c.frm) := S.la.cell 6
      have HS := Lib.hid S
      clear S
      go_wp2_with fail
      have S := HS.out
      have hc := K.cT _ g o3 s3 c.frm S.at_ (by omega) (by have := hz.frm; omega)
      have l4 := A.lenT s3 c.frm (by have := hz.frm; unfold Nm.top; omega)
      have q4 := hz.frm
      have t4 : True := trivial
      obtain ⟨r, hr⟩ : ∃ r, r = A.txt s3 c.frm := ⟨_, rfl⟩
      rw [← hr] at hc l4
      obtain ⟨x0, s4⟩ := r
      simp only at hc l4
      refine hc.mono ?_
      rintro e w4 ⟨rfl, o4, hA, hK⟩
      have S' := S.call hA hK
      have k0 : w4.cell? ⟨W.heap.size + 1 + 1, 6, none⟩ = some (.string ⟨#[]⟩) := S'.lc.cell 6
      have z0 := S'.lc.fz 6
      have S2 := S'.put 6 (.string x0) (vs := cmdC ⟨op, ses, seq, Cm.e0, Cm.e0, Cm.e0, x0, Cm.e0, 0, 0, 0, []⟩ none 0) (set_frm _ _ _ x0)
      have HS2 := Lib.hid S2
      have Hr4 := Lib.hid hr
      clear S S' S2 hA hK HS hc hr
      go_upto_region 26 with (fail)
      refine forget (fun W' => WS K W W' g o o4 s4 30 W.heap.size (W.heap.size + 1) (W.heap.size + 1 + 1) (cmdC c A0 cap) (cmdC Cm.zero none 0) (cmdC ⟨op, ses, seq, Cm.e0, Cm.e0, Cm.e0, x0, Cm.e0, 0, 0, 0, []⟩ none 0)) HS2.out ?_
      clear HS2 k0 z0
      intro W2 S
      clear a0
      have a0 : W2.cell? ⟨W.heap.size, 7, none⟩ = some (.string c.tto) := S.la.cell 7
      have HS := Lib.hid S
      clear S
      go_wp2_with fail
      have S := HS.out
      have hc := K.cT _ g o4 s4 c.tto S.at_ (by omega) (by have := hz.tto; omega)
      have l5 := A.lenT s4 c.tto (by have := hz.tto; unfold Nm.top; omega)
      have q5 := hz.tto
      have t5 : True := trivial
      obtain ⟨r, hr⟩ : ∃ r, r = A.txt s4 c.tto := ⟨_, rfl⟩
      rw [← hr] at hc l5
      obtain ⟨x1, s5⟩ := r
      simp only at hc l5
      refine hc.mono ?_
      rintro e w5 ⟨rfl, o5, hA, hK⟩
      have S' := S.call hA hK
      have k0 : w5.cell? ⟨W.heap.size + 1 + 1, 7, none⟩ = some (.string ⟨#[]⟩) := S'.lc.cell 7
      have z0 := S'.lc.fz 7
      have S2 := S'.put 7 (.string x1) (vs := cmdC ⟨op, ses, seq, Cm.e0, Cm.e0, Cm.e0, x0, x1, 0, 0, 0, []⟩ none 0) (set_tto _ _ _ x1)
      have HS2 := Lib.hid S2
      have Hr5 := Lib.hid hr
      clear S S' S2 hA hK HS hc hr
      go_upto_region 27 with (fail)
      refine forget (fun W' => WS K W W' g o o5 s5 30 W.heap.size (W.heap.size + 1) (W.heap.size + 1 + 1) (cmdC c A0 cap) (cmdC Cm.zero none 0) (cmdC ⟨op, ses, seq, Cm.e0, Cm.e0, Cm.e0, x0, x1, 0, 0, 0, []⟩ none 0)) HS2.out ?_
      clear HS2 k0 z0
      intro W2 S
      clear a0
      have a0 : W2.cell? ⟨W.heap.size, 8, none⟩ = some (.int .u8 (c.lim : Int)) := S.la.cell 8
      have HS := Lib.hid S
      clear S
      go_wp2_with fail
      have S := HS.out
      have hc := K.cO _ g o5 s5 c.lim 0 255 S.at_ (by omega) hf.lim (by omega) (by omega)
      have l6 := A.lenO s5 c.lim 0 255
      have t6 := A.ltO s5 c.lim 0 255 hf.lim
      obtain ⟨r, hr⟩ : ∃ r, r = A.oct s5 c.lim 0 255 := ⟨_, rfl⟩
      rw [← hr] at hc l6 t6
      obtain ⟨x2, s6⟩ := r
      simp only at hc l6 t6
      refine hc.mono ?_
      rintro e w6 ⟨rfl, o6, hA, hK⟩
      have S' := S.call hA hK
      have k0 : w6.cell? ⟨W.heap.size + 1 + 1, 8, none⟩ = some (.int .u8 0) := S'.lc.cell 8
      have z0 := S'.lc.fz 8
      have S2 := S'.put 8 (.int .u8 (x2 : Int)) (vs := cmdC ⟨op, ses, seq, Cm.e0, Cm.e0, Cm.e0, x0, x1, x2, 0, 0, []⟩ none 0) (set_lim _ _ _ x2)
      have HS2 := Lib.hid S2
      have Hr6 := Lib.hid hr
      clear S S' S2 hA hK HS hc hr
      go_wp2_with fail
      go_meet
      have eb : A.body op ses seq s3 c = (⟨op, ses, seq, Cm.e0, Cm.e0, Cm.e0, x0, x1, x2, 0, 0, []⟩, s6) := by
        unfold Wk.Alg.body; rw [if_neg (by have := Ho.out; omega), if_neg (by have := Ho.out; omega), if_neg (by have := Ho.out; omega), if_neg (by have := Ho.out; omega), if_neg (by have := Ho.out; omega), if_neg (by have := Ho.out; omega), if_pos (by have := Ho.out; omega)]; rw [← Hr4.out]; simp only; rw [← Hr5.out]; simp only; rw [← Hr6.out]
      rw [eb]
      exact ⟨o6, none, 0, HS2.out, .inl rfl, fun _ _ h => (by cases h)⟩
    · have Ho : Hid (op = 0 ∨ 9 < op) := Lib.hid (by omega)
      have e1 : ((op : Int) == 1) = false := by rw [beq_eq_false_iff_ne]; omega
      have e2 : ((op : Int) == 2) = false := by rw [beq_eq_false_iff_ne]; omega
      have e3 : ((op : Int) == 3) = false := by rw [beq_eq_false_iff_ne]; omega
      have e4 : ((op : Int) == 4) = false := by rw [beq_eq_false_iff_ne]; omega
      have e5 : ((op : Int) == 5) = false := by rw [beq_eq_false_iff_ne]; omega
      have e6 : ((op : Int) == 6) = false := by rw [beq_eq_false_iff_ne]; omega
      have e7 : ((op : Int) == 7) = false := by rw [beq_eq_false_iff_ne]; omega
      have e8 : ((op : Int) == 8) = false := by rw [beq_eq_false_iff_ne]; omega
      have e9 : ((op : Int) == 9) = false := by rw [beq_eq_false_iff_ne]; omega
      go_wp2_with fail
      go_meet
      have eb : A.body op ses seq s3 c = (⟨op, ses, seq, Cm.e0, Cm.e0, Cm.e0, Cm.e0, Cm.e0, 0, 0, 0, []⟩, s3) := by
        unfold Wk.Alg.body; rw [if_neg (by have := Ho.out; omega), if_neg (by have := Ho.out; omega), if_neg (by have := Ho.out; omega), if_neg (by have := Ho.out; omega), if_neg (by have := Ho.out; omega), if_neg (by have := Ho.out; omega), if_neg (by have := Ho.out; omega)]
      rw [eb]
      exact ⟨o3, none, 0, HS.out, .inl rfl, fun _ _ h => (by cases h)⟩
  case rest =>
    obtain ⟨o4, Au, cu, S, hL, hsep⟩ := hcut
    rw [← HC.out] at S hL
    obtain ⟨r, hr⟩ : ∃ r, r = A.cmd s c := ⟨_, rfl⟩
    rw [← hr] at S hL
    obtain ⟨u, s4⟩ := r
    simp only at S hL
    have Hr := Lib.hid hr
    clear hr HC
    obtain ⟨z0, z1, z2, z3, z4, z5, z6, z7, z8, z9, z10, z11, zz⟩ := cmdAt S.lb.row
    obtain ⟨q0, q1, q2, q3, q4, q5, q6, q7, q8, q9, q10, q11, _⟩ := cmdAt S.lc.row
    have HS := Lib.hid S
    have HL := Lib.hid (And.intro hL hsep)
    clear S hL hsep
    go_wp2_with fail
    have S := HS.out
    have SR := (((((((((((S.res 0 (.int .u8 (u.op : Int)) rfl).res 1 (.int .u64 (u.ses : Int)) rfl).res 2 (.int .u64 (u.seq : Int)) rfl).res 3 (.string u.key) rfl).res 4 (.string u.val) rfl).res 5 (.string u.exp) rfl).res 6 (.string u.frm) rfl).res 7 (.string u.tto) rfl).res 8 (.int .u8 (u.lim : Int)) rfl).res 9 (.int .u64 (u.lease : Int)) rfl).res 10 (.int .u64 (u.ttl : Int)) rfl).res 11 (.slice Au u.parts.length cu) rfl
    refine bodyPost_ret (results_cell_row (P := Try.prog) (fn := Try.f60) rfl _ _ (W.heap.size + 1) 30 _ (0, 0) _ rfl (cmdPut (c := u) (A := Au) (cap := cu) S.lb.row) Try.underlying30 rfl sizeCmd) rfl ⟨Au, cu, o4, ?_, ?_⟩
    · rw [← Hr.out]
    · rw [← Hr.out]
      exact ⟨SR.at_, SR.kept, cmdLies (c := u) (A := Au) (cap := cu) HL.out.1 (fun b off e => by have := (HL.out.2 b off e).1; omega), fun b off e => by have := HL.out.2 b off e; exact ⟨by omega, this.2⟩⟩
end Go.Proofs.Ytlcgjlganmblpaa
