/-
  Reads: how a list turns; Ask walked.
-/
import Derived.Test.YtlnohjboldenpaaPRdSmall
set_option linter.unusedSimpArgs false
set_option linter.unusedVariables false
namespace Go.Proofs.Ytlnohjboldenpaa
open Go.RowKit Go.Sort
theorem info_partsR {P : Program} {T : TypeId} {z : Value} {s b : Nat} (h : (P.info? T).map (fun i => (i.zero, i.size, i.bytes)) = some (some z, s, b)) : ∃ i, P.info? T = some i ∧ i.zero = some z ∧ i.size = s ∧ i.bytes = b := by
  cases hi : P.info? T with
  | none => rw [hi] at h; cases h
  | some i =>
    rw [hi] at h
    simp only [Option.map_some, Option.some.injEq, Prod.mk.injEq] at h
    exact ⟨i, rfl, h.1, h.2.1, h.2.2⟩
section
variable {W w0 w8 : World} {p : Nat} {S : Nat → Prop} {r : Rd.R} {A A' B B' : Option Addr} {c c' d d' : Nat}
/-- The begun ones have turned. -/
theorem rd_setB1 (h : RdX w0 p S r A c B d) (hk : Kr (fun k => blk A = some k) w0 w8) {es : List Rd.E} {n' : Nat} (hs : Sl w8 3 A' n' c' (rdc es)) (hn' : n' = es.length) (hn : ∀ b, blk A' = some b → blk A = some b ∨ w0.heap.size ≤ b) (hf : Rd.Fits { r with b := es }) :
    (∃ v, w8.cell? ⟨p, 0, none⟩ = some v) ∧ w8.frozen? ⟨p, 0, none⟩ = false ∧ RdX (w8.setCell ⟨p, 0, none⟩ (.slice A' n' c')) p (fun k => S k ∨ blk A' = some k) { r with b := es } A' c' B d ∧ Kr S w0 (w8.setCell ⟨p, 0, none⟩ (.slice A' n' c')) := by
  subst hn'
  have hpl : p < w0.heap.size := h.lt p h.sp
  have hr8 := hk.rw h.row h.pb
  have hpA : blk A' ≠ some p := fun e => (hn p e).elim h.pb (fun h => by omega)
  refine ⟨⟨_, hr8.cell (v := .slice A r.b.length c) 0 rfl⟩, hr8.free 0, ⟨?_, ?_, ?_, hpA, h.pw, ?_, (fun k hk => .inr hk), (fun k hk => .inl (h.inw k hk)), .inl h.sp, ?_, hf⟩, ?_⟩
  · exact hr8.put 0 _
  · exact hs.keep fun b hb => heap_setCell_other w8 ⟨p, 0, none⟩ b _ (fun e => hpA (by rw [hb]; exact congrArg some e))
  · exact (hk.sl h.sw (fun k hb ha => h.ab k ha hb)).keep fun b hb => heap_setCell_other w8 ⟨p, 0, none⟩ b _ (fun e => h.pw (by rw [hb]; exact congrArg some e))
  · intro k hka hkb
    rcases hn k hka with h1 | h1
    · exact h.ab k h1 hkb
    · exact absurd (h.sw.lt hkb) (by omega)
  · intro k hk'
    rw [World.size_setCell]
    rcases hk' with hk' | hk'
    · exact Nat.lt_of_lt_of_le (h.lt k hk') hk.size
    · exact hs.lt hk'
  · exact ((Kr.refl S w0).trans hk (fun k hk => .inl (h.inb k hk))).trans (Kr.set w8 ⟨p, 0, none⟩ _ (S := fun k => k = p) rfl) (fun k hk => by rw [hk]; exact .inl h.sp)
theorem rd_setB (h : RdX w0 p S r A c B d) (hk : Kr (fun k => blk A = some k) w0 w8) {es : List Rd.E} {n' : Nat} (hs : Sl w8 3 A' n' c' (rdc es)) (hn' : n' = es.length) (hn : ∀ b, blk A' = some b → blk A = some b ∨ w0.heap.size ≤ b) (hf : Rd.Fits { r with b := es }) :
    (∃ v, w8.cell? ⟨p, 0, none⟩ = some v) ∧ w8.frozen? ⟨p, 0, none⟩ = false ∧ (∃ S', RdX (w8.setCell ⟨p, 0, none⟩ (.slice A' n' c')) p S' { r with b := es } A' c' B d ∧ ∀ k, S' k → S k ∨ w0.heap.size ≤ k) ∧ Kr S w0 (w8.setCell ⟨p, 0, none⟩ (.slice A' n' c')) := by
  obtain ⟨h1, h2, h3, h4⟩ := rd_setB1 h hk hs hn' hn hf
  exact ⟨h1, h2, ⟨_, h3, fun k hk => hk.elim .inl fun hk => (hn k hk).imp (h.inb k) id⟩, h4⟩
/-- The waiting ones have turned. -/
theorem rd_setW1 (h : RdX w0 p S r A c B d) (hk : Kr (fun k => blk B = some k) w0 w8) {ws : List Nat} {n' : Nat} (hs : Sl w8 1 B' n' d' (uc ws)) (hn' : n' = ws.length) (hn : ∀ b, blk B' = some b → blk B = some b ∨ w0.heap.size ≤ b) (hf : Rd.Fits { r with w := ws }) :
    (∃ v, w8.cell? ⟨p, 1, none⟩ = some v) ∧ w8.frozen? ⟨p, 1, none⟩ = false ∧ RdX (w8.setCell ⟨p, 1, none⟩ (.slice B' n' d')) p (fun k => S k ∨ blk B' = some k) { r with w := ws } A c B' d' ∧ Kr S w0 (w8.setCell ⟨p, 1, none⟩ (.slice B' n' d')) := by
  subst hn'
  have hpl : p < w0.heap.size := h.lt p h.sp
  have hr8 := hk.rw h.row h.pw
  have hpB : blk B' ≠ some p := fun e => (hn p e).elim h.pw (fun h => by omega)
  refine ⟨⟨_, hr8.cell (v := .slice B r.w.length d) 1 rfl⟩, hr8.free 1, ⟨?_, ?_, ?_, h.pb, hpB, ?_, (fun k hk => .inl (h.inb k hk)), (fun k hk => .inr hk), .inl h.sp, ?_, hf⟩, ?_⟩
  · exact hr8.put 1 _
  · exact (hk.sl h.sb (fun k ha hb => h.ab k ha hb)).keep fun b hb => heap_setCell_other w8 ⟨p, 1, none⟩ b _ (fun e => h.pb (by rw [hb]; exact congrArg some e))
  · exact hs.keep fun b hb => heap_setCell_other w8 ⟨p, 1, none⟩ b _ (fun e => hpB (by rw [hb]; exact congrArg some e))
  · intro k hka hkb
    rcases hn k hkb with h1 | h1
    · exact h.ab k hka h1
    · exact absurd (h.sb.lt hka) (by omega)
  · intro k hk'
    rw [World.size_setCell]
    rcases hk' with hk' | hk'
    · exact Nat.lt_of_lt_of_le (h.lt k hk') hk.size
    · exact hs.lt hk'
  · exact ((Kr.refl S w0).trans hk (fun k hk => .inl (h.inw k hk))).trans (Kr.set w8 ⟨p, 1, none⟩ _ (S := fun k => k = p) rfl) (fun k hk => by rw [hk]; exact .inl h.sp)
theorem rd_setW (h : RdX w0 p S r A c B d) (hk : Kr (fun k => blk B = some k) w0 w8) {ws : List Nat} {n' : Nat} (hs : Sl w8 1 B' n' d' (uc ws)) (hn' : n' = ws.length) (hn : ∀ b, blk B' = some b → blk B = some b ∨ w0.heap.size ≤ b) (hf : Rd.Fits { r with w := ws }) :
    (∃ v, w8.cell? ⟨p, 1, none⟩ = some v) ∧ w8.frozen? ⟨p, 1, none⟩ = false ∧ (∃ S', RdX (w8.setCell ⟨p, 1, none⟩ (.slice B' n' d')) p S' { r with w := ws } A c B' d' ∧ ∀ k, S' k → S k ∨ w0.heap.size ≤ k) ∧ Kr S w0 (w8.setCell ⟨p, 1, none⟩ (.slice B' n' d')) := by
  obtain ⟨h1, h2, h3, h4⟩ := rd_setW1 h hk hs hn' hn hf
  exact ⟨h1, h2, ⟨_, h3, fun k hk => hk.elim .inl fun hk => (hn k hk).imp (h.inw k) id⟩, h4⟩
end
theorem RNow.mk2 {w w0 W : World} {p : Nat} {S S' : Nat → Prop} {r : Rd.R} (h0 : Kr S w w0) (h1 : RdAt W p S' r) (h2 : ∀ k, S' k → S k ∨ w0.heap.size ≤ k) (h3 : Kr S w0 W) : RNow w W p S r :=
  ⟨⟨S', h1, fun k hk => (h2 k hk).imp id (Nat.le_trans h0.size)⟩, h0.trans h3 fun k hk => .inl hk⟩
theorem rask_nil (w : World) (x : Nat) : Calls Try.prog 47 #[.pointer none, .int .u64 (x : Int)] w (RetR (.bool false) w) := by
  go_enter Try.func47, Try.ntmps47
  go_wp2_with fail
  go_ret
  exact ⟨rfl, Below.refl _ _⟩
set_option maxRecDepth 100000 in
set_option maxHeartbeats 1000000 in
theorem rask_any {p : Nat} {S : Nat → Prop} {r : Rd.R} (w : World) (h : RdAt w p S r) (x : Nat) (hx : x < Nm.top) (hfew : r.b.length + r.w.length + 1 ≤ 200000) :
    Calls Try.prog 47 #[.pointer (some ⟨p, 0, none⟩), .int .u64 (x : Int)] w fun e w' => e = .returned (.bool (!Rd.has r x)) ∧ RNow w w' p S (Rd.ask r x) := by
  obtain ⟨i0, hi0, hz0, hz1, hz2⟩ := info_partsR infoU
  have HA := Lib.hid h
  have HH := Lib.hid (rhas_any w h x)
  have hff := Rd.ask_fits h.fit hx hfew
  have HQ : Hid (Rd.ask r x = if Rd.has r x = true then r else { r with w := r.w ++ [x] }) := Lib.hid rfl
  obtain ⟨A, c, B, d, h⟩ := h.own
  obtain ⟨R, hR⟩ : ∃ R, R = Rd.ask r x := ⟨_, rfl⟩
  rw [← hR] at HQ hff ⊢
  obtain ⟨H, hH⟩ : ∃ H, H = Rd.has r x := ⟨_, rfl⟩
  rw [← hH] at HH HQ ⊢
  have HX := Lib.hid h
  have HFF := Lib.hid hff
  clear h hR hH hx hff
  go_enter Try.func47, Try.ntmps47
  cases H with
  | true =>
    have E : Hid (R = r) := Lib.hid (by rw [HQ.out, if_pos rfl])
    clear HQ
    go_wp2_with (go_at_call 84; refine HH.out.mono ?_; rintro e w1 ⟨rfl, hb1⟩)
    go_ret
    exact ⟨rfl, by rw [E.out]; exact RNow.of HA.out hb1⟩
  | false =>
    have E : Hid (R = { r with w := r.w ++ [x] }) := Lib.hid (by rw [HQ.out, if_neg (by decide)])
    clear HQ HA
    go_upto_region 3 with (go_at_call 84; refine HH.out.mono ?_; rintro e w1 ⟨rfl, hb1⟩)
    have c1 := (HX.out.bel hb1).c1
    have c1b := later (bnew (Below.refl _ _) (.cells #[.int .u64 (x : Int)] 22)) c1
    have HN : Hid (Sl (w1.alloc (.cells #[.int .u64 (x : Int)] 22)) 1 B r.w.length d (uc r.w) ∧ Src Try.prog 1 81 (.slice (some ⟨w1.heap.size, 0, none⟩) 1 1) 1 [.int .u64 (x : Int)] (w1.alloc (.cells #[.int .u64 (x : Int)] 22))) := Lib.hid
      ⟨(HX.out.sw.below hb1).below (bnew (Below.refl _ _) _), src_sl Try.underlying81 rfl (Lies.new w1 [.int .u64 (x : Int)] 22) (fun h => by cases h) (fun u hu => by rw [List.mem_singleton.1 hu]; rfl)⟩
    have HS : Hid (∀ (w2 : World) (B2 : Option Addr) (d2 : Nat), Sl w2 1 B2 (r.w.length + 1) d2 (uc r.w ++ [.int .u64 (x : Int)]) → (w1.alloc (.cells #[.int .u64 (x : Int)] 22)).grownBy w2 (blk B) → (∀ b, blk B2 = some b → blk B = some b ∨ (w1.alloc (.cells #[.int .u64 (x : Int)] 22)).heap.size ≤ b) →
        (∃ v, w2.cell? ⟨p, 1, none⟩ = some v) ∧ w2.frozen? ⟨p, 1, none⟩ = false ∧ RNow w (w2.setCell ⟨p, 1, none⟩ (.slice B2 (r.w.length + 1) d2)) p S R) := Lib.hid fun w2 B2 d2 hs hg hn => by
      have hb2 := bnew hb1 (.cells #[.int .u64 (x : Int)] 22)
      obtain ⟨k1, k2, ⟨S', k3, k4⟩, k5⟩ := rd_setW (HX.out.bel hb2) (Kr.grown hg fun k hk => hk) (ws := r.w ++ [x]) (by rw [uc_app]; exact hs) (by simp) hn (by rw [← E.out]; exact HFF.out)
      exact ⟨k1, k2, RNow.mk2 (Kr.bel hb2) (by rw [E.out]; exact k3.at_) k4 k5⟩
    have hm : r.w.length ≤ 200000 := by omega
    obtain ⟨m, hmm⟩ : ∃ m, m = r.w.length := ⟨_, rfl⟩
    rw [← hmm] at HN HS c1 c1b hm
    clear hmm hb1 HX HH
    go_wp2_with (at_builtin; refine wpList_app_sl rfl (.tmp 16) (.tmp 18) 81 81 rfl 22 i0 (.int .u64 0) 1 8 Try.underlying81 hi0 hz0 hz1 hz2 rfl (by decide) rfl HN.out.1 _ 1 _ rfl HN.out.2 (by simp only [maxLen]; omega) (by omega) ?_; intro B2 d2 w2 hS2 hg2 hB2; obtain ⟨⟨v, k1⟩, k2, k3⟩ := HS.out w2 B2 d2 hS2 hg2 hB2; have HK := Lib.hid k3; clear k3 hS2 hg2 hB2)
    go_ret
    exact ⟨rfl, HK.out⟩
end Go.Proofs.Ytlnohjboldenpaa
