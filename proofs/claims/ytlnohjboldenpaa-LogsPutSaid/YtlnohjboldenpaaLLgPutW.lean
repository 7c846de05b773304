/-
  Logs: Put walked.
-/
import Derived.Test.YtlnohjboldenpaaLLgAdd
set_option linter.unusedSimpArgs false
set_option linter.unusedVariables false
namespace Go.Proofs.Ytlnohjboldenpaa
open Go.RowKit Go.Sort
/-- Entries that are handed to a log: in memory that is none of the log's. -/
structure Handed (W : World) (S : Nat → Prop) (A : Option Addr) (cp : Nat) (es : List En.E) : Prop where
  lies : Lies W A (ec es)
  nil : A = none → es.length = 0
  room : es.length ≤ cp
  away : ∀ b, blk A = some b → ¬ S b
  fits : ∀ e ∈ es, En.Fits e ∧ e.body.size ≤ 1000
  few : es.length ≤ 1000
/-- What Put hands back. -/
def RetPut (l : Lg.L) (i t : Nat) (es : List En.E) (p : Nat) (S : Nat → Prop) (w : World) (e : Ending) (w' : World) : Prop :=
  if Lg.puts l i t es = true then ∃ A c S', e = .returned (.tuple #[.bool true, .int .u64 ((i + es.length : Nat) : Int), .slice A (Lg.lacking l es).length c]) ∧ Sl w' 13 A (Lg.lacking l es).length c (ec (Lg.lacking l es)) ∧ (∀ b, blk A = some b → w.heap.size ≤ b ∧ ¬ S' b) ∧ LgAt w' p S' (Lg.put l es) ∧ (∀ k, S' k → S k ∨ w.heap.size ≤ k) ∧ Ks S w w'
  else e = .returned (.tuple #[.bool false, .int .u64 0, .slice none 0 0]) ∧ Below w.heap.size w w'
theorem fit_top {i t : Nat} {es : List En.E} (h : Lg.fit i t es = true) (hi : i < Nm.top) (hf : ∀ e ∈ es, e.idx < Nm.top) : i + es.length < Nm.top := by
  rcases List.eq_nil_or_concat es with rfl | ⟨r, e, rfl⟩
  · simpa using hi
  · simp only [List.concat_eq_append] at h hf ⊢
    have h1 := Lg.fin_idx h
    rw [Lg.fin_snoc] at h1
    have := hf e (by simp)
    simp only at h1; omega
theorem lg_put_facts {l : Lg.L} {es : List En.E} (h1 : ∀ e ∈ l.es, En.Fits e ∧ e.body.size ≤ 1000) (h2 : ∀ e ∈ es, En.Fits e ∧ e.body.size ≤ 1000) (k : Nat) (f : List En.E) (hf : ∀ e ∈ f, e ∈ es) : ∀ e ∈ l.es.take k ++ f, En.Fits e ∧ e.body.size ≤ 1000 := fun e he => by
  rcases List.mem_append.1 he with he | he
  · exact h1 e (List.mem_of_mem_take he)
  · exact h2 e (hf e he)
theorem lacking_sub (l : Lg.L) (es : List En.E) : ∀ e ∈ Lg.lacking l es, e ∈ es := fun e he => by
  obtain ⟨p, h, _⟩ := Lg.lacking_suffix l es
  rw [h]; exact List.mem_append_right _ he
theorem lacking_len (l : Lg.L) (es : List En.E) : (Lg.lacking l es).length ≤ es.length := by
  obtain ⟨p, h, _⟩ := Lg.lacking_suffix l es
  have := congrArg List.length h
  rw [List.length_append] at this; omega
theorem retPut_mk {l : Lg.L} {i t : Nat} {es f : List En.E} {p : Nat} {S S' : Nat → Prop} {w w' : World} {e : Ending} {A : Option Addr} {c : Nat} (E : Lg.puts l i t es = true) (hf : f = Lg.lacking l es) (he : e = .returned (.tuple #[.bool true, .int .u64 ((i : Int) + (es.length : Int)), .slice A f.length c])) (hs : Sl w' 13 A f.length c (ec f)) (hb : ∀ b, blk A = some b → w.heap.size ≤ b ∧ ¬ S' b) (ha : LgAt w' p S' (Lg.put l es)) (hS : ∀ k, S' k → S k ∨ w.heap.size ≤ k) (hk : Ks S w w') : RetPut l i t es p S w e w' := by
  unfold RetPut
  rw [if_pos E]
  subst hf
  exact ⟨A, c, S', by rw [he]; congr 3, hs, hb, ha, hS, hk⟩
/-- Three results. -/
theorem results_three {P : Program} {fn : Func} {a b c : Tmp} (h : fn.results = #[.tmp a, .tmp b, .tmp c]) (tmps : Array Value) (w : World) : (results fn tmps).run P w = .ok (.tuple #[tmps.getD a undef, tmps.getD b undef, tmps.getD c undef]) w := by
  simp [results, h]
set_option maxRecDepth 100000 in
set_option maxHeartbeats 2000000 in
theorem put_any {p : Nat} {S : Nat → Prop} {l : Lg.L} (w : World) (h : LgAt w p S l) (i t : Nat) (hi : i < Nm.top) (ht : t < Nm.top) (A0 : Option Addr) (cp : Nat) (es : List En.E) (hA : Handed w S A0 cp es) (hfew : l.es.length + es.length ≤ 100000) :
    Calls Try.prog 26 #[.pointer (some ⟨p, 0, none⟩), .int .u64 (i : Int), .int .u64 (t : Int), .slice A0 es.length cp] w (RetPut l i t es p S w) := by
  obtain ⟨i0, hi0, hz0, hz1, hz2⟩ := info_parts infoEntL
  have hlf : ∀ e ∈ l.es, e.idx < Nm.top := fun e he => (h.fit.es e he).1.idx
  have hef : ∀ e ∈ es, e.idx < Nm.top ∧ e.trm < Nm.top := fun e he => ⟨(hA.fits e he).1.idx, (hA.fits e he).1.trm⟩
  have hmx : es.length ≤ maxLen := by have := hA.few; simp only [maxLen]; omega
  have H := Lib.hid h
  have HA := Lib.hid hA
  have HM := Lib.hid (isMade_any w h)
  have HFi := Lib.hid (fit_any w i t A0 cp es hA.lies hmx hi ht hef)
  have HJo : Hid (∀ W', Below w.heap.size w W' → Calls Try.prog 73 #[.pointer (some ⟨p, 0, none⟩), .int .u64 (i : Int), .int .u64 (t : Int), .slice A0 es.length cp] W' (RetL (.bool (Lg.joins l i t es)) W')) := Lib.hid fun W' hb => joins_any W' (h.bel hb) hlf i t hi A0 cp es (hA.lies.below hb) hmx hef
  have HLa : Hid (∀ W', Below w.heap.size w W' → Calls Try.prog 74 #[.pointer (some ⟨p, 0, none⟩), .slice A0 es.length cp] W' (RetSub A0 (Lg.lacking l es) W')) := Lib.hid fun W' hb => by
    have hl := hA.lies.below hb
    rcases A0 with _ | ad
    · have h0 : es = [] := List.eq_nil_of_length_eq_zero (hA.nil rfl)
      subst h0
      exact lacking_nilA W' cp
    · rcases hl with h0 | ⟨b, off, he, hlt, hc⟩
      · have h0 : es = [] := by have := ecL_len es; rw [h0] at this; exact List.eq_nil_of_length_eq_zero (by simp at this; omega)
        subst h0
        exact lacking_empty W' (some ad) cp
      · rw [he]
        exact lacking_any W' (h.bel hb) hlf b off cp es (by rw [← he]; exact hA.lies.below hb) hmx hA.room hef
  have HP : Hid (Lg.puts l i t es = (Lg.fit i t es && Lg.joins l i t es)) := Lib.hid rfl
  have HTop : Hid (Lg.fit i t es = true → i + es.length < Nm.top) := Lib.hid fun hf => fit_top hf hi fun e he => (hef e he).1
  obtain ⟨ne, hne⟩ : ∃ ne, ne = es.length := ⟨_, rfl⟩
  have HNe := Lib.hid hne
  have hne1 : ne ≤ 1000 := by rw [hne]; exact hA.few
  rw [← hne] at HFi HJo HLa HTop ⊢
  obtain ⟨fi, hfi⟩ : ∃ fi, fi = Lg.fit i t es := ⟨_, rfl⟩
  rw [← hfi] at HFi HP HTop
  obtain ⟨jo, hjo⟩ : ∃ jo, jo = Lg.joins l i t es := ⟨_, rfl⟩
  rw [← hjo] at HJo HP
  unfold Nm.top at HTop
  clear h hA hef hlf hmx hfi hjo hne
  cases fi with
  | false =>
    have E : Hid (Lg.puts l i t es = false) := Lib.hid (by rw [HP.out]; rfl)
    clear HP HJo HLa HTop
    go_enter Try.func26, Try.ntmps26
    go_wp2_with (first | (go_at_call 71; refine HM.out.mono ?_; rintro r w' ⟨rfl, rfl⟩) | (go_at_call 53; refine HFi.out.mono ?_; rintro r w2 ⟨rfl, hb2⟩))
    refine bodyPost_ret (results_three (P := Try.prog) (fn := Try.f26) rfl _ _) rfl ?_
    unfold RetPut
    rw [E.out]
    exact ⟨rfl, hb2⟩
  | true =>
  cases jo with
  | false =>
    have E : Hid (Lg.puts l i t es = false) := Lib.hid (by rw [HP.out]; rfl)
    clear HP HLa HTop
    go_enter Try.func26, Try.ntmps26
    go_wp2_with (first | (go_at_call 71; refine HM.out.mono ?_; rintro r w' ⟨rfl, rfl⟩) | (go_at_call 53; refine HFi.out.mono ?_; rintro r w2 ⟨rfl, hb2⟩) | (go_at_call 73; refine (HJo.out _ hb2).mono ?_; rintro r w3 ⟨rfl, hb3⟩))
    refine bodyPost_ret (results_three (P := Try.prog) (fn := Try.f26) rfl _ _) rfl ?_
    unfold RetPut
    rw [E.out]
    exact ⟨rfl, bnext hb2 hb3⟩
  | true =>
  have E : Hid (Lg.puts l i t es = true) := Lib.hid (by rw [HP.out]; rfl)
  have htop := HTop.out rfl
  have HFs := Lib.hid (lacking_sub l es)
  have HFl := Lib.hid (lacking_len l es)
  have HPl : Hid ((Lg.put l es).es = Lg.place l (Lg.lacking l es)) := Lib.hid rfl
  have HPq : Hid (Lg.put l es = { l with es := (Lg.put l es).es }) := Lib.hid rfl
  obtain ⟨f, hf⟩ : ∃ f, f = Lg.lacking l es := ⟨_, rfl⟩
  rw [← hf] at HLa HFs HFl HPl
  have HfE := Lib.hid hf
  clear HP HTop hf
  go_enter Try.func26, Try.ntmps26
  go_upto_region 4 with (first | (go_at_call 71; refine HM.out.mono ?_; rintro r w' ⟨rfl, rfl⟩) | (go_at_call 53; refine HFi.out.mono ?_; rintro r w2 ⟨rfl, hb2⟩) | (go_at_call 73; refine (HJo.out _ hb2).mono ?_; rintro r w3 ⟨rfl, hb3⟩) | (go_at_call 74; refine (HLa.out _ (bnext hb2 hb3)).mono ?_; rintro r w4 ⟨A2, c2, rfl, hl4, hn4, ha4, hb4⟩))
  have HB4 := Lib.hid (bnext (bnext hb2 hb3) hb4)
  have HL4 := Lib.hid (And.intro hl4 (And.intro hn4 ha4))
  clear hb2 hb3 hb4 hl4 hn4 ha4 HM HFi HJo HLa
  cases f with
  | nil =>
    have HC := Lib.hid (copies_any w4 A2 c2 [] HL4.out.1 (Nat.zero_le _) (fun e he => by cases he))
    have e0 : ([] : List En.E).length = 0 := rfl
    rw [e0] at HC ⊢
    go_wp2_with (go_at_call 54; refine HC.out.mono ?_; rintro r w5 ⟨A5, c5, rfl, hs5, hn5, hb5⟩)
    refine bodyPost_ret (results_three (P := Try.prog) (fn := Try.f26) rfl _ _) rfl ?_
    refine retPut_mk E.out HfE.out (A := A5) (c := c5) (S' := S) (by rw [← HNe.out]; rfl) hs5 (fun b hb => ⟨Nat.le_trans HB4.out.size (hn5 b hb), fun hs => ?_⟩) ?_ (fun k hk => .inl hk) (Ks.bel (bnext HB4.out hb5))
    · have := H.out.lt b hs
      have := hn5 b hb
      have := HB4.out.size
      omega
    · have e1 : Lg.put l es = l := by rw [HPq.out, HPl.out]; rfl
      rw [e1]
      exact (H.out.bel HB4.out).bel hb5
  | cons e0 r =>
    obtain ⟨A, c, hr, hs, hp, hS⟩ := (H.out.bel HB4.out).own
    have hl4 := HL4.out.1
    obtain ⟨b2, off2, rfl, hE0⟩ := hl4.ent 0 (by simp)
    have hE00 : EntL w4 b2 off2 e0 := by simpa using hE0
    have he0 : e0.idx < Nm.top := (HA.out.fits e0 (HFs.out e0 (by simp))).1.idx
    have hkn : Lg.bel l e0.idx ≤ l.es.length := by unfold Lg.bel Lg.upTo; omega
    have HBl : Hid (∀ W', Below w4.heap.size w4 W' → Calls Try.prog 72 #[.pointer (some ⟨p, 0, none⟩), .int .u64 (e0.idx : Int)] W' (RetL (.int .i64 (Lg.bel l e0.idx : Nat)) W')) := Lib.hid fun W' hb => below_any W' (H.out.bel (bnext HB4.out hb)) e0.idx he0
    have hnf : l.es.length ≤ 1000000 := by omega
    have HPl2 : Hid ((Lg.put l es).es = l.es.take (Lg.bel l e0.idx) ++ (e0 :: r)) := HPl
    have hb2S : ¬ S b2 := HA.out.away b2 (HL4.out.2.2 b2 rfl)
    have HFit : Hid ((∀ e ∈ (Lg.put l es).es, En.Fits e ∧ e.body.size ≤ 1000) ∧ (Lg.put l es).es.length ≤ 100000 ∧ (Lg.bel l e0.idx) + (e0 :: r).length ≤ 200000) := Lib.hid (by
      have h1 := HFl.out
      refine ⟨by rw [HPl2.out]; exact lg_put_facts H.out.fit.es HA.out.fits _ _ HFs.out, ?_, ?_⟩
      · rw [HPl2.out, List.length_append, List.length_take]; omega
      · omega)
    obtain ⟨k, hk⟩ : ∃ k, k = Lg.bel l e0.idx := ⟨_, rfl⟩
    rw [← hk] at hkn HBl HPl2 HFit
    obtain ⟨n, hnn⟩ : ∃ n, n = l.es.length := ⟨_, rfl⟩
    have HNn := Lib.hid hnn
    rw [← hnn] at hr hs hkn hnf
    have HDl : Hid (∀ W', Below w4.heap.size w4 W' → Calls Try.prog 75 #[.slice A n c, .int .i64 (k : Int), .int .i64 (n : Int)] W' fun e w'' => e = .returned (.slice A k c) ∧ (Sl w'' 13 A k c (ec (l.es.take k)) ∧ Rw w'' p (lgC l (.slice A n c)) 109 ∧ Lies w'' (some ⟨b2, off2, none⟩) (ec (e0 :: r)) ∧ Ks S w' w'')) := Lib.hid fun W' hb => (delete_any W' A n c k l.es (hs.below hb) hkn hnf).mono fun e w' ⟨h1, h2, h3⟩ => ⟨h1, h2, (h3.block p (hr.bel hb).lt hp).trans (hr.bel hb), h3.lies (hl4.below hb) (fun j hj he => by
        have e : b2 = j := by injection hj
        exact hb2S (by rw [e]; exact hS j he)), (Ks.bel (S := S) (bnext HB4.out hb)).trans h3 (fun j hj => .inl (hS j hj))⟩
    have d4 := hr.cell (v := .slice A n c) 4 rfl
    have HD4 : Hid (∀ W', Below w4.heap.size w4 W' → W'.cell? ⟨p, 4, none⟩ = some (.slice A n c)) := Lib.hid fun W' hb => later hb d4
    have x0 := hE00.c0
    have hfl : (e0 :: r).length ≤ 1000 := by have := HFl.out; rw [← HNe.out] at this; omega
    obtain ⟨m, hm⟩ : ∃ m, m = (e0 :: r).length := ⟨_, rfl⟩
    have hm1 : 1 ≤ m := by rw [hm]; simp
    rw [← hm] at hfl ⊢
    have HMl := Lib.hid hm
    clear hk hnn hm hE0 hE00 hl4
    go_upto_region 5 with (fail)
    apply cutL
    case h =>
      intro key
      go_region_with (first
        | (go_at_call 72; refine (HBl.out _ (below_drew (Below.refl _ _))).mono ?_; rintro q w6 ⟨rfl, hb6⟩; have d46 := HD4.out w6 (bnext (below_drew (Below.refl _ _)) hb6); have HD6 := Lib.hid (HDl.out w6 (bnext (below_drew (Below.refl _ _)) hb6)); clear hb6)
        | (go_at_call 75; refine HD6.out.mono ?_; rintro q w7 ⟨rfl, h7⟩; have H7 := Lib.hid h7; clear h7))
      all_goals
        refine forgetX (fun W => Sl W 13 A k c (ec (l.es.take k)) ∧ Rw W p (lgC l (.slice A n c)) 109 ∧ Lies W (some ⟨b2, off2, none⟩) (ec (e0 :: r)) ∧ Ks S w' W) H7.out ?_
        exact key.out
    case g =>
      intro W7 H7
      have H7' := Lib.hid H7
      have hbod : ∀ e ∈ e0 :: r, e.body.size ≤ 140737488355328 := fun e he => by have := (HA.out.fits e (HFs.out e he)).2; omega
      have HC : Hid (∀ W, Lies W (some ⟨b2, off2, none⟩) (ec (e0 :: r)) → Calls Try.prog 54 #[.slice (some ⟨b2, off2, none⟩) m c2] W fun e w' => ∃ A c, e = .returned (.slice A m c) ∧ Sl w' 13 A m c (ec (e0 :: r)) ∧ (∀ b, blk A = some b → W.heap.size ≤ b) ∧ Below W.heap.size W w') := Lib.hid fun W h => by
        have h1 := copies_any W (some ⟨b2, off2, none⟩) c2 (e0 :: r) h (by rw [← HMl.out]; omega) hbod
        unfold RetE at h1
        rw [← HMl.out] at h1
        exact h1
      have HB2 := Lib.hid hb2S
      have HSS := Lib.hid (And.intro hp hS)
      clear H7 hs hr HDl HBl HD4 d4 x0 HL4 hb2S
      have HP9 : Hid (∀ w8 A8 c8, Below W7.heap.size W7 w8 → Sl w8 13 A8 m c8 (ec (e0 :: r)) → Sl w8 13 A k c (ec (l.es.take k)) ∧ Src Try.prog 13 23 (.slice A8 m c8) m (ec (e0 :: r)) w8 ∧ (∀ A9 c9 w9, Sl w9 13 A9 (k + m) c9 (ec (l.es.take k) ++ ec (e0 :: r)) → w8.grownBy w9 (blk A) → (∀ b, blk A9 = some b → blk A = some b ∨ w8.heap.size ≤ b) → (∃ v, w9.cell? ⟨p, 4, none⟩ = some v) ∧ w9.frozen? ⟨p, 4, none⟩ = false ∧
          (LNowB w' (w9.setCell ⟨p, 4, none⟩ (.slice A9 (k + m) c9)) p S (Lg.put l es) w8.heap.size ∧ Lies (w9.setCell ⟨p, 4, none⟩ (.slice A9 (k + m) c9)) (some ⟨b2, off2, none⟩) (ec (e0 :: r)) ∧ w'.heap.size ≤ w8.heap.size))) := Lib.hid fun w8 A8 c8 hb8 hs8 => by
        obtain ⟨p1, p2⟩ := put_src H7'.out.1 hb8 hs8 HMl.out
        refine ⟨p1, p2, fun A9 c9 w9 hS9 hg9 hn9 => ?_⟩
        have e1 : (Lg.put l es).es.length = k + m := by rw [HPl2.out, List.length_append, List.length_take, ← HMl.out, ← HNn.out]; omega
        have hr8 : Rw w8 p (lgC l (.slice A l.es.length c)) 109 := by rw [← HNn.out]; exact H7'.out.2.1.bel hb8
        have h9 := lg_grown (es := (Lg.put l es).es) H.out (H7'.out.2.2.2.next hb8) hr8 HSS.out.1 HSS.out.2 hg9 (by rw [e1, HPl2.out, ecL_app]; exact hS9) hn9 HFit.out.1 HFit.out.2.1
        rw [e1, ← HPq.out] at h9
        have h8 := H7'.out.2.2.1.below hb8
        have k1 : Ks S w8 w9 := ⟨hg9.os, hg9.tape, hg9.output, hg9.size, fun j hj hn => grownBy_block hg9 hj (fun e => hn (HSS.out.2 j e))⟩
        have k2 : Ks S w9 (w9.setCell ⟨p, 4, none⟩ (.slice A9 (k + m) c9)) := ⟨rfl, rfl, rfl, by simp, fun j hj hn => heap_setCell_other w9 ⟨p, 4, none⟩ j _ (fun e => hn (by rw [e]; exact H.out.sp))⟩
        exact ⟨h9.1, h9.2.1, h9.2.2, (k1.trans k2 (fun j hj => .inl hj)).lies h8 (fun j hj he => by
          have e : b2 = j := by injection hj
          exact HB2.out (by rw [e]; exact he)), Nat.le_trans H7'.out.2.2.2.size hb8.size⟩
      have HL7 := Lib.hid H7'.out.2.2.1
      clear H7'
      go_upto_region 7 with (first
        | (go_at_call 54; refine (HC.out W7 HL7.out).mono ?_; rintro q w8 ⟨A8, c8, rfl, hs8, hn8, hb8⟩; have HS8 := Lib.hid (HP9.out w8 A8 c8 hb8 hs8); clear hs8 hn8 hb8)
        | (at_builtin; refine wpList_app_sl rfl (.tmp 53) (.tmp 55) 23 23 rfl 49 i0 (.agg (entC En.zero)) 13 48 Try.underlying23 hi0 hz0 hz1 hz2 rfl (by decide) rfl HS8.out.1 _ m _ rfl HS8.out.2.1 (by simp only [maxLen]; omega) (by omega) ?_; intro A9 c9 w9 hS9 hg9 hn9; obtain ⟨⟨v9, k3⟩, k4, k5⟩ := HS8.out.2.2 A9 c9 w9 hS9 hg9 hn9; have H9 := Lib.hid k5; clear hS9 hg9 hn9 k5))
      refine forget (fun W => LNowB w' W p S (Lg.put l es) w8.heap.size ∧ Lies W (some ⟨b2, off2, none⟩) (ec (e0 :: r)) ∧ w'.heap.size ≤ w8.heap.size) H9.out ?_
      intro W10 H10
      have H10' := Lib.hid H10
      generalize w8.heap.size = B at H10'
      clear H10 k3 k4 H9 HS8
      go_wp2_with (go_at_call 54; refine (HC.out _ H10'.out.2.1).mono ?_; rintro q w11 ⟨A11, c11, rfl, hs11, hn11, hb11⟩)
      refine bodyPost_ret (results_three (P := Try.prog) (fn := Try.f26) rfl _ _) rfl ?_
      obtain ⟨S', h1, h2⟩ := H10'.out.1.at_
      refine retPut_mk E.out HfE.out (A := A11) (c := c11) (S' := S') (by rw [← HNe.out, ← HMl.out]; rfl) (by rw [← HMl.out]; exact hs11) (fun b hb => ⟨Nat.le_trans H10'.out.1.ks.size (hn11 b hb), fun hs => ?_⟩) (h1.bel hb11) (fun k hk => (h2 k hk).imp id (Nat.le_trans H10'.out.2.2)) (H10'.out.1.ks.next hb11)
      have := h1.lt b hs
      have := hn11 b hb
      omega
end Go.Proofs.Ytlnohjboldenpaa
