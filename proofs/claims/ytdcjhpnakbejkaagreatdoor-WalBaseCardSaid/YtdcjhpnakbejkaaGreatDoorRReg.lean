/-
  A region whose order is open, in a frame of any size: each operation leaves a value of which something is known, whenever what it waits for has been carried out; so at the end all of it is known, whatever the order was.
-/
import Derived.Orders
import Derived.Below
import Derived.WalkKit
set_option linter.unusedSimpArgs false
set_option linter.unusedVariables false
namespace Go.Proofs.YtdcjhpnakbejkaaGreatDoor
open Go.RowKit
namespace Reg

def dst? (l : List Oper) (i : Nat) : Option Tmp := (l[i]?).bind (·.dst)
/-- Does o wait for operation j? -/
def waits (o : Oper) (j : Nat) : Bool := o.after.any fun e => Region.binds .any e && e.on == j
theorem waits_spec {o : Oper} {j : Nat} (h : waits o j = true) : ∃ e ∈ o.after, Region.binds .any e = true ∧ e.on = j := by
  unfold waits at h
  rw [← Array.any_toList, List.any_eq_true] at h
  obtain ⟨e, he, hb⟩ := h
  simp only [Bool.and_eq_true, beq_iff_eq] at hb
  exact ⟨e, by simpa using he, hb⟩
/-- Slot s is as it was when operation k is carried out: whatever writes it waits for k, or is k. -/
def baseFrom (k s : Nat) : Nat → List Oper → Bool
  | _, [] => true
  | j, o :: r => (decide (o.dst ≠ some s) || decide (j = k) || waits o k) && baseFrom k s (j + 1) r
def baseB (l : List Oper) (k s : Nat) : Bool := baseFrom k s 0 l
def backFrom : Nat → List Oper → Bool
  | _, [] => true
  | k, o :: r => o.after.all (fun e => decide (e.on < k)) && backFrom (k + 1) r
def apartB : List (Option Tmp) → Bool
  | [] => true
  | d :: r => r.all (fun x => decide (x ≠ d)) && apartB r
/-- Each operation writes a slot of its own; each waits for earlier ones alone. -/
def okB (l : List Oper) (n : Nat) : Bool := l.all (fun (o : Oper) => match o.dst with | some d => decide (d < n) | none => false) && apartB (l.map (·.dst)) && backFrom 0 l

theorem baseFrom_spec {k s : Nat} : ∀ {l : List Oper} {j : Nat}, baseFrom k s j l = true → ∀ i o, l[i]? = some o → o.dst ≠ some s ∨ j + i = k ∨ waits o k = true
  | [], _, _, i, o, h => by simp at h
  | o :: r, j, hb, i, o', h => by
    simp only [baseFrom, Bool.and_eq_true, Bool.or_eq_true, decide_eq_true_eq] at hb
    rcases i with _ | i
    · simp at h; subst h
      rcases hb.1 with (h1 | h1) | h1
      · exact .inl h1
      · exact .inr (.inl (by omega))
      · exact .inr (.inr h1)
    · have := baseFrom_spec hb.2 i o' (by simpa using h)
      rcases this with h1 | h1 | h1
      · exact .inl h1
      · exact .inr (.inl (by omega))
      · exact .inr (.inr h1)
theorem backFrom_spec : ∀ {l : List Oper} {k : Nat}, backFrom k l = true → ∀ i o, l[i]? = some o → ∀ e ∈ o.after, e.on < k + i
  | [], _, _, i, o, h => by simp at h
  | o :: r, k, hb, i, o', h => by
    simp only [backFrom, Bool.and_eq_true, Array.all_eq_true_iff_forall_mem, decide_eq_true_eq] at hb
    rcases i with _ | i
    · simp at h; subst h; intro e he; have := hb.1 e he; omega
    · intro e he; have := backFrom_spec hb.2 i o' (by simpa using h) e he; omega
theorem apartB_spec : ∀ {ds : List (Option Tmp)}, apartB ds = true → ∀ (i j : Nat) (d : Option Tmp), ds[i]? = some d → ds[j]? = some d → i = j
  | [], _, i, _, d, h, _ => by simp at h
  | x :: r, hb, i, j, d, hi, hj => by
    simp only [apartB, Bool.and_eq_true, List.all_eq_true, decide_eq_true_eq] at hb
    rcases i with _ | i <;> rcases j with _ | j
    · rfl
    · simp at hi hj; subst hi; exact absurd rfl (hb.1 _ (List.mem_of_getElem? hj))
    · simp at hi hj; subst hj; exact absurd rfl (hb.1 _ (List.mem_of_getElem? hi))
    · have := apartB_spec hb.2 i j d (by simpa using hi) (by simpa using hj); omega

section
variable {P : Program} (l : List Oper) (Q : Exit → Act → World → Prop) (a0 : Act) (Inv : World → Prop) (R : World → World → Prop) (Good : Nat → Value → World → Prop)

/-- What is asked of one operation. -/
def StepOk (P : Program) (k : Nat) (o : Oper) : Prop :=
  ∀ (a : Act) (w : World), a.tmps.size = a0.tmps.size → a.defers = a0.defers → Inv w →
    (∀ s, baseB l k s = true → a.tmps.getD s undef = a0.tmps.getD s undef) →
    (∀ j d, waits o j = true → dst? l j = some d → Good j (a.tmps.getD d undef) w) →
    if Region.wanted o (yielded l.toArray a.tmps) then o.wp P a w (fun a' w' => ∃ v, a' = a.put o.dst v ∧ Good k v w' ∧ R w w' ∧ Inv w') Q else Good k undef w
def StepsFrom (P : Program) : Nat → List Oper → Prop
  | _, [] => True
  | k, o :: r => StepOk l Q a0 Inv R Good P k o ∧ StepsFrom P (k + 1) r

/-- The frame behind the region. -/
def overlay (vals : Nat → Value) : Nat → List Oper → Array Value → Array Value
  | _, [], t => t
  | k, o :: r, t => overlay vals (k + 1) r (match o.dst with | some d => t.setIfInBounds d (vals k) | none => t)
end

theorem stepsFrom_at {P : Program} {l : List Oper} {Q : Exit → Act → World → Prop} {a0 : Act} {Inv : World → Prop} {R : World → World → Prop} {Good : Nat → Value → World → Prop} :
    ∀ {r : List Oper} {k : Nat}, StepsFrom l Q a0 Inv R Good P k r → ∀ i o, r[i]? = some o → StepOk l Q a0 Inv R Good P (k + i) o
  | [], _, _, i, o, h => by simp at h
  | o :: r, k, hs, i, o', h => by
    rcases i with _ | i
    · simp at h; subst h; exact hs.1
    · have := stepsFrom_at hs.2 i o' (by simpa using h)
      rwa [show k + 1 + i = k + (i + 1) by omega] at this

theorem overlay_size (vals : Nat → Value) : ∀ (l : List Oper) (k : Nat) (t : Array Value), (overlay vals k l t).size = t.size
  | [], _, _ => rfl
  | o :: r, k, t => by
    rw [overlay, overlay_size vals r]
    split <;> simp
theorem overlay_other (vals : Nat → Value) (s : Nat) : ∀ (l : List Oper) (k : Nat) (t : Array Value), (∀ o ∈ l, o.dst ≠ some s) → (overlay vals k l t)[s]? = t[s]?
  | [], _, _, _ => rfl
  | o :: r, k, t, h => by
    rw [overlay, overlay_other vals s r _ _ (fun x hx => h x (by simp [hx]))]
    have := h o (by simp)
    split
    · rename_i d hd
      rw [Array.getElem?_setIfInBounds_ne (by intro e; subst e; exact this hd)]
    · rfl
theorem overlay_at (vals : Nat → Value) (s : Nat) : ∀ (l : List Oper) (k : Nat) (t : Array Value) (i : Nat) (o : Oper), apartB (l.map (·.dst)) = true → l[i]? = some o → o.dst = some s → s < t.size → (overlay vals k l t)[s]? = some (vals (k + i))
  | [], _, _, i, o, _, h, _, _ => by simp at h
  | x :: r, k, t, i, o, hap, h, hd, hs => by
    simp only [List.map_cons, apartB, Bool.and_eq_true, List.all_eq_true, decide_eq_true_eq] at hap
    rcases i with _ | i
    · simp at h; subst h
      rw [overlay, hd, overlay_other vals s r]
      · simp [hs]
      · intro y hy e
        exact hap.1 (some s) (by rw [← e]; exact List.mem_map_of_mem hy) hd.symm
    · rw [overlay, overlay_at vals s r _ _ i o hap.2 (by simpa using h) hd (by split <;> simpa using hs)]
      congr 2; omega

theorem getD_put_same (a : Act) (d : Tmp) (v : Value) (h : d < a.tmps.size) : (a.put (some d) v).tmps.getD d undef = v := by
  simp [Act.put, h]
theorem getD_put_other (a : Act) (d s : Tmp) (v : Value) (h : s ≠ d) : (a.put (some d) v).tmps.getD s undef = a.tmps.getD s undef := by
  simp only [Act.put, Array.getD_eq_getD_getElem?]
  rw [Array.getElem?_setIfInBounds_ne (fun e => h e.symm)]

/-- What holds of a state on the way. -/
structure On (l : List Oper) (a0 : Act) (Inv : World → Prop) (Good : Nat → Value → World → Prop) (listed : Array Bool) (a : Act) (w : World) : Prop where
  ls : listed.size = l.length
  sz : a.tmps.size = a0.tmps.size
  df : a.defers = a0.defers
  inv : Inv w
  base : ∀ s, (∀ i, dst? l i = some s → listed.getD i false = false) → a.tmps.getD s undef = a0.tmps.getD s undef
  good : ∀ i d, listed.getD i false = true → dst? l i = some d → Good i (a.tmps.getD d undef) w
  shut : ∀ i o j, listed.getD i false = true → l[i]? = some o → waits o j = true → listed.getD j false = true

def unl (listed : Array Bool) : Nat := (List.range listed.size).countP fun i => !listed.getD i false

theorem getD_set (listed : Array Bool) (i j : Nat) (hi : i < listed.size) (b : Bool) : (listed.setIfInBounds i true).getD j b = if j = i then true else listed.getD j b := by
  by_cases h : j = i
  · subst h; simp [hi]
  · simp only [Array.getD_eq_getD_getElem?, if_neg h]
    rw [Array.getElem?_setIfInBounds_ne (fun e => h e.symm)]

theorem countP_lt {p q : Nat → Bool} : ∀ (l : List Nat) (i : Nat), i ∈ l → p i = true → q i = false → (∀ j, q j = true → p j = true) → l.countP q < l.countP p
  | [], i, h, _, _, _ => by cases h
  | x :: r, i, h, hp, hq, hle => by
    have hmono : r.countP q ≤ r.countP p := List.countP_mono_left (fun j _ hj => hle j hj)
    by_cases hx : x = i
    · subst hx
      rw [List.countP_cons_of_neg (by simp [hq]), List.countP_cons_of_pos hp]; omega
    · have hi : i ∈ r := by
        rcases List.mem_cons.1 h with h | h
        · exact absurd h.symm hx
        · exact h
      have := countP_lt r i hi hp hq hle
      simp only [List.countP_cons]
      by_cases hqx : q x = true
      · rw [if_pos hqx, if_pos (hle x hqx)]; omega
      · rw [if_neg hqx]; omega

theorem unl_set (listed : Array Bool) (i : Nat) (hi : i < listed.size) (hn : listed.getD i false = false) : unl (listed.setIfInBounds i true) < unl listed := by
  unfold unl
  rw [Array.size_setIfInBounds]
  refine countP_lt _ i (by simpa using hi) (by simp [hn]) (by rw [getD_set _ _ _ hi]; simp) (fun j hj => ?_)
  rw [getD_set _ _ _ hi] at hj
  by_cases h : j = i
  · subst h; simp at hj
  · rw [if_neg h] at hj; exact hj

theorem ready_spec {l : List Oper} {listed : Array Bool} {i : Nat} (h : i ∈ Region.ready .any l.toArray listed) (hls : listed.size = l.length) :
    ∃ o, l[i]? = some o ∧ listed.getD i false = false ∧ ∀ j, waits o j = true → listed.getD j false = true := by
  simp only [Region.ready, List.mem_filter, List.mem_range, List.size_toArray, Bool.and_eq_true, Bool.not_eq_true', List.getElem?_toArray] at h
  obtain ⟨hi, hn, ha⟩ := h
  obtain ⟨o, ho⟩ : ∃ o, l[i]? = some o := ⟨_, List.getElem?_eq_getElem hi⟩
  refine ⟨o, ho, ?_, ?_⟩
  · have : i < listed.size := by omega
    simp only [Array.getD_eq_getD_getElem?, Array.getElem?_eq_getElem this, Option.getD_some] at hn ⊢
    exact hn
  · intro j hj
    rw [ho] at ha
    simp only [Option.map_some, Option.getD_some, Array.all_eq_true_iff_forall_mem, Bool.or_eq_true, Bool.not_eq_true'] at ha
    obtain ⟨e, he, hb⟩ := waits_spec hj
    rcases ha e he with h1 | h1
    · rw [hb.1] at h1; cases h1
    · rw [← hb.2]; exact h1

theorem all_of_ready {l : List Oper} {listed : Array Bool} (hls : listed.size = l.length) (hb : backFrom 0 l = true) (h : Region.ready .any l.toArray listed = []) : ∀ i, i < l.length → listed.getD i false = true := by
  intro i
  induction i using Nat.strongRecOn with
  | _ i ih =>
    intro hi
    obtain ⟨o, ho⟩ : ∃ o, l[i]? = some o := ⟨_, List.getElem?_eq_getElem hi⟩
    rcases hc : listed.getD i false with _ | _
    · exfalso
      have : i ∈ Region.ready .any l.toArray listed := by
        simp only [Region.ready, List.mem_filter, List.mem_range, List.size_toArray, Bool.and_eq_true, Bool.not_eq_true', List.getElem?_toArray]
        refine ⟨hi, ?_, ?_⟩
        · have hlt : i < listed.size := by omega
          simp only [Array.getD_eq_getD_getElem?, Array.getElem?_eq_getElem hlt, Option.getD_some] at hc ⊢
          exact hc
        · rw [ho]
          simp only [Option.map_some, Option.getD_some, Array.all_eq_true_iff_forall_mem, Bool.or_eq_true, Bool.not_eq_true']
          intro e he
          have := backFrom_spec hb i o ho e he
          exact .inr (ih e.on (by omega) (by omega))
      rw [h] at this; cases this
    · rfl

theorem any_of_on {P : Program} {l : List Oper} {Q : Exit → Act → World → Prop} {a0 : Act} {Inv : World → Prop} {R : World → World → Prop} {Good : Nat → Value → World → Prop}
    (hB : okB l a0.tmps.size = true) (hmono : ∀ i v w w', Good i v w → R w w' → Good i v w') (hstep : StepsFrom l Q a0 Inv R Good P 0 l)
    (hend : ∀ a w, On l a0 Inv Good (Array.replicate l.length true) a w → Q .normal a w) :
    ∀ (fuel : Nat) (listed : Array Bool) (a : Act) (w : World), On l a0 Inv Good listed a w → unl listed ≤ fuel → wpAny P .any l.toArray Q fuel listed a w := by
  simp only [okB, Bool.and_eq_true] at hB
  obtain ⟨⟨hd, hap⟩, hbk⟩ := hB
  have hdst : ∀ (i : Nat) (o : Oper), l[i]? = some o → ∃ d, o.dst = some d ∧ d < a0.tmps.size := by
    intro i o ho
    have := (List.all_eq_true.1 hd) o (List.mem_of_getElem? ho)
    split at this
    · rename_i d hd'; exact ⟨d, hd', by simpa using this⟩
    · cases this
  have hfin : ∀ listed a w, On l a0 Inv Good listed a w → (∀ i, i < l.length → listed.getD i false = true) → Q .normal a w := by
    intro listed a w hJ hall
    refine hend a w ⟨by simp, hJ.sz, hJ.df, hJ.inv, fun s hs => hJ.base s (fun i hi => ?_), fun i d hi hdi => hJ.good i d ?_ hdi, fun i o j _ ho hw => ?_⟩
    · have hlt : i < l.length := by
        rcases Nat.lt_or_ge i l.length with h | h
        · exact h
        · simp [dst?, List.getElem?_eq_none h] at hi
      have := hs i hi
      simp [hlt] at this
    · have hlt : i < l.length := by
        rcases Nat.lt_or_ge i l.length with h | h
        · exact h
        · simp [dst?, List.getElem?_eq_none h] at hdi
      exact hall i hlt
    · obtain ⟨e, he, hb⟩ := waits_spec hw
      have h1 := backFrom_spec hbk i o ho e he
      have h2 := (List.getElem?_eq_some_iff.1 ho).1
      have : j < l.length := by omega
      simp [this]
  intro fuel
  induction fuel with
  | zero =>
    intro listed a w hJ hu
    have hall : ∀ i, i < l.length → listed.getD i false = true := by
      intro i hi
      rcases hc : listed.getD i false with _ | _
      · exfalso
        have := unl_set listed i (by rw [hJ.ls]; exact hi) hc
        omega
      · rfl
    refine ⟨?_, hfin listed a w hJ hall⟩
    rcases hr : Region.ready .any l.toArray listed with _ | ⟨i, r⟩
    · rfl
    · exfalso
      obtain ⟨o, ho, hn, _⟩ := ready_spec (i := i) (by rw [hr]; simp) hJ.ls
      have := hall i (List.getElem?_eq_some_iff.1 ho).1
      rw [hn] at this; cases this
  | succ fuel ih =>
    intro listed a w hJ hu
    refine ⟨fun hr => hfin listed a w hJ (all_of_ready hJ.ls hbk hr), fun i hi => ?_⟩
    obtain ⟨o, ho, hn, hw⟩ := ready_spec hi hJ.ls
    have hil : i < l.length := (List.getElem?_eq_some_iff.1 ho).1
    have hils : i < listed.size := by rw [hJ.ls]; exact hil
    obtain ⟨d, hdo, hdn⟩ := hdst i o ho
    have hdi : dst? l i = some d := by simp [dst?, ho, hdo]
    have hap' : ∀ j, dst? l j = some d → j = i := by
      intro j hj
      rcases hlj : l[j]? with _ | oj
      · simp [dst?, hlj] at hj
      · refine apartB_spec hap j i (some d) ?_ ?_
        · simp [dst?, hlj] at hj; simp [hlj, hj]
        · simp [ho, hdo]
    have hs := stepsFrom_at hstep i o ho
    rw [Nat.zero_add] at hs
    have hs := hs a w hJ.sz hJ.df hJ.inv (fun s hb => hJ.base s (fun j hj => ?_)) (fun j dj hwj hdj => hJ.good j dj (hw j hwj) hdj)
    · have hnext : ∀ v w', Good i v w' → (∀ j v, Good j v w → Good j v w') → Inv w' → On l a0 Inv Good (listed.setIfInBounds i true) (a.put o.dst v) w' := by
        intro v w' hg hR hI
        rw [hdo]
        refine ⟨by simp [hJ.ls], by simp [Act.put, hJ.sz], by simp [Act.put, hJ.df], hI, fun s hs' => ?_, fun j dj hj hdj => ?_, fun j oj m hj hoj hm => ?_⟩
        · have hne : s ≠ d := by
            rintro rfl
            have := hs' i hdi
            rw [getD_set _ _ _ hils] at this; simp at this
          rw [getD_put_other _ _ _ _ hne]
          refine hJ.base s (fun j hj => ?_)
          have := hs' j hj
          rw [getD_set _ _ _ hils] at this
          by_cases e : j = i
          · subst e; simp at this
          · rwa [if_neg e] at this
        · by_cases e : j = i
          · subst e
            rw [hdi] at hdj; injection hdj with hdj; subst hdj
            rw [getD_put_same _ _ _ (by rw [hJ.sz]; exact hdn)]
            exact hg
          · rw [getD_set _ _ _ hils, if_neg e] at hj
            have hne : dj ≠ d := by rintro rfl; exact e (hap' j hdj)
            rw [getD_put_other _ _ _ _ hne]
            exact hR _ _ (hJ.good j dj hj hdj)
        · by_cases e : j = i
          · subst e
            rw [ho] at hoj; injection hoj with hoj; subst hoj
            rw [getD_set _ _ _ hils]
            split
            · rfl
            · exact hw m hm
          · rw [getD_set _ _ _ hils, if_neg e] at hj
            rw [getD_set _ _ _ hils]
            split
            · rfl
            · exact hJ.shut j oj m hj hoj hm
      have hul := unl_set listed i hils hn
      unfold wpOp
      rw [List.getElem?_toArray, ho]
      simp only []
      by_cases hwt : Region.wanted o (yielded l.toArray a.tmps) = true
      · rw [if_pos hwt] at hs ⊢
        refine .inl (Oper.wp_mono ?_ hs)
        rintro a' w' ⟨v, rfl, hg, hR, hI⟩
        exact ih _ _ _ (hnext v w' hg (fun j v h => hmono j v w w' h hR) hI) (by omega)
      · rw [if_neg hwt] at hs ⊢
        exact ih _ _ _ (hnext undef w hs (fun _ _ h => h) hJ.inv) (by omega)
    · rcases hlj : l[j]? with _ | oj
      · simp [dst?, hlj] at hj
      · rcases baseFrom_spec hb j oj hlj with h1 | h1 | h1
        · exact absurd (by simpa [dst?, hlj] using hj) h1
        · have : j = i := by omega
          subst this; exact hn
        · rcases hc : listed.getD j false with _ | _
          · rfl
          · have := hJ.shut j oj i hc hlj h1
            rw [hn] at this; cases this
/-- THE REGION: what stands behind it is asked of the frame in which each operation has laid its value. -/
theorem wp_region_inv {P : Program} {id : Nat} {l : List Oper} {Q : Exit → Act → World → Prop} {a0 : Act} {w0 : World} (Inv : World → Prop) (R : World → World → Prop) (Good : Nat → Value → World → Prop)
    (hm : P.follows .mixedOrders = true) (hB : okB l a0.tmps.size = true) (hmono : ∀ i v w w', Good i v w → R w w' → Good i v w') (hI : Inv { w0 with drawn := w0.drawn + 1 })
    (hstep : okB l a0.tmps.size = true → StepsFrom l Q a0 Inv R Good P 0 l)
    (hend : ∀ (vals : Nat → Value) (w : World), Inv w → (∀ i, i < l.length → Good i (vals i) w) → Q .normal ⟨overlay vals 0 l a0.tmps, a0.defers⟩ w) : (Code.region id l.toArray true).wp P Q a0 w0 := by
  have hB' := hB
  simp only [okB, Bool.and_eq_true] at hB'
  obtain ⟨⟨hd, hap⟩, _⟩ := hB'
  have hdst : ∀ (i : Nat) (o : Oper), l[i]? = some o → ∃ d, o.dst = some d ∧ d < a0.tmps.size := by
    intro i o ho
    have := (List.all_eq_true.1 hd) o (List.mem_of_getElem? ho)
    split at this
    · rename_i d hd'; exact ⟨d, hd', by simpa using this⟩
    · cases this
  refine wp_region_any hm (any_of_on hB hmono (hstep hB) ?_ _ _ _ _ ⟨by simp, rfl, rfl, hI, fun _ _ => rfl, fun i d h _ => ?_, fun i _ _ h _ _ => ?_⟩ ?_)
  · intro a w hJ
    have ha : a = ⟨overlay (fun i => a.tmps.getD ((dst? l i).getD 0) undef) 0 l a0.tmps, a0.defers⟩ := by
      obtain ⟨tm, df⟩ := a
      have h1 : tm.size = a0.tmps.size := hJ.sz
      have h2 : df = a0.defers := hJ.df
      subst h2
      congr 1
      apply Array.ext_getElem?
      intro s
      by_cases hs : s < a0.tmps.size
      · by_cases hw : ∃ i, dst? l i = some s
        · obtain ⟨i, hi⟩ := hw
          rcases hlo : l[i]? with _ | o
          · simp [dst?, hlo] at hi
          · have hdo : o.dst = some s := by simpa [dst?, hlo] using hi
            rw [overlay_at _ s l 0 a0.tmps i o hap hlo hdo hs]
            simp [hi, h1, hs]
        · have hb := hJ.base s (fun i hi => absurd ⟨i, hi⟩ hw)
          rw [overlay_other]
          · simp only [Array.getD_eq_getD_getElem?] at hb
            rw [Array.getElem?_eq_getElem (by omega), Array.getElem?_eq_getElem hs] at hb ⊢
            simpa using hb
          · intro o ho e
            obtain ⟨i, hi⟩ := List.getElem?_of_mem ho
            exact hw ⟨i, by simp [dst?, hi, e]⟩
      · rw [Array.getElem?_eq_none (by omega), Array.getElem?_eq_none (by rw [overlay_size]; omega)]
    rw [ha]
    refine hend _ w hJ.inv (fun i hi => ?_)
    obtain ⟨o, ho⟩ : ∃ o, l[i]? = some o := ⟨_, List.getElem?_eq_getElem hi⟩
    obtain ⟨d, hdo, _⟩ := hdst i o ho
    have hdi : dst? l i = some d := by simp [dst?, ho, hdo]
    have := hJ.good i d (by simp [hi]) hdi
    rw [hdi]
    exact this
  · rw [Array.getD_eq_getD_getElem?, Array.getElem?_replicate] at h
    split at h <;> simp at h
  · rw [Array.getD_eq_getD_getElem?, Array.getElem?_replicate] at h
    split at h <;> simp at h
  · unfold unl
    rw [Array.size_replicate]
    have := List.countP_le_length (p := fun i => !(Array.replicate l.toArray.size false).getD i false) (l := List.range l.toArray.size)
    simpa using this

theorem fin_of {Q : Exit → Act → World → Prop} {x y : Array Value} {d : List Deferred} {w : World} (e : x = y) (h : Q .normal ⟨y, d⟩ w) : Q .normal ⟨x, d⟩ w := by subst e; exact h

/-- Values that are known, or of which one thing is known. -/
def Known (vs : List (Option Value)) (Sp : Value → World → Prop) (i : Nat) (v : Value) (w : World) : Prop := match vs[i]? with
  | some (some u) => v = u
  | _ => Sp v w
theorem known_mono {vs : List (Option Value)} {Sp : Value → World → Prop} {R : World → World → Prop} (h : ∀ v w w', Sp v w → R w w' → Sp v w') : ∀ i v w w', Known vs Sp i v w → R w w' → Known vs Sp i v w' := by
  intro i v w w' hk hr
  unfold Known at *
  split
  · rename_i u hu; rw [hu] at hk; exact hk
  · rename_i hu
    split at hk
    · rename_i u hu'; exact absurd hu' (hu u)
    · exact h v w w' hk hr

/-- The same, the one thing being each operation's own. -/
def KnownI (vs : List (Option Value)) (Sp : Nat → Value → World → Prop) (i : Nat) (v : Value) (w : World) : Prop := match vs[i]? with
  | some (some u) => v = u
  | _ => Sp i v w
theorem knownI_mono {vs : List (Option Value)} {Sp : Nat → Value → World → Prop} {R : World → World → Prop} (h : ∀ i v w w', Sp i v w → R w w' → Sp i v w') : ∀ i v w w', KnownI vs Sp i v w → R w w' → KnownI vs Sp i v w' := by
  intro i v w w' hk hr
  unfold KnownI at *
  split
  · rename_i u hu; rw [hu] at hk; exact hk
  · rename_i hu
    split at hk
    · rename_i u hu'; exact absurd hu' (hu u)
    · exact h i v w w' hk hr

section
variable {P : Program} {l : List Oper} {Q : Exit → Act → World → Prop} {a0 : Act} {Inv : World → Prop} {R : World → World → Prop} {Good : Nat → Value → World → Prop} {k : Nat} {o : Oper}

/-- The guard lets it run. -/
def Runs (l : List Oper) (Good : Nat → Value → World → Prop) (o : Oper) : Prop := match o.guard with
  | none => True
  | some (j, b) => waits o j = true ∧ ∃ d, dst? l j = some d ∧ ∀ v w, Good j v w → v = .bool b
/-- The guard passes it over. -/
def Skips (l : List Oper) (Good : Nat → Value → World → Prop) (o : Oper) : Prop := match o.guard with
  | none => False
  | some (j, b) => waits o j = true ∧ ∃ d, dst? l j = some d ∧ ∀ v w, Good j v w → v ≠ .bool b

theorem yielded_at {a : Act} {j d : Nat} (hd : dst? l j = some d) (hs : d < a.tmps.size) : yielded l.toArray a.tmps j = match a.tmps.getD d undef with | .bool b => some b | _ => none := by
  have e : ((l.toArray[j]?).bind (·.dst)) = some d := by rw [List.getElem?_toArray]; exact hd
  unfold yielded
  rw [e]
  simp only [Option.bind_some, Array.getElem?_eq_getElem hs, Array.getD_eq_getD_getElem?, Option.getD_some]
  cases a.tmps[d] <;> rfl

theorem step_run (hB : okB l a0.tmps.size = true) (hr : Runs l Good o)
    (h : ∀ (a : Act) (w : World), Inv w → (∀ s, baseB l k s = true → a.tmps.getD s undef = a0.tmps.getD s undef) → (∀ j d, waits o j = true → dst? l j = some d → Good j (a.tmps.getD d undef) w) →
      o.wp P a w (fun a' w' => ∃ v, a' = a.put o.dst v ∧ Good k v w' ∧ R w w' ∧ Inv w') Q) : StepOk l Q a0 Inv R Good P k o := by
  intro a w hsz _ hI hb hd
  have hw : Region.wanted o (yielded l.toArray a.tmps) = true := by
    unfold Region.wanted
    unfold Runs at hr
    split
    · rfl
    · rename_i j b hg
      rw [hg] at hr
      obtain ⟨h1, d, h2, h3⟩ := hr
      have hlt : d < a.tmps.size := by
        simp only [okB, Bool.and_eq_true] at hB
        rcases hlj : l[j]? with _ | oj
        · simp [dst?, hlj] at h2
        · have := (List.all_eq_true.1 hB.1.1) oj (List.mem_of_getElem? hlj)
          have e : oj.dst = some d := by simpa [dst?, hlj] using h2
          rw [e] at this
          rw [hsz]; simpa using this
      rw [yielded_at h2 hlt, h3 _ _ (hd j d h1 h2)]
      simp
  rw [if_pos hw]
  exact h a w hI hb hd
theorem step_skip (hB : okB l a0.tmps.size = true) (hr : Skips l Good o) (hg : ∀ w, Inv w → Good k undef w) : StepOk l Q a0 Inv R Good P k o := by
  intro a w hsz _ hI hb hd
  have hw : Region.wanted o (yielded l.toArray a.tmps) = false := by
    unfold Region.wanted
    unfold Skips at hr
    split
    · rename_i hgd; rw [hgd] at hr; exact hr.elim
    · rename_i j b hgd
      rw [hgd] at hr
      obtain ⟨h1, d, h2, h3⟩ := hr
      have hlt : d < a.tmps.size := by
        simp only [okB, Bool.and_eq_true] at hB
        rcases hlj : l[j]? with _ | oj
        · simp [dst?, hlj] at h2
        · have := (List.all_eq_true.1 hB.1.1) oj (List.mem_of_getElem? hlj)
          have e : oj.dst = some d := by simpa [dst?, hlj] using h2
          rw [e] at this
          rw [hsz]; simpa using this
      have hne := h3 _ _ (hd j d h1 h2)
      rw [yielded_at h2 hlt]
      split
      · rename_i b' hv
        simp only [beq_eq_false_iff_ne, ne_eq, Option.some.injEq]
        rintro rfl
        exact hne hv
      · rfl
  rw [if_neg (by rw [hw]; exact Bool.false_ne_true)]
  exact hg w hI

theorem eval_const (a : Act) (v : Value) : a.eval (.const v) = v := rfl
theorem eval_func (a : Act) (f : FuncId) : a.eval (.func f) = .func (.func f) #[] #[] := rfl
theorem runs_none (h : o.guard = none) : Runs l Good o := by unfold Runs; rw [h]; trivial
theorem runs_some {j d : Nat} {b : Bool} (h : o.guard = some (j, b)) (h1 : waits o j = true) (h2 : dst? l j = some d) (h3 : ∀ v w, Good j v w → v = .bool b) : Runs l Good o := by
  unfold Runs; rw [h]; exact ⟨h1, d, h2, h3⟩
theorem skips_some {j d : Nat} {b : Bool} (h : o.guard = some (j, b)) (h1 : waits o j = true) (h2 : dst? l j = some d) (h3 : ∀ v w, Good j v w → v ≠ .bool b) : Skips l Good o := by
  unfold Skips; rw [h]; exact ⟨h1, d, h2, h3⟩
theorem run_move {a : Act} {w : World} {s : Nat} {v : Value} (h : o.op = .move (.tmp s)) (e : a.tmps.getD s undef = v) : (execOp a.eval o).run P w = .ok (.value v) w := by
  subst e; unfold execOp; rw [h]; rfl
theorem run_assign {a : Act} {w : World} {s : Nat} {v : Value} (h : o.op = .assign (.tmp s)) (e : a.tmps.getD s undef = v) : (execOp a.eval o).run P w = .ok (.value v) w := by
  subst e; unfold execOp; rw [h]; rfl

/-- An operation that yields a value in another world. -/
theorem run_made {a : Act} {w w' : World} {v : Value} (hrun : (execOp a.eval o).run P w = .ok (.value v) w') (hg : Good k v w') (hR : R w w') (hI : Inv w') :
    o.wp P a w (fun a' w' => ∃ v, a' = a.put o.dst v ∧ Good k v w' ∧ R w w' ∧ Inv w') Q := by
  unfold Oper.wp
  rw [hrun]
  exact ⟨v, rfl, hg, hR, hI⟩
/-- A call, by its contract. -/
theorem run_call {a : Act} {w : World} {v : Value} {f : FuncId} {args : Array Value} (hrun : (execOp a.eval o).run P w = .ok (.enter f args) w)
    (hc : Calls P f args w fun e w' => e = .returned v ∧ R w w') (hg : ∀ w', R w w' → Good k v w') (hI : ∀ w', R w w' → Inv w') :
    o.wp P a w (fun a' w' => ∃ v, a' = a.put o.dst v ∧ Good k v w' ∧ R w w' ∧ Inv w') Q := by
  unfold Oper.wp
  rw [hrun, Oper.upon_enter]
  refine hc.mono ?_
  rintro e w' ⟨rfl, hR⟩
  exact ⟨v, rfl, hg w' hR, hR, hI w' hR⟩

/-- An operation that yields a value and leaves the world alone. -/
theorem run_value {a : Act} {w : World} {v : Value} (hrun : (execOp a.eval o).run P w = .ok (.value v) w) (hg : Good k v w) (hR : R w w) (hI : Inv w) :
    o.wp P a w (fun a' w' => ∃ v, a' = a.put o.dst v ∧ Good k v w' ∧ R w w' ∧ Inv w') Q := by
  unfold Oper.wp
  rw [hrun]
  exact ⟨v, rfl, hg, hR, hI⟩
end
/-- A region of a function's code, by its number. -/
def findRegion (n : Nat) : Code → Option Code
  | .region k ops d => if k = n then some (.region k ops d) else none
  | .loop c => findRegion n c
  | .seq a b => match findRegion n a with
    | some c => some c
    | none => findRegion n b
  | .block _ c => findRegion n c
  | .scope c => findRegion n c
  | .cond _ a b => match findRegion n a with
    | some c => some c
    | none => findRegion n b
  | _ => none
end Reg
end Go.Proofs.YtdcjhpnakbejkaaGreatDoor
