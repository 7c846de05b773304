/-
  Maps with strings as keys and any values at all: as a row of pairs by rising keys. No program is named here.
  Maps with strings as keys, gone through: what has come is a part of the row, at the end all of it, in some order. No program is named here.
-/
import Derived.Maps.Own
import Derived.Maps.Range
import Derived.Maps.RangeWalk
import Derived.Maps.Views
import Derived.Sort.MapsRangeIn
import Derived.Below
set_option linter.unusedSimpArgs false
set_option linter.unusedVariables false
namespace Go.Proofs.YtdcjhpnakbejkaaGreatDoor
open Go.Maps (Keyed)
open Go.ChangeMaps (notKey putKey delKey)
namespace Sm
abbrev Row := List (ByteArray × Value)
def lt (a b : ByteArray) : Prop := a.data.toList < b.data.toList
instance (a b : ByteArray) : Decidable (lt a b) := inferInstanceAs (Decidable (a.data.toList < b.data.toList))
/-- How an element is told: as it is. -/
def hv (v : Value) : Option (DataW Value × List MemPlace) := some (.held v, [])
def enc (p : ByteArray × Value) : Lit × DataW Value := (.string p.1.data.toList, .held p.2)
def lk (l : Row) (s : ByteArray) : Option Value := (l.find? fun p => decide (p.1 = s)).map (·.2)
def put : Row → ByteArray → Value → Row
  | [], s, v => [(s, v)]
  | p :: l, s, v => if p.1 = s then (s, v) :: l else if lt s p.1 then (s, v) :: p :: l else p :: put l s v
def del (l : Row) (s : ByteArray) : Row := l.filter fun p => decide (p.1 ≠ s)
def Rises : Row → Prop
  | [] => True
  | p :: l => (∀ q ∈ l, lt p.1 q.1) ∧ Rises l
theorem name_ext {a b : ByteArray} (h : a.data.toList = b.data.toList) : a = b := ByteArray.ext (Array.toList_inj.1 h)
theorem lt_irrefl (a : ByteArray) : ¬ lt a a := List.lt_irrefl _
theorem lt_trans {a b c : ByteArray} (h1 : lt a b) (h2 : lt b c) : lt a c := List.lt_trans h1 h2
theorem before_lt : ∀ a b : List UInt8, bytesBefore a b = true ↔ a < b
  | [], [] => by simp [bytesBefore]
  | [], y :: b => by simp [bytesBefore]
  | x :: a, [] => by simp [bytesBefore]
  | x :: a, y :: b => by
    rw [List.cons_lt_cons_iff, ← before_lt a b]
    simp [bytesBefore]
theorem enc_before (p q : ByteArray × Value) : (enc p).1.before (enc q).1 = true ↔ lt p.1 q.1 := before_lt _ _
theorem enc_key (p q : ByteArray × Value) : (enc p).1.sameKey (enc q).1 = true ↔ p.1 = q.1 := by
  show (p.1.data.toList == q.1.data.toList) = true ↔ _
  rw [beq_iff_eq]
  exact ⟨name_ext, fun h => by rw [h]⟩
theorem same_key (p : ByteArray × Value) (s : ByteArray) : (enc p).1.sameKey (.string s.data.toList) = decide (p.1 = s) := by
  have := enc_key p (s, .bool false)
  by_cases h : p.1 = s
  · rw [decide_eq_true h]; exact this.2 h
  · rw [decide_eq_false h]
    cases hs : (enc p).1.sameKey (.string s.data.toList)
    · rfl
    · exact absurd (this.1 hs) h
theorem rises_of : ∀ l : Row, (l.map enc).Pairwise (fun p q => p.1.before q.1 = true) → Rises l
  | [], _ => trivial
  | p :: l, h => by
    rw [List.map_cons, List.pairwise_cons] at h
    exact ⟨fun q hq => (enc_before p q).1 (h.1 _ (List.mem_map.2 ⟨q, hq, rfl⟩)), rises_of l h.2⟩
theorem insert_lt (s : ByteArray) (v : Value) : ∀ l : Row, (∀ q ∈ l, lt s q.1) → DataW.insert (enc (s, v)) (l.map enc) = ((s, v) :: l).map enc
  | [], _ => rfl
  | p :: l, h => by
    rw [List.map_cons, DataW.insert, if_pos ((enc_before (s, v) p).2 (h p (by simp)))]; rfl
theorem filter_lt (s : ByteArray) : ∀ l : Row, (∀ q ∈ l, lt s q.1) → (l.map enc).filter (notKey (.string s.data.toList)) = l.map enc := fun l h => by
  rw [List.filter_eq_self]
  intro x hx
  obtain ⟨q, hq, rfl⟩ := List.mem_map.1 hx
  unfold notKey
  rw [same_key, decide_eq_false (fun he => lt_irrefl s (by have := h q hq; rwa [he] at this))]; rfl
theorem put_enc (s : ByteArray) (v : Value) : ∀ l : Row, Rises l → putKey (.string s.data.toList) (.held v) (l.map enc) = (put l s v).map enc
  | [], _ => rfl
  | p :: l, ⟨h1, h2⟩ => by
    have ih := put_enc s v l h2
    unfold putKey at ih ⊢
    rw [List.map_cons, List.filter_cons]
    unfold put
    have hk : notKey (Lit.string s.data.toList) (enc p) = !decide (p.1 = s) := by unfold notKey; rw [same_key]
    rw [hk]
    by_cases he : p.1 = s
    · rw [if_pos he, decide_eq_true he]
      have hl : ∀ q ∈ l, lt s q.1 := by rw [← he]; exact h1
      rw [if_neg (by simp), filter_lt s l hl]
      exact insert_lt s v l hl
    · rw [if_neg he, decide_eq_false he, if_pos (by rfl)]
      by_cases hl : lt s p.1
      · rw [if_pos hl, filter_lt s l (fun q hq => lt_trans hl (h1 q hq)), ← List.map_cons]
        refine insert_lt s v (p :: l) fun q hq => ?_
        rcases List.mem_cons.1 hq with rfl | hq
        · exact hl
        · exact lt_trans hl (h1 q hq)
      · rw [if_neg hl, List.map_cons, ← ih]
        show DataW.insert (enc (s, v)) (enc p :: _) = _
        rw [DataW.insert, if_neg (fun h => hl ((enc_before (s, v) p).1 h))]; rfl
theorem del_enc (s : ByteArray) (l : Row) : delKey (.string s.data.toList) (l.map enc) = (del l s).map enc := by
  unfold delKey del
  rw [List.filter_map]
  congr 1
  apply List.filter_congr
  intro p _
  show notKey _ (enc p) = _
  unfold notKey
  rw [same_key]; simp
theorem find_enc (s : ByteArray) : ∀ l : Row, (l.map enc).find? (fun p => p.1.sameKey (.string s.data.toList)) = (l.find? fun p => decide (p.1 = s)).map enc
  | [] => rfl
  | p :: l => by
    rw [List.map_cons, List.find?_cons, List.find?_cons, same_key]
    by_cases h : p.1 = s
    · rw [decide_eq_true h]; rfl
    · rw [decide_eq_false h]; exact find_enc s l
theorem atKey_enc (s : ByteArray) (zd : DataW Value) (l : Row) : (DataW.map (l.map enc)).atKey (.string s.data.toList) zd = match lk l s with | some v => .held v | none => zd := by
  unfold DataW.atKey
  simp only [find_enc]
  unfold lk
  cases l.find? fun p => decide (p.1 = s) <;> rfl
end Sm
section
variable {P : Program} {k t e : TypeId} {W : World} {b : Nat} {l : Sm.Row}
/-- Block b is a map: these keys, by their order, with these elements. -/
def SMap (P : Program) (k : TypeId) (W : World) (b : Nat) (l : Sm.Row) : Prop := W.ownsMap P k Sm.hv b l.length (.map (l.map Sm.enc))
theorem SMap.lt (h : SMap P k W b l) : b < W.heap.size := World.ownsMap.lt h
theorem SMap.made (P : Program) (k : TypeId) (W : World) : SMap P k (W.alloc (.map #[] 0)) W.heap.size [] := World.ownsMap_made W P k Sm.hv
theorem SMap.kept {W' : World} (h : SMap P k W b l) (hb : W'.heap[b]? = W.heap[b]?) : SMap P k W' b l := by
  obtain ⟨es, clock, h1, rest⟩ := h
  exact ⟨es, clock, hb.trans h1, rest⟩
theorem SMap.rises (hk : P.underlying k = some .string) (h : SMap P k W b l) : Sm.Rises l := by
  obtain ⟨es, clock, h1, F, hs, hD⟩ := h
  have K := Go.Maps.string_keyed hk
  simp only [DataW.map.injEq] at hD
  have := Go.Maps.sorted_sorted K.one _ (Go.Maps.fit_keys F) (Go.Maps.fit_apart K F)
  rw [← hD] at this
  exact Sm.rises_of l this
theorem SMap.keys (hk : P.underlying k = some .string) (h : SMap P k W b l) : ∀ p ∈ l, p.1.size ≤ maxLen := by
  obtain ⟨es, clock, h1, F, hs, hD⟩ := h
  intro p hp
  simp only [DataW.map.injEq] at hD
  have hm : Sm.enc p ∈ (es.toList.map (Go.WideElems.rg P k Sm.hv)).foldr DataW.insert [] := by rw [← hD]; exact List.mem_map.2 ⟨p, hp, rfl⟩
  obtain ⟨x, hx, he⟩ := List.mem_map.1 (mem_sorted.1 hm)
  obtain ⟨y, hy⟩ := F.reads x hx
  have hkey := Go.WideElems.rd_key hy
  rw [Go.WideElems.rg_of hy] at he
  rw [he] at hkey
  have : keyOf P k x.key = some (.string p.1.data.toList) := hkey
  have hms : ∀ v, keyOf P k v = some (.string p.1.data.toList) → p.1.size ≤ maxLen := fun v hv => by
    rw [keyOf_string hk] at hv
    have hp1 : p.1.size = (p.1.data.toList).length := by rw [Array.length_toList]; rfl
    obtain ⟨m, hm⟩ : ∃ m, m = maxLen := ⟨_, rfl⟩
    cases v <;> simp only [mapKey, hk] at hv <;> try cases hv
    rename_i x
    rw [← hm] at hv ⊢
    split at hv
    · rename_i hle
      injection hv with hv
      injection hv with hv
      rw [hp1, ← hv, Array.length_toList]; exact hle
    · cases hv
  exact hms _ this
theorem SMap.look (c : Bool) (hk : P.underlying k = some .string) (ht : P.underlying t = some (.map k e)) (h : SMap P k W b l) {z : Value} (hz : (zeroValue e).run P W = .ok z W) (s : ByteArray) (hs : s.size ≤ maxLen) :
    (Instr.lookup t (.map (some b)) (.string s) c).run P W = .ok (if c then .tuple #[(Sm.lk l s).getD z, .bool (Sm.lk l s).isSome] else (Sm.lk l s).getD z) W := by
  obtain ⟨es, clock, h1, F, _, hD⟩ := h
  have K := Go.Maps.string_keyed hk
  have hkey : keyOf P k (.string s) = some (.string s.data.toList) := Go.WideMaps.keyOf_string_mk hk hs
  rcases Go.Maps.fit_look c K ht hz h1 F hkey with ⟨hrun, _, hat⟩ | ⟨e0, y, _, _, hrun, hy, hat, _⟩
  · have h2 := hat (.nil)
    rw [← hD, Sm.atKey_enc] at h2
    cases hl : Sm.lk l s with
    | none => exact hrun
    | some v => rw [hl] at h2; cases h2
  · have h2 := hat (.nil)
    rw [← hD, Sm.atKey_enc] at h2
    cases hy
    cases hl : Sm.lk l s with
    | none => rw [hl] at h2; cases h2
    | some v =>
      rw [hl] at h2
      injection h2 with h2
      subst h2
      exact hrun
theorem SMap.store (hk : P.underlying k = some .string) (ht : P.underlying t = some (.map k e)) (h : SMap P k W b l) (hn : l.length < maxLen) (s : ByteArray) (hs : s.size ≤ maxLen) (v : Value) :
    ∃ W', (Instr.mapUpdate t (.map (some b)) (.string s) v).run P W = .ok () W' ∧ SMap P k W' b (Sm.put l s v) ∧ W.grownBy W' (some b) ∧ W'.heap.size = W.heap.size := by
  have hr := SMap.rises hk h
  obtain ⟨es, clock, h1, F, hsz, hD⟩ := h
  have K := Go.Maps.string_keyed hk
  have hkey : keyOf P k (.string s) = some (.string s.data.toList) := Go.WideMaps.keyOf_string_mk hk hs
  obtain ⟨es', clock', hrun, F', hput, _⟩ := Go.Maps.fit_store (R' := Sm.hv) K ht h1 F (Nat.lt_of_le_of_lt hsz hn) (fun _ _ _ _ hz => hz) hkey (val := v) (yv := (.held v, [])) rfl
  simp only [DataW.map.injEq] at hD
  have e2 : (es'.toList.map (Go.WideElems.rg P k Sm.hv)).foldr DataW.insert [] = (Sm.put l s v).map Sm.enc := by rw [hput, ← hD]; exact Sm.put_enc s v l hr
  have e3 : es'.size = (Sm.put l s v).length := by
    have := congrArg List.length e2
    rw [length_sorted] at this
    simpa using this
  refine ⟨_, hrun, ⟨es', clock', Go.ChangeMaps.heap_setBlock_same h1 _, F', Nat.le_of_eq e3, by rw [e2]⟩, ⟨rfl, rfl, rfl, by simp [Go.ChangeMaps.setBlock], fun i _ hi => Go.ChangeMaps.heap_setBlock_other h1 _ (fun e => hi (by rw [e]))⟩, by simp [Go.ChangeMaps.setBlock]⟩
theorem SMap.drop {ty : TypeId} (hk : P.underlying k = some .string) (ht : P.underlying t = some (.map k e)) (h : SMap P k W b l) (s : ByteArray) (hs : s.size ≤ maxLen) :
    ∃ W', (Builtin.delete_ #[t, k] ty #[.map (some b), .string s]).run P W = .ok (.tuple #[]) W' ∧ SMap P k W' b (Sm.del l s) ∧ W.grownBy W' (some b) ∧ W'.heap.size = W.heap.size := by
  obtain ⟨es, clock, h1, F, hsz, hD⟩ := h
  have K := Go.Maps.string_keyed hk
  have hkey : keyOf P k (.string s) = some (.string s.data.toList) := Go.WideMaps.keyOf_string_mk hk hs
  obtain ⟨es', hrun, F', _, hput, _⟩ := Go.Maps.fit_drop (R := Sm.hv) (ty := ty) K ht h1 F hkey
  simp only [DataW.map.injEq] at hD
  have e2 : (es'.toList.map (Go.WideElems.rg P k Sm.hv)).foldr DataW.insert [] = (Sm.del l s).map Sm.enc := by rw [hput, ← hD]; exact Sm.del_enc s l
  have e3 : es'.size = (Sm.del l s).length := by
    have := congrArg List.length e2
    rw [length_sorted] at this
    simpa using this
  refine ⟨_, hrun, ⟨es', clock, Go.ChangeMaps.heap_setBlock_same h1 _, F', Nat.le_of_eq e3, by rw [e2]⟩, ⟨rfl, rfl, rfl, by simp [Go.ChangeMaps.setBlock], fun i _ hi => Go.ChangeMaps.heap_setBlock_other h1 _ (fun e => hi (by rw [e]))⟩, by simp [Go.ChangeMaps.setBlock]⟩
end
end Go.Proofs.YtdcjhpnakbejkaaGreatDoor
namespace Go.Proofs.YtdcjhpnakbejkaaGreatDoor
open Go.Maps (Keyed)
open Go.RowKit (Below)
section
variable {P : Program} {k t e : TypeId} {W : World} {b r cnt : Nat} {l done : Sm.Row}
/-- The map of block b is being gone through, by block r: what has come is done, cnt are left. -/
def SRg (P : Program) (k : TypeId) (W : World) (b r : Nat) (l done : Sm.Row) (cnt : Nat) : Prop :=
  ∃ lf : Lit → Bool, W.ranges P k Sm.hv b r l.length (.map (l.map Sm.enc)) lf cnt ∧ (∀ s : ByteArray, lf (.string s.data.toList) = ((Sm.lk l s).isSome && !done.any fun p => decide (p.1 = s))) ∧
    (∀ kl, lf kl = true → ∃ p ∈ l, (Sm.enc p).1 = kl) ∧ (∀ p ∈ done, p ∈ l) ∧ (done.map (·.1)).Nodup
theorem SRg.map (h : SRg P k W b r l done cnt) : SMap P k W b l := by
  obtain ⟨lf, h1, _⟩ := h
  exact h1.owns
theorem SRg.lt (h : SRg P k W b r l done cnt) : r < W.heap.size := by obtain ⟨lf, h1, _⟩ := h; exact h1.lt
theorem SRg.ne (h : SRg P k W b r l done cnt) : r ≠ b := by obtain ⟨lf, h1, _⟩ := h; exact h1.ne
theorem SRg.left_eq (h : SRg P k W b r l done cnt) : W.rangeLeft b r = cnt := by obtain ⟨lf, h1, _⟩ := h; exact h1.left_eq
theorem SRg.kept {W' : World} (h : SRg P k W b r l done cnt) (hb : W'.heap[b]? = W.heap[b]?) (hr : W'.heap[r]? = W.heap[r]?) : SRg P k W' b r l done cnt := by
  obtain ⟨lf, ⟨es, clock, since, seen, c0, g1, F, hs, hD, g2, rest⟩, h2⟩ := h
  exact ⟨lf, ⟨es, clock, since, seen, c0, hb.trans g1, F, hs, hD, hr.trans g2, rest⟩, h2⟩
theorem Sm.lk_mem {l : Sm.Row} {s : ByteArray} {v : Value} (h : Sm.lk l s = some v) : (s, v) ∈ l := by
  unfold Sm.lk at h
  rw [Option.map_eq_some_iff] at h
  obtain ⟨p, hp, rfl⟩ := h
  have h1 := List.find?_some hp
  have h2 := List.mem_of_find?_eq_some hp
  have : p.1 = s := by simpa using h1
  subst this
  exact h2
theorem Sm.lk_of_mem {l : Sm.Row} (h : Sm.Rises l) {p : ByteArray × Value} (hp : p ∈ l) : Sm.lk l p.1 = some p.2 := by
  unfold Sm.lk
  induction l with
  | nil => cases hp
  | cons x xs ih =>
    rw [List.find?_cons]
    rcases List.mem_cons.1 hp with rfl | hp
    · rw [decide_eq_true rfl]; rfl
    · rw [decide_eq_false (fun he => Sm.lt_irrefl x.1 (by have := h.1 p hp; rwa [← he] at this))]
      exact ih h.2 hp
theorem Sm.nodup {l : Sm.Row} (h : Sm.Rises l) : l.Nodup := by
  induction l with
  | nil => exact List.nodup_nil
  | cons x xs ih =>
    rw [List.nodup_cons]
    exact ⟨fun hx => Sm.lt_irrefl x.1 (h.1 x hx), ih h.2⟩
/-- What has come is all of it. -/
theorem SRg.all (hk : P.underlying k = some .string) (h : SRg P k W b r l done cnt) (h0 : cnt = 0) : done.Perm l := by
  have hr := SMap.rises hk h.map
  obtain ⟨lf, h1, h2, _, h4, h5⟩ := h
  have hd : done.Nodup := List.Pairwise.of_map (fun x => x.1) (fun a b hne he => hne (by rw [he])) h5
  rw [List.perm_ext_iff_of_nodup hd (Sm.nodup hr)]
  intro p
  refine ⟨h4 p, fun hp => ?_⟩
  obtain ⟨es, clock, since, seen, c0, _, F, _, hD, _, _, hc, hl1, _, _⟩ := h1
  have hlf : lf (.string p.1.data.toList) = false := by
    simp only [DataW.map.injEq] at hD
    have hm : Sm.enc p ∈ (es.toList.map (Go.WideElems.rg P k Sm.hv)).foldr DataW.insert [] := by rw [← hD]; exact List.mem_map.2 ⟨p, hp, rfl⟩
    obtain ⟨x, hx, he⟩ := List.mem_map.1 (mem_sorted.1 hm)
    have := hl1 x hx
    rw [he, all_seen es seen (hc.trans h0) x hx] at this
    exact this
  rw [h2, Sm.lk_of_mem hr hp] at hlf
  simp at hlf
  obtain ⟨v, hv⟩ := hlf
  have e1 := Sm.lk_of_mem hr hp
  have e2 := Sm.lk_of_mem hr (h4 _ hv)
  rw [e1] at e2
  injection e2 with e2
  have : p = (p.1, v) := by
    have e3 : p.2 = v := e2
    rw [← e3]
  rw [this]; exact hv
theorem SMap.range (hk : P.underlying k = some .string) (ht : P.underlying t = some (.map k e)) (h : SMap P k W b l) :
    ∃ W', (Instr.range t (.map (some b))).run P W = .ok (.pointer (some ⟨W.heap.size, 0, none⟩)) W' ∧ SRg P k W' b W.heap.size l [] l.length ∧ Below W.heap.size W W' ∧ W'.heap.size = W.heap.size + 1 := by
  have K := Go.Maps.string_keyed hk
  have hr := SMap.rises hk h
  obtain ⟨W', hrun, h1, h2, h3⟩ := World.ownsMap.range h K ht
  have hz : Go.Maps.size (.map (l.map Sm.enc)) = l.length := by rw [Go.Maps.size_eq, List.length_map]
  rw [hz] at h1
  have hh : ∀ kl, Go.Maps.has (.map (l.map Sm.enc)) kl = true → ∃ p ∈ l, (Sm.enc p).1 = kl := fun kl hkl => by
    rw [Go.Maps.has_eq, List.any_eq_true] at hkl
    obtain ⟨x, hx, he⟩ := hkl
    obtain ⟨p, hp, rfl⟩ := List.mem_map.1 hx
    exact ⟨p, hp, WideAt.sameKey_eq he⟩
  refine ⟨W', hrun, ⟨_, h1, fun s => ?_, hh, fun p hp => (by cases hp), List.nodup_nil⟩, ⟨h2.os, h2.tape, h2.output, h2.size, fun i hi => h2.block i hi (by simp)⟩, h3⟩
  show Go.Maps.has (.map (l.map Sm.enc)) (.string s.data.toList) = _
  rw [Go.Maps.has_eq, List.any_map]
  simp only [List.any_nil, Bool.not_false, Bool.and_true]
  unfold Sm.lk
  have : (fun p => decide (p.1 = s)) = ((fun p => p.1.sameKey (Lit.string s.data.toList)) ∘ Sm.enc) := by funext p; exact (Sm.same_key p s).symm
  rw [← this]
  cases hf : l.find? fun p => decide (p.1 = s) with
  | none =>
    rw [List.find?_eq_none] at hf
    simpa using hf
  | some p =>
    have h1 := List.find?_some hf
    have h2 := List.mem_of_find?_eq_some hf
    simp only [Option.map_some, Option.isSome_some, List.any_eq_true]
    exact ⟨p, h2, h1⟩
theorem SRg.next (hk : P.underlying k = some .string) (h : SRg P k W b r l done cnt) (ty : TypeId) :
    (cnt = 0 ∧ done.Perm l ∧ (Instr.next (.pointer (some ⟨r, 0, none⟩)) false ty).run P W = .ok (.tuple #[.bool false]) W) ∨
    ∃ p W' cnt', p ∈ l ∧ p ∉ done ∧ (Instr.next (.pointer (some ⟨r, 0, none⟩)) false ty).run P W = .ok (.tuple #[.bool true, .string p.1, p.2]) W' ∧ SRg P k W' b r l (done ++ [p]) cnt' ∧ cnt' < cnt ∧
      W.grownBy W' (some r) ∧ W'.heap.size = W.heap.size ∧ (Instr.entry (.pointer (some ⟨r, 0, none⟩))).run P W' = .ok (.tuple #[.string p.1, p.2]) W' := by
  have K := Go.Maps.string_keyed hk
  have hr := SMap.rises hk h.map
  have hall := fun h0 => SRg.all hk h h0
  obtain ⟨lf, h1, h2, h3, h4, h5⟩ := h
  rcases h1.next K ty with ⟨h0, _, hrun⟩ | ⟨key, v, kl, y, W', cnt', hkey, hlk, hv, hat, hrun, hrg, hlt, hgr, hsz, hen⟩
  · exact .inl ⟨h0, hall h0, hrun⟩
  · right
    obtain ⟨p, hp, rfl⟩ := h3 kl hlk
    have hkp : key = .string p.1 := by
      obtain ⟨s, rfl⟩ := Maps.keyOf_string_inv hk hkey
      have hkey2 : keyOf P k (.string s) = some (.string p.1.data.toList) := hkey
      rw [keyOf_string hk] at hkey2
      obtain ⟨m, hm⟩ : ∃ m, m = maxLen := ⟨_, rfl⟩
      simp only [mapKey, hk, ← hm] at hkey2
      split at hkey2
      · injection hkey2 with hkey2
        injection hkey2 with hkey2
        rw [Sm.name_ext hkey2]
      · cases hkey2
    have hvp : v = p.2 := by
      have h6 := hat .nil
      have h7 : (DataW.map (l.map Sm.enc)).atKey (.string p.1.data.toList) .nil = y.1 := h6
      rw [Sm.atKey_enc, Sm.lk_of_mem hr hp] at h7
      cases hv
      injection h7 with h7
      exact h7.symm
    subst hkp hvp
    have hlk2 : lf (.string p.1.data.toList) = true := hlk
    rw [h2] at hlk2
    have hnd : ∀ q ∈ done, q.1 ≠ p.1 := fun q hq he => by
      have : done.any (fun x => decide (x.1 = p.1)) = true := List.any_eq_true.2 ⟨q, hq, by simpa using he⟩
      rw [this] at hlk2; simp at hlk2
    refine ⟨p, W', cnt', hp, fun hd => hnd p hd rfl, hrun, ⟨_, hrg, fun s => ?_, fun kl hkl => h3 kl (by simp at hkl; exact hkl.1), fun q hq => ?_, ?_⟩, hlt, hgr, hsz, hen⟩
    · show (lf (.string s.data.toList) && !(Lit.string s.data.toList).sameKey (Sm.enc p).1) = _
      rw [h2, List.any_append]
      have : (Lit.string s.data.toList).sameKey (Sm.enc p).1 = decide (p.1 = s) := by
        have h8 := Sm.same_key (s, p.2) p.1
        have h9 : (Lit.string s.data.toList).sameKey (Lit.string p.1.data.toList) = decide (s = p.1) := h8
        show (Lit.string s.data.toList).sameKey (Lit.string p.1.data.toList) = _
        rw [h9]
        by_cases hh : s = p.1
        · rw [decide_eq_true hh, decide_eq_true hh.symm]
        · rw [decide_eq_false hh, decide_eq_false (fun h => hh h.symm)]
      rw [this]
      simp only [List.any_cons, List.any_nil, Bool.or_false]
      cases (Sm.lk l s).isSome <;> cases done.any (fun p => decide (p.1 = s)) <;> cases decide (p.1 = s) <;> rfl
    · rcases List.mem_append.1 hq with hq | hq
      · exact h4 q hq
      · rw [List.mem_singleton.1 hq]; exact hp
    · rw [List.map_append, List.nodup_append]
      refine ⟨h5, by simp, fun x hx y hy he => ?_⟩
      obtain ⟨q, hq, rfl⟩ := List.mem_map.1 hx
      simp at hy
      exact hnd q hq (he.trans hy)
end
end Go.Proofs.YtdcjhpnakbejkaaGreatDoor
