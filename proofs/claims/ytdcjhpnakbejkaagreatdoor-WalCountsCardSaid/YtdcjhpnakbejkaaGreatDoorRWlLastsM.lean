/-
  Adds to a segment, one behind the other, and what a crash leaves of them. No program is named here.
-/
import Derived.Test.YtdcjhpnakbejkaaGreatDoorRWlSt
import Derived.Test.YtdcjhpnakbejkaaGreatDoorRWwI
set_option linter.unusedSimpArgs false
set_option linter.unusedVariables false
namespace Go.Proofs.YtdcjhpnakbejkaaGreatDoor
namespace Wl
open Dk (D Fl find)
theorem load_lay {n : ByteArray} (hn : n.size ≤ 24) : ∀ (T : List (List UInt8)) {d : D}, Dk.Inv d → (∀ t ∈ T, t.length < Nm.top) → Dk.load (lay d n T).2 ≤ Dk.load d + cost T
  | [], d, h, _ => Dk.load_sync h n
  | t :: T, d, h, hT => by
    have hr := row_size_le (hT t (List.mem_cons_self ..))
    have h1 := Dk.load_append h n (ba (row t))
    unfold lay cost
    split
    · have h2 := load_lay hn T (Dk.inv_append h n (ba (row t))) fun x hx => hT x (List.mem_cons_of_mem _ hx)
      omega
    · omega
theorem text_len200 {r : R} (hf : Fits r) (hz : r.ent.body.size ≤ 200) : (text r).length ≤ 300 := by
  unfold text
  have h2 := grp_len r.trm hf.trm
  split
  · simp [Cm.one]; omega
  · have h3 : (En.write r.ent).length ≤ 250 := by
      unfold En.write
      split
      · have := En.enc_len r.ent hf.ent hf.body; omega
      · simp
    simp [Cm.one]; omega
theorem right_cost {l : List R} (hf : ∀ r ∈ l, Fits r) (hs : great l = false) : cost ((l.filter right).map text) ≤ 15000 := by
  obtain ⟨h1, h2⟩ := small_of hs
  have hl : (l.filter right).length ≤ 40 := Nat.le_trans (List.length_filter_le _ _) h1
  have hc := cost_le ((l.filter right).map text) 300 fun t htm => by
    obtain ⟨r, hr, rfl⟩ := List.mem_map.1 htm
    obtain ⟨ha, hb⟩ := List.mem_filter.1 hr
    exact text_len200 (hf r ha) (h2 r ha)
  rw [List.length_map] at hc
  have : (60 + 300) * (l.filter right).length ≤ (60 + 300) * 40 := Nat.mul_le_mul_left _ hl
  omega
theorem load_add {d : D} (hv : Dk.Inv d) {m : List R} (hg : Good m) : Dk.load (add d 7 m).2 ≤ Dk.load d + cost (m.map text) := by
  have hn := (name_size (n := 7) (by decide)).2
  unfold add
  split
  · exact Nat.le_add_right _ _
  split
  · exact Nat.le_add_right _ _
  split
  · exact Nat.le_add_right _ _
  · exact load_lay hn _ hv fun t ht => by
      obtain ⟨r, hr, rfl⟩ := List.mem_map.1 ht
      exact (hg r hr).2
theorem load_begins {d : D} (hv : Dk.Inv d) {sn : Nat} (hs : sn < Nm.top) {l : List R} (hg : Good l) (hl : l.length ≤ 1000) : Dk.load (begins d 7 sn l).2 ≤ Dk.load d + 400 + cost (l.map text) := by
  have hn := (name_size (n := 7) (by decide)).2
  unfold begins
  split
  · show Dk.load d ≤ _; omega
  split
  · show Dk.load d ≤ _; omega
  split
  · show Dk.load d ≤ _; omega
  · have h1 := load_lay hn (segT l.length sn l) hv (segT_len (by have : (1000 : Nat) < Nm.top := by decide
                                                                 omega) hs hg)
    have h2 : cost (segT l.length sn l) = 60 + (headT l.length sn).length + cost (l.map text) := rfl
    have h3 : (headT l.length sn).length ≤ 300 := by
      have a := grp_len l.length (by have : (1000 : Nat) < Nm.top := by decide
                                     omega)
      have b := grp_len sn hs
      unfold headT
      rw [List.length_append, List.length_append]
      simp [Cm.one]; omega
    show Dk.load (lay d (name 7) (segT l.length sn l)).2 ≤ _
    omega
/-- What an Add does. -/
theorem adds_says {d : D} {b sn : Nat} {T m : List R} (ho : d.off = false) (hi : Is d (name 7) (segT b sn T) (T.length + 1)) (hg : Good m) :
    (∃ d', add d 7 m = (.ok, d') ∧ Is d' (name 7) (segT b sn (T ++ m)) ((T ++ m).length + 1) ∧ d'.off = false) ∨
    ∃ d' j, add d 7 m = (.down, d') ∧ Is d' (name 7) (segT b sn (T ++ m.take j)) (T.length + 1) := by
  by_cases hm : m = []
  · subst hm
    exact .inl ⟨d, add_nil ho 7, by rw [List.append_nil]; exact hi, ho⟩
  by_cases hl : d.left = 0 ∨ m.length + 1 < d.left
  · obtain ⟨d', h1, h2, h3, _⟩ := add_ok ho hi (by decide) hg hm hl
    exact .inl ⟨d', h1, h2, h3⟩
  · obtain ⟨d', h1, h2, _⟩ := add_down ho hi (by decide) hg hm (by omega) (by omega)
    exact .inr ⟨d', _, h1, h2⟩
/-- What is read behind a crash. -/
theorem last_read {d : D} {b sn : Nat} {T L M : List R} (hi : Is d (name 7) (segT b sn L) (T.length + 1)) (hT : T <+: L) (hL : L <+: M) (hb : b ≤ T.length) (hs : sn < Nm.top) (hg : Good M) (hz : M.length ≤ 1000000) (keep torn : List Int) :
    ∃ rs, readD (Dk.start (Dk.crash d keep torn)) 7 = ((sn, rs, true), .ok) ∧ T <+: rs ∧ rs <+: M := by
  have h1 := hT.length_le
  have h2 := hL.length_le
  obtain ⟨m, a1, a2, _, a4⟩ := crash_read hi (by omega) (by have : (1000000 : Nat) < Nm.top := by decide
                                                            omega) hs (hg.sub fun r hr => hL.subset hr) keep torn
  refine ⟨L.take (m - 1), ?_, ?_, (List.take_prefix _ _).trans hL⟩
  · rw [a4, if_neg (by omega), decide_eq_true (by omega)]
  · exact List.prefix_of_prefix_length_le hT (List.take_prefix _ _) (by rw [List.length_take]; omega)
end Wl
end Go.Proofs.YtdcjhpnakbejkaaGreatDoor
