/-
  The order of groups and of numbers of a width; numbers that differ, and what they are read as. No program is named here.
  The plain mathematics of layer 8 (wal): rows, heads, records, what stands in a segment's bytes. No program is named here.
  The plain mathematics of layer 8 (wal) over layer 7's disk: rows laid, and what a fuse and a crash leave. No program is named here.
  The plain mathematics of layer 8 (wal): a segment's name. No program is named here.
  The plain mathematics of layer 8 (wal): what is done to a segment, and what stands in it behind a crash. No program is named here.
-/
import Derived.Test.YtjhbpcecdhdnoaaGreatDoorRWords
import Derived.Test.YtjhbpcecdhdnoaaGreatDoorREnA
import Derived.Test.YtjhbpcecdhdnoaaGreatDoorRSum
import Derived.Test.YtjhbpcecdhdnoaaGreatDoorRDkM
import GoSem.Op.String
set_option linter.unusedSimpArgs false
set_option linter.unusedVariables false
namespace Go.Proofs.YtjhbpcecdhdnoaaGreatDoor
namespace Nm

end Nm
end Go.Proofs.YtjhbpcecdhdnoaaGreatDoor
namespace Go.Proofs.YtjhbpcecdhdnoaaGreatDoor
namespace Wl
open Cm (rdB rdV rdV_iff rdB_iff one)
/-! ### Rows -/
theorem val8_inj : ∀ (p q : List UInt8), p.length = q.length → Nm.val8 p = Nm.val8 q → p = q := by
  intro p
  induction h : p.length generalizing p with
  | zero =>
    intro q hq _
    rw [List.eq_nil_of_length_eq_zero h, List.eq_nil_of_length_eq_zero hq.symm]
  | succ k ih =>
    intro q hq hv
    obtain ⟨p', c, rfl⟩ : ∃ p' c, p = p' ++ [c] := ⟨p.dropLast, p.getLast (by intro e; subst e; simp at h), (List.dropLast_concat_getLast _).symm⟩
    obtain ⟨q', d, rfl⟩ : ∃ q' d, q = q' ++ [d] := ⟨q.dropLast, q.getLast (by intro e; subst e; simp at hq), (List.dropLast_concat_getLast _).symm⟩
    rw [Nm.val8_snoc, Nm.val8_snoc] at hv
    have h1 := c.toNat_lt
    have h2 := d.toNat_lt
    have hcd : c.toNat = d.toNat := by omega
    have hl : p'.length = k := by simpa using h
    have hm : k = q'.length := by simpa using hq
    rw [ih p' hl q' hm (by omega), UInt8.toNat_inj.1 hcd]
def row (t : List UInt8) : List UInt8 := Nm.grp t.length ++ (Nm.wid 4 (Cr.crc t) ++ t)
def row1 (l : List UInt8) : Option (List UInt8 × List UInt8) :=
  (rdV l).bind fun (n, l) => if l.length < 4 + n then none else if Nm.val8 (l.take 4) = Cr.crc ((l.drop 4).take n) then some ((l.drop 4).take n, l.drop (4 + n)) else none
theorem row1_row {t : List UInt8} (ht : t.length < Nm.top) (r : List UInt8) : row1 (row t ++ r) = some (t, r) := by
  unfold row1
  have e : row t ++ r = Nm.grp t.length ++ (Nm.wid 4 (Cr.crc t) ++ (t ++ r)) := by simp [row]
  rw [e, (rdV_iff _ _ _).2 ⟨ht, rfl⟩, Option.bind_some]
  simp only []
  have hw := Nm.wid_length 4 (Cr.crc t)
  have e1 : (Nm.wid 4 (Cr.crc t) ++ (t ++ r)).take 4 = Nm.wid 4 (Cr.crc t) := by rw [List.take_append_of_le_length (by omega), List.take_of_length_le (by omega)]
  have e2 : (Nm.wid 4 (Cr.crc t) ++ (t ++ r)).drop 4 = t ++ r := by rw [List.drop_append_of_le_length (by omega), List.drop_of_length_le (by omega)]; rfl
  have e3 : (t ++ r).take t.length = t := List.take_left
  have e4 : (Nm.wid 4 (Cr.crc t) ++ (t ++ r)).drop (4 + t.length) = r := by rw [← List.drop_drop, e2, List.drop_left]
  rw [if_neg (by simp; omega), e1, e2, e3, Nm.val8_wid, if_pos (Nat.mod_eq_of_lt (by have := Cr.crc_lt t; omega)), e4]
theorem row1_some {l t r : List UInt8} (h : row1 l = some (t, r)) : t.length < Nm.top ∧ l = row t ++ r := by
  unfold row1 at h
  obtain ⟨⟨n, l1⟩, h1, h2⟩ := Option.bind_eq_some_iff.1 h
  simp only [] at h2
  obtain ⟨hn, rfl⟩ := (rdV_iff _ _ _).1 h1
  split at h2
  · cases h2
  · rename_i hl
    split at h2
    · rename_i hc
      simp only [Option.some.injEq, Prod.mk.injEq] at h2
      obtain ⟨rfl, rfl⟩ := h2
      have hlen : ((l1.drop 4).take n).length = n := by rw [List.length_take, List.length_drop]; omega
      refine ⟨by rw [hlen]; exact hn, ?_⟩
      have hw : Nm.wid 4 (Cr.crc ((l1.drop 4).take n)) = l1.take 4 := by
        refine val8_inj _ _ ?_ ?_
        · rw [Nm.wid_length, List.length_take]; omega
        · rw [Nm.val8_wid, hc]
          exact Nat.mod_eq_of_lt (by have := Cr.crc_lt ((l1.drop 4).take n); omega)
      unfold row
      rw [hlen, hw]
      have : l1 = l1.take 4 ++ ((l1.drop 4).take n ++ l1.drop (4 + n)) := by
        rw [← List.drop_drop, List.take_append_drop, List.take_append_drop]
      conv => lhs; rw [this]
      simp
    · cases h2
theorem row1_iff (l t r : List UInt8) : row1 l = some (t, r) ↔ t.length < Nm.top ∧ l = row t ++ r := ⟨row1_some, fun ⟨h1, h2⟩ => by rw [h2]; exact row1_row h1 r⟩
theorem row_inj {s t q : List UInt8} (hs : s.length < Nm.top) (ht : t.length < Nm.top) (h : row t = row s ++ q) : s = t ∧ q = [] := by
  have h1 := row1_row ht []
  have h2 := row1_row hs q
  rw [List.append_nil, h, h2] at h1
  simp only [Option.some.injEq, Prod.mk.injEq] at h1
  exact h1
theorem row1_cut {t p : List UInt8} (ht : t.length < Nm.top) (hp : p <+: row t) (hne : p ≠ row t) : row1 p = none := by
  cases h : row1 p with
  | none => rfl
  | some x =>
    obtain ⟨s, r⟩ := x
    obtain ⟨h1, rfl⟩ := row1_some h
    obtain ⟨q, hq⟩ := hp
    rw [List.append_assoc] at hq
    obtain ⟨rfl, h3⟩ := row_inj h1 ht hq.symm
    exfalso
    obtain ⟨h4, _⟩ := List.append_eq_nil_iff.1 h3
    exact hne (by rw [h4, List.append_nil])
theorem row_len (t : List UInt8) : 5 ≤ (row t).length := by
  unfold row
  rw [List.length_append, List.length_append, Nm.wid_length, Nm.grp_length]; omega
def rowsF : Nat → List UInt8 → List (List UInt8)
  | 0, _ => []
  | f + 1, l => match row1 l with
    | none => []
    | some (t, r) => t :: rowsF f r
def rows (l : List UInt8) : List (List UInt8) := rowsF (l.length + 1) l
theorem rowsF_more : ∀ (f g : Nat) (l : List UInt8), l.length < f → l.length < g → rowsF f l = rowsF g l
  | 0, _, _, h, _ => by omega
  | _ + 1, 0, _, _, h => by omega
  | f + 1, g + 1, l, h1, h2 => by
    unfold rowsF
    cases h : row1 l with
    | none => rfl
    | some x =>
      obtain ⟨t, r⟩ := x
      obtain ⟨_, rfl⟩ := row1_some h
      have := row_len t
      rw [List.length_append] at h1 h2
      simp only []
      rw [rowsF_more f g r (by omega) (by omega)]
theorem rows_cons {t : List UInt8} (ht : t.length < Nm.top) (r : List UInt8) : rows (row t ++ r) = t :: rows r := by
  unfold rows
  have h1 : rowsF ((row t ++ r).length + 1) (row t ++ r) = t :: rowsF ((row t ++ r).length) r := by
    show (match row1 (row t ++ r) with | none => [] | some (t, r') => t :: rowsF _ r') = _
    rw [row1_row ht r]
  have := row_len t
  rw [h1, rowsF_more _ (r.length + 1) r (by rw [List.length_append]; omega) (by omega)]
theorem rows_none {l : List UInt8} (h : row1 l = none) : rows l = [] := by
  unfold rows rowsF
  rw [h]
def all (T : List (List UInt8)) : List UInt8 := (T.map row).flatten
theorem rows_all {T : List (List UInt8)} (hT : ∀ t ∈ T, t.length < Nm.top) {p : List UInt8} (hp : row1 p = none) : rows (all T ++ p) = T := by
  induction T with
  | nil => exact rows_none hp
  | cons t T ih =>
    have e : all (t :: T) ++ p = row t ++ (all T ++ p) := by simp [all]
    rw [e, rows_cons (hT t (List.mem_cons_self ..)), ih fun s hs => hT s (List.mem_cons_of_mem _ hs)]
theorem row1_nil : row1 [] = none := by
  cases h : row1 [] with
  | none => rfl
  | some x =>
    obtain ⟨t, r⟩ := x
    obtain ⟨_, h2⟩ := row1_some h
    have := row_len t
    have h3 := congrArg List.length h2
    rw [List.length_append] at h3
    simp at h3; omega
/-! ### Heads -/
def headT (b s : Nat) : List UInt8 := one 1 ++ (Nm.grp b ++ Nm.grp s)
def headP (t : List UInt8) : Option (Nat × Nat) :=
  (rdB t).bind fun (k, l) => if k = 1 then (rdV l).bind fun (b, l) => (rdV l).bind fun (s, l) => if l = [] then some (b, s) else none else none
theorem head_iff (t : List UInt8) (b s : Nat) : headP t = some (b, s) ↔ (b < Nm.top ∧ s < Nm.top) ∧ t = headT b s := by
  unfold headP headT
  constructor
  · intro h
    obtain ⟨⟨k, l⟩, h1, g1⟩ := Option.bind_eq_some_iff.1 h
    simp only [] at g1
    obtain ⟨_, rfl⟩ := (rdB_iff _ _ _).1 h1
    split at g1
    · rename_i hk
      subst hk
      obtain ⟨⟨b', l1⟩, h2, g2⟩ := Option.bind_eq_some_iff.1 g1
      simp only [] at g2
      obtain ⟨hb, rfl⟩ := (rdV_iff _ _ _).1 h2
      obtain ⟨⟨s', l2⟩, h3, g3⟩ := Option.bind_eq_some_iff.1 g2
      simp only [] at g3
      obtain ⟨hs, rfl⟩ := (rdV_iff _ _ _).1 h3
      split at g3
      · rename_i hl
        subst hl
        simp only [Option.some.injEq, Prod.mk.injEq] at g3
        obtain ⟨rfl, rfl⟩ := g3
        exact ⟨⟨hb, hs⟩, by simp⟩
      · cases g3
    · cases g1
  · rintro ⟨⟨hb, hs⟩, rfl⟩
    rw [(rdB_iff _ _ _).2 ⟨by omega, rfl⟩, Option.bind_some]
    simp only [if_true]
    rw [(rdV_iff _ _ _).2 ⟨hb, rfl⟩, Option.bind_some]
    simp only []
    have := (rdV_iff (Nm.grp s) s []).2 ⟨hs, by simp⟩
    rw [this, Option.bind_some]
    simp
/-! ### Records -/
structure R where
  kind : Nat
  trm : Nat
  vote : Nat
  ent : En.E
instance : DecidableEq En.E := fun a b => decidable_of_iff (a.idx = b.idx ∧ a.trm = b.trm ∧ a.kind = b.kind ∧ a.slot = b.slot ∧ a.tok = b.tok ∧ a.body = b.body)
  ⟨fun h => by cases a; cases b; simp at h; obtain ⟨rfl, rfl, rfl, rfl, rfl, rfl⟩ := h; rfl, fun h => by subst h; exact ⟨rfl, rfl, rfl, rfl, rfl, rfl⟩⟩
structure Fits (r : R) : Prop where
  kind : r.kind < 256
  trm : r.trm < Nm.top
  vote : r.vote < 256
  ent : En.Fits r.ent
  body : r.ent.body.size < Nm.top
def right (r : R) : Bool := if r.kind = 2 then decide (r.ent = En.zero) else decide (r.kind = 3) && (decide (r.trm = 0) && (decide (r.vote = 0) && En.may r.ent))
def text (r : R) : List UInt8 := if r.kind = 2 then one 2 ++ (Nm.grp r.trm ++ one r.vote) else one 3 ++ En.write r.ent
def record (s : List UInt8) : Option R :=
  (rdB s).bind fun (k, l) => if k = 2 then (rdV l).bind fun (n, l) => (rdB l).bind fun (v, l) => if l = [] then some ⟨2, n, v, En.zero⟩ else none
    else if k = 3 then (En.read l).bind fun e => some ⟨3, 0, 0, e⟩ else none
theorem record_text {r : R} (hf : Fits r) (hr : right r = true) : record (text r) = some r := by
  obtain ⟨k, t, v, e⟩ := r
  unfold right at hr
  unfold record text
  simp only at hr ⊢
  by_cases h2 : k = 2
  · subst h2
    rw [if_pos rfl] at hr ⊢
    have he : e = En.zero := by simpa using hr
    subst he
    rw [(rdB_iff _ _ _).2 ⟨by omega, rfl⟩, Option.bind_some]
    simp only [if_true]
    rw [(rdV_iff _ _ _).2 ⟨hf.trm, rfl⟩, Option.bind_some]
    simp only []
    rw [(rdB_iff (one v) v []).2 ⟨hf.vote, by simp⟩, Option.bind_some]
    simp
  · rw [if_neg h2] at hr ⊢
    simp only [Bool.and_eq_true, decide_eq_true_eq] at hr
    obtain ⟨rfl, rfl, rfl, hm⟩ := hr
    rw [(rdB_iff _ _ _).2 ⟨by omega, rfl⟩, Option.bind_some]
    simp only [if_true]
    have hw : En.write e = En.enc e := by unfold En.write; rw [if_pos hm]
    rw [if_neg (by omega), hw, (En.read_iff _ _).2 ⟨⟨hf.ent, hf.body⟩, hm, rfl⟩]
    rfl
/-! ### What stands in a segment -/
def recs : List (List UInt8) → List R
  | [] => []
  | t :: T => match record t with
    | some r => r :: recs T
    | none => []
def read (s : List UInt8) : Nat × List R × Bool := match rows s with
  | [] => (0, [], false)
  | t :: T => match headP t with
    | none => (0, [], false)
    | some (b, n) => (n, recs T, decide (b ≤ (recs T).length))
theorem recs_texts {l : List R} (h : ∀ r ∈ l, Fits r ∧ right r = true) : recs (l.map text) = l := by
  induction l with
  | nil => rfl
  | cons r l ih =>
    obtain ⟨h1, h2⟩ := h r (List.mem_cons_self ..)
    show (match record (text r) with | some r => r :: recs (l.map text) | none => []) = _
    rw [record_text h1 h2, ih fun x hx => h x (List.mem_cons_of_mem _ hx)]
theorem read_seg {b n : Nat} (hb : b < Nm.top) (hn : n < Nm.top) {l : List R} (h : ∀ r ∈ l, Fits r ∧ right r = true) (hl : ∀ r ∈ l, (text r).length < Nm.top) {p : List UInt8} (hp : row1 p = none) :
    read (all (headT b n :: l.map text) ++ p) = (n, l, decide (b ≤ l.length)) := by
  have hh : (headT b n).length < Nm.top := by
    have h1 := (Nm.cnt_spec b hb).2.2
    have h2 := (Nm.cnt_spec n hn).2.2
    unfold headT
    rw [List.length_append, List.length_append, Nm.grp_length, Nm.grp_length]
    simp [one, Nm.top]; omega
  unfold read
  rw [rows_all (fun t ht => by
    rcases List.mem_cons.1 ht with rfl | ht
    · exact hh
    · obtain ⟨r, hr, rfl⟩ := List.mem_map.1 ht
      exact hl r hr) hp]
  simp only []
  rw [(head_iff _ _ _).2 ⟨⟨hb, hn⟩, rfl⟩]
  simp only []
  rw [recs_texts h]
end Wl
end Go.Proofs.YtjhbpcecdhdnoaaGreatDoor
namespace Go.Proofs.YtjhbpcecdhdnoaaGreatDoor
namespace Wl
open Dk (D Fl find put okName e0 Inv)
def ba (l : List UInt8) : ByteArray := ⟨l.toArray⟩
theorem ba_data (l : List UInt8) : (ba l).data.toList = l := by simp [ba]
theorem ba_size (l : List UInt8) : (ba l).size = l.length := by rw [Lib.size_eq, ba_data]
def lay (d : D) (n : ByteArray) : List (List UInt8) → Dk.E × D
  | [] => Dk.sync d n
  | t :: T => if (Dk.append d n (ba (row t))).1 = .ok then lay (Dk.append d n (ba (row t))).2 n T else Dk.append d n (ba (row t))
def rws (T : List (List UInt8)) : List ByteArray := T.map fun t => ba (row t)
theorem rws_length (T : List (List UInt8)) : (rws T).length = T.length := by unfold rws; rw [List.length_map]
def seg (n : ByteArray) (T : List (List UInt8)) (s : Nat) : Fl := ⟨n, rws T, s, false, e0⟩
def Is (d : D) (n : ByteArray) (T : List (List UInt8)) (s : Nat) : Prop := find d.files n = some (seg n T s)
def Was (d : D) (n : ByteArray) (T : List (List UInt8)) (s : Nat) : Prop := Is d n T s ∨ (T = [] ∧ s = 0 ∧ find d.files n = none)
/-! ### A crash -/
theorem cat_rws (T : List (List UInt8)) : Dk.cat (rws T) = all T := by
  unfold Dk.cat rws all
  rw [List.map_map]
  congr 1
end Wl
end Go.Proofs.YtjhbpcecdhdnoaaGreatDoor
namespace Go.Proofs.YtjhbpcecdhdnoaaGreatDoor
namespace Wl
def wd : Nat → Nat → List UInt8
  | 0, _ => []
  | k + 1, n => wd k (n / 10) ++ [UInt8.ofNat (48 + n % 10)]
theorem wd_length : ∀ k n, (wd k n).length = k
  | 0, _ => rfl
  | k + 1, n => by unfold wd; rw [List.length_append, wd_length k]; rfl
def dig (n : Nat) : UInt8 := UInt8.ofNat (48 + n % 10)
theorem dig_toNat (n : Nat) : (dig n).toNat = 48 + n % 10 := by
  unfold dig
  rw [UInt8.toNat_ofNat']
  omega
theorem wd_succ (k n : Nat) : wd (k + 1) n = wd k (n / 10) ++ [dig n] := rfl
theorem wd_cons : ∀ k n, wd (k + 1) n = dig (n / 10 ^ k) :: wd k n
  | 0, n => by rw [wd_succ]; simp [wd]
  | k + 1, n => by
    rw [wd_succ, wd_cons k (n / 10), wd_succ k n, List.cons_append]
    congr 2
    rw [Nat.div_div_eq_div_mul, Nat.pow_succ, Nat.mul_comm]
def v10 (l : List UInt8) : Nat := l.foldl (fun v c => 10 * v + (c.toNat - 48)) 0
theorem v10_snoc (l : List UInt8) (c : UInt8) : v10 (l ++ [c]) = 10 * v10 l + (c.toNat - 48) := by simp [v10]
theorem v10_wd : ∀ k n, v10 (wd k n) = n % 10 ^ k
  | 0, n => by simp [v10, wd, Nat.mod_one]
  | k + 1, n => by
    rw [wd_succ, v10_snoc, v10_wd k, dig_toNat, Nat.pow_succ, Nat.mul_comm (10 ^ k) 10, Nat.mod_mul]
    omega
def c10F : Nat → Nat → Nat
  | 0, _ => 0
  | f + 1, n => if n = 0 then 0 else c10F f (n / 10) + 1
def c10 (n : Nat) : Nat := c10F 20 n
theorem c10F_spec : ∀ f n, n < 10 ^ f → n < 10 ^ c10F f n ∧ c10F f n ≤ f ∧ ∀ k, k < c10F f n → 10 ^ k ≤ n
  | 0, n, h => ⟨h, Nat.le_refl _, fun k hk => absurd hk (Nat.not_lt_zero k)⟩
  | f + 1, n, h => by
    unfold c10F
    split
    · rename_i h0
      subst h0
      exact ⟨by decide, Nat.zero_le _, fun k hk => absurd hk (Nat.not_lt_zero k)⟩
    · rename_i h0
      rw [Nat.pow_succ] at h
      obtain ⟨h1, h2, h3⟩ := c10F_spec f (n / 10) (by omega)
      refine ⟨by rw [Nat.pow_succ]; omega, by omega, fun k hk => ?_⟩
      cases k with
      | zero => simp; omega
      | succ k =>
        have := h3 k (by omega)
        rw [Nat.pow_succ]; omega
theorem c10_spec {n : Nat} (h : n < Nm.top) : n < 10 ^ c10 n ∧ c10 n ≤ 20 ∧ ∀ k, k < c10 n → 10 ^ k ≤ n :=
  c10F_spec 20 n (Nat.lt_of_lt_of_le h (by unfold Nm.top; decide))
def w10 (n : Nat) : Nat := max 8 (c10 n)
def nameL (n : Nat) : List UInt8 := 115 :: 101 :: 103 :: 46 :: wd (w10 n) n
theorem nameL_length (n : Nat) : (nameL n).length = 4 + w10 n := by
  show (wd (w10 n) n).length + 1 + 1 + 1 + 1 = _
  rw [wd_length]; omega
theorem w10_le {n : Nat} (h : n < Nm.top) : 8 ≤ w10 n ∧ w10 n ≤ 20 := by have := (c10_spec h).2.1; unfold w10; omega
theorem w10_val {n : Nat} (h : n < Nm.top) : v10 (wd (w10 n) n) = n := by
  rw [v10_wd]
  exact Nat.mod_eq_of_lt (Nat.lt_of_lt_of_le (c10_spec h).1 (Nat.pow_le_pow_right (by decide) (by unfold w10; omega)))
theorem wd_digs : ∀ k n, ∀ c ∈ wd k n, 48 ≤ c.toNat ∧ c.toNat ≤ 57
  | 0, n, c, h => by cases h
  | k + 1, n, c, h => by
    rw [wd_succ] at h
    rcases List.mem_append.1 h with h | h
    · exact wd_digs k _ c h
    · rw [List.mem_singleton.1 h, dig_toNat]; omega
theorem nameL_of {s : List UInt8} {n : Nat} (hn : n < Nm.top) (h : nameL n = s) : v10 (s.drop 4) = n ∧ (∀ c ∈ s.drop 4, 48 ≤ c.toNat ∧ c.toNat ≤ 57) ∧ 12 ≤ s.length ∧ s.length ≤ 24 := by
  subst h
  refine ⟨w10_val hn, wd_digs _ _, ?_, ?_⟩ <;> rw [nameL_length] <;> have := w10_le hn <;> omega
def name (n : Nat) : ByteArray := ⟨(nameL n).toArray⟩
theorem name_size {n : Nat} (h : n < Nm.top) : 12 ≤ (name n).size ∧ (name n).size ≤ 24 := by
  have h1 : (name n).size = (nameL n).length := by simp [name, ByteArray.size]
  rw [h1, nameL_length]
  have := w10_le h
  omega
end Wl
end Go.Proofs.YtjhbpcecdhdnoaaGreatDoor
namespace Go.Proofs.YtjhbpcecdhdnoaaGreatDoor
namespace Wl
open Dk (D Fl find put okName e0 Inv)
inductive Er where
  | of (e : Dk.E)
  | there
  deriving DecidableEq
def segT (b snap : Nat) (l : List R) : List (List UInt8) := headT b snap :: l.map text
def begins (d : D) (n snap : Nat) (l : List R) : Er × D :=
  if d.off then (.of .down, d) else if (find d.files (name n)).isSome then (.there, d) else if l.all right = false then (.of .arg, d)
  else (.of (lay d (name n) (segT l.length snap l)).1, (lay d (name n) (segT l.length snap l)).2)
def add (d : D) (n : Nat) (l : List R) : Dk.E × D :=
  if d.off then (.down, d) else if l.all right = false then (.arg, d) else if l.isEmpty then (.ok, d) else lay d (name n) (l.map text)
def readD (d : D) (n : Nat) : (Nat × List R × Bool) × Dk.E :=
  if (Dk.read d (name n)).2 = .ok then (read (Dk.read d (name n)).1, .ok) else ((0, [], false), (Dk.read d (name n)).2)
def Good (l : List R) : Prop := ∀ r ∈ l, (Fits r ∧ right r = true) ∧ (text r).length < Nm.top
theorem Good.all {l : List R} (h : Good l) : l.all right = true := List.all_eq_true.2 fun r hr => (h r hr).1.2
theorem Good.sub {l m : List R} (h : Good l) (k : ∀ r ∈ m, r ∈ l) : Good m := fun r hr => h r (k r hr)
theorem head_len {b n : Nat} (hb : b < Nm.top) (hn : n < Nm.top) : (headT b n).length < Nm.top := by
  have h1 := (Nm.cnt_spec b hb).2.2
  have h2 := (Nm.cnt_spec n hn).2.2
  unfold headT
  rw [List.length_append, List.length_append, Nm.grp_length, Nm.grp_length]
  simp [Cm.one, Nm.top]; omega
theorem segT_len {b snap : Nat} (hb : b < Nm.top) (hs : snap < Nm.top) {l : List R} (h : Good l) : ∀ t ∈ segT b snap l, t.length < Nm.top := by
  intro t ht
  rcases List.mem_cons.1 ht with rfl | ht
  · exact head_len hb hs
  · obtain ⟨r, hr, rfl⟩ := List.mem_map.1 ht
    exact (h r hr).2
theorem segT_length (b snap : Nat) (l : List R) : (segT b snap l).length = l.length + 1 := by simp [segT]
theorem add_nil {d : D} (ho : d.off = false) (n : Nat) : add d n [] = (.ok, d) := by
  unfold add; rw [ho]; rfl
theorem read_none {p : List UInt8} (h : row1 p = none) : read p = (0, [], false) := by
  unfold read; rw [rows_none h]
/-! ### Numbers of records alone -/
end Wl
end Go.Proofs.YtjhbpcecdhdnoaaGreatDoor
