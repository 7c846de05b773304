/-
  The document's disk in memory: its files in a row of its own, their records' rows apart from it.
-/
import Derived.Test.YtjmnoogaffjdiaaRDkSpec
import Derived.Test.YtjmnoogaffjdiaaRDkRefM
import Derived.Test.YtjmnoogaffjdiaaRBld
import Derived.Test.YtjmnoogaffjdiaaRDkPlays
set_option linter.unusedSimpArgs false
set_option linter.unusedVariables false
namespace Go.Proofs.Ytjmnoogaffjdiaa
open Go.RowKit
/-- A file, and where its records lie. -/
structure Fx where
  f : Dk.Fl
  ra : Option Addr
  rc : Nat
def flC (x : Fx) : Array Value := #[.string x.f.name, .slice x.ra x.f.recs.length x.rc, .int .i64 (x.f.syn : Int), .bool x.f.cut, .string x.f.torn]
def fc1 (x : Fx) : List Value := (flC x).toList
def fc (xs : List Fx) : List Value := (xs.map fc1).flatten
def fls (xs : List Fx) : List Dk.Fl := xs.map (·.f)
theorem fc1_length (x : Fx) : (fc1 x).length = 5 := rfl
theorem fc_length (es : List Fx) : (fc es).length = es.length * 5 := by
  induction es with
  | nil => rfl
  | cons e es ih =>
    have h : fc (e :: es) = fc1 e ++ fc es := rfl
    rw [h, List.length_append, ih, List.length_cons, fc1_length]; omega
theorem fc_append (a b : List Fx) : fc (a ++ b) = fc a ++ fc b := by simp [fc]
theorem fc_one (x : Fx) : fc [x] = fc1 x := by simp [fc]
theorem fc_at : ∀ (es : List Fx) (i : Nat) (h : i < es.length) (j : Nat), j < 5 → (fc es)[i * 5 + j]? = (fc1 es[i])[j]?
  | e :: es, 0, _, j, hj => by
    show (fc1 e ++ fc es)[0 * 5 + j]? = _
    rw [List.getElem?_append_left (by rw [fc1_length]; omega)]
    congr 1; omega
  | e :: es, i + 1, h, j, hj => by
    have k := fc_at es i (by simpa using h) j hj
    show (fc1 e ++ fc es)[(i + 1) * 5 + j]? = _
    rw [List.getElem?_append_right (by rw [fc1_length]; omega), fc1_length]
    have e2 : (i + 1) * 5 + j - 5 = i * 5 + j := by omega
    rw [e2, k]; rfl
theorem flOne (x : Fx) : (flC x).all (·.oneCell') = true := by simp [flC, Value.oneCell']
theorem fcOne (xs : List Fx) : ∀ u ∈ fc xs, u.oneCell' = true := by
  intro u hu
  unfold fc at hu
  rw [List.mem_flatten] at hu
  obtain ⟨l, hl, hu⟩ := hu
  obtain ⟨x, _, rfl⟩ := List.mem_map.1 hl
  have := flOne x
  rw [Array.all_eq_true_iff_forall_mem] at this
  exact this u (by simpa [fc1] using hu)
theorem sizeFl (x : Fx) : (Try.prog.info? 65).map (·.size) = some (flC x).size := by
  show _ = some 5
  kernel_rfl
theorem fls_length (xs : List Fx) : (fls xs).length = xs.length := by simp [fls]
theorem fls_at (xs : List Fx) (k : Nat) (h : k < xs.length) : (fls xs)[k]'(by rw [fls_length]; exact h) = xs[k].f := by simp [fls]
/-- A slice that lies in none of these cells' block. -/
def Off (x : Fx) (g : Nat) : Prop := ∀ b off, x.f.recs ≠ [] → x.ra = some ⟨b, off, none⟩ → b ≠ g
/-- The document's disk at block p: its files lie in a row of their own, at A. -/
structure RI (W : World) (p : Nat) (xs : List Fx) (A : Option Addr) (cap : Nat) (off : Bool) (left : Nat) : Prop where
  row : W.heap[p]? = some (.cells #[.slice A xs.length cap, .bool off, .int .i64 (left : Int)] 30 (0, 0))
  own : W.ownsRow 0 65 5 (.slice A xs.length cap) xs.length (fc xs)
  lies : ∀ x ∈ xs, Lies W x.ra (sc x.f.recs)
  ap : ∀ x ∈ xs, Off x p
  av : ∀ x ∈ xs, ∀ b off, A = some ⟨b, off, none⟩ → Off x b
  pv : ∀ b off, A = some ⟨b, off, none⟩ → b ≠ p
  room : ∀ x ∈ xs, x.f.recs.length ≤ x.rc
theorem RI.lt {W : World} {p : Nat} {xs : List Fx} {A : Option Addr} {cap : Nat} {off : Bool} {left : Nat} (h : RI W p xs A cap off left) : p < W.heap.size := (Array.getElem?_eq_some_iff.1 h.row).1
/-- Its row: none, or a block. -/
theorem RI.blk {W : World} {p : Nat} {xs : List Fx} {A : Option Addr} {cap : Nat} {off : Bool} {left : Nat} (h : RI W p xs A cap off left) :
    (xs = [] ∧ A = none ∧ cap = 0) ∨ ∃ (g : Nat) (cur : Array Value), A = some ⟨g, 0, none⟩ ∧ g < W.heap.size ∧ W.heap[g]? = some (.cells cur 65 (0, 0)) ∧ (∀ (j : Nat) (u : Value), (fc xs)[j]? = some u → cur[j]? = some u) ∧ xs.length ≤ cap ∧ cap ≤ maxLen ∧ cur.size = cap * 5 := by
  rcases h.own.2 with ⟨hv, hn⟩ | ⟨g, cap', cur, hv, _, hg, h1, h2, h3, h4⟩
  · injection hv with a b c
    exact .inl ⟨List.eq_nil_of_length_eq_zero hn, a, c⟩
  · injection hv with a b c
    subst a c
    refine .inr ⟨g, cur, rfl, (Array.getElem?_eq_some_iff.1 hg).1, hg, fun j u hu => ?_, h1, h2, h3⟩
    have hc := h.own.cells (g := g) rfl j u hu
    have e : (⟨g, 0, none⟩ : Addr).add j = ⟨g, j, none⟩ := by unfold Addr.add; split <;> simp_all
    rw [e, cell_of_row W g j cur _ _ hg] at hc
    exact hc
theorem RI.cellsAt {W : World} {p : Nat} {xs : List Fx} {A : Option Addr} {cap : Nat} {off : Bool} {left : Nat} (h : RI W p xs A cap off left) (k : Nat) (hk : k < xs.length) :
    ∃ g, A = some ⟨g, 0, none⟩ ∧ g < W.heap.size ∧ W.rangeAt g (k * 5) (flC xs[k]).toList := by
  rcases h.blk with ⟨rfl, _⟩ | ⟨g, cur, hA, hlt, hg, hc, _⟩
  · simp at hk
  · refine ⟨g, hA, hlt, fun j v hv => ?_⟩
    have hj : j < 5 := (List.getElem?_eq_some_iff.1 hv).1
    rw [cell_of_row W g _ cur _ _ hg]
    refine hc _ _ ?_
    rw [fc_at xs k hk j hj]; exact hv
theorem RI.below {W W' : World} {p : Nat} {xs : List Fx} {A : Option Addr} {cap : Nat} {off : Bool} {left : Nat} (h : RI W p xs A cap off left) (hb : Below W.heap.size W W') : RI W' p xs A cap off left := by
  refine ⟨(hb.block _ h.lt).trans h.row, ?_, fun x hx => (h.lies x hx).below hb, h.ap, h.av, h.pv, h.room⟩
  exact h.own.kept ⟨hb.os, hb.tape, hb.output, hb.size, fun i hi _ => hb.block i hi⟩ (row := none) (by
    rcases h.blk with ⟨_, rfl, rfl⟩ | ⟨g, cur, rfl, _⟩ <;> simp [Value.ownBlock])
/-- What finding answers. -/
def fi (xs : List Fx) (n : ByteArray) : Int := match Dk.idx (fls xs) n with
  | some k => (k : Int)
  | none => -1
theorem beq_f {a b : ByteArray} (h : a ≠ b) : (a.toList == b.toList) = false := by
  rw [beq_eq_false_iff_ne]
  intro he
  rw [ByteArray.toList_eq, ByteArray.toList_eq] at he
  exact h (Dk.name_ext he)
set_option maxRecDepth 100000 in
set_option maxHeartbeats 2000000 in
theorem find_any (W : World) (p : Nat) (xs : List Fx) (A : Option Addr) (cap : Nat) (off : Bool) (left : Nat) (h : RI W p xs A cap off left) (n : ByteArray) (hl : xs.length ≤ 100000000) :
    Calls Try.prog 54 #[.pointer (some ⟨p, 0, none⟩), .string n] W fun e w' => e = .returned (.int .i64 (fi xs n)) ∧ W = w' := by
  have c0 : W.cell? ⟨p, 0, none⟩ = some (.slice A xs.length cap) := cell_of_row W p 0 _ _ _ h.row
  have H := Lib.hid h
  have HNone : Hid ((∀ i, (hi : i < xs.length) → xs[i].f.name ≠ n) → fi xs n = -1) := Lib.hid fun ha => by
    unfold fi
    rw [Dk.idx_all (fls xs) n fun i hi => by rw [fls_at xs i (by rwa [fls_length] at hi)]; exact ha i _]
  have HSome : Hid (∀ k, (hk : k < xs.length) → (∀ i, (hi : i < k) → (xs[i]'(by omega)).f.name ≠ n) → xs[k].f.name = n → fi xs n = (k : Int)) := Lib.hid fun k hk ha hb => by
    unfold fi
    rw [Dk.idx_take (fls xs) n k (by rw [fls_length]; exact hk) (fun i hi => by rw [fls_at xs i (by omega)]; exact ha i hi) (by rw [fls_at xs k hk]; exact hb)]
  obtain ⟨R, hR⟩ : ∃ R, R = fi xs n := ⟨_, rfl⟩
  rw [← hR] at HNone HSome ⊢
  clear h hR
  go_enter Try.func54, Try.ntmps54
  go_wp2_with fail
  go_loop [5] (fun i => ∃ k : Nat, k ≤ xs.length ∧ i = .int .i64 (k : Int) ∧ ∀ j, (hj : j < k) → (hx : j < xs.length) → xs[j].f.name ≠ n) (fun i => xs.length - (intOf i).toNat)
  case atStart => exact ⟨0, Nat.zero_le _, rfl, fun j hj => absurd hj (Nat.not_lt_zero _)⟩
  case round =>
    obtain ⟨k, hk, rfl, hne⟩ := hrel
    have HNe := Lib.hid hne
    clear hne
    by_cases hlt : k < xs.length
    · obtain ⟨g, hA, hg, hr⟩ := H.out.cellsAt k hlt
      have c1 : W.cell? ⟨g, k * 5, none⟩ = some (.string xs[k].f.name) := hr 0 _ rfl
      obtain ⟨m, hm⟩ : ∃ m, m = xs[k].f.name := ⟨_, rfl⟩
      rw [← hm] at c1
      subst hA
      clear hr
      by_cases he : m = n
      · subst he
        have E : Hid (R = (k : Int)) := Lib.hid (HSome.out k hlt (fun i hi => HNe.out i hi (by omega)) hm.symm)
        clear hm
        go_wp2_with fail
        go_ret
        exact ⟨by rw [E.out]; rfl, rfl⟩
      · have q1 := beq_f he
        have HN2 : Hid (∀ j, (hj : j < k + 1) → (hx : j < xs.length) → xs[j].f.name ≠ n) := Lib.hid fun j hj hx => by
          by_cases hjk : j = k
          · subst hjk; rw [← hm]; exact he
          · exact HNe.out j (by omega) hx
        clear hm
        go_wp2_with fail
        go_round
        case rel => exact ⟨k + 1, by omega, by go_num, HN2.out⟩
        case measure => simp [intOf]; omega
    · obtain rfl : k = xs.length := by omega
      have E : Hid (R = -1) := Lib.hid (HNone.out fun i hi => HNe.out i hi hi)
      go_wp2_with fail
      go_ret
      exact ⟨by rw [E.out]; rfl, rfl⟩
end Go.Proofs.Ytjmnoogaffjdiaa
