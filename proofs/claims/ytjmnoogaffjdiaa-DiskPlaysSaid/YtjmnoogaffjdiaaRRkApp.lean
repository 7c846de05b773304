/-
  The document's disk: Append walked. First WRITTEN BY a program, then by hand.
-/
import Derived.Test.YtjmnoogaffjdiaaRRkRen
set_option linter.unusedSimpArgs false
set_option linter.unusedVariables false
namespace Go.Proofs.Ytjmnoogaffjdiaa
open Go.RowKit
theorem RI.far {W : World} {p : Nat} {xs : List Fx} {A : Option Addr} {cap : Nat} {off : Bool} {left : Nat} (h : RI W p xs A cap off left) : (∀ b o, A = some ⟨b, o, none⟩ → b ≠ W.heap.size) ∧ ∀ x ∈ xs, Off x W.heap.size := by
  refine ⟨fun b o he hb => ?_, fun x hx b o hre he hb => ?_⟩
  · rcases h.blk with ⟨_, hA, _⟩ | ⟨g, cur, hA, hlt, _⟩
    · rw [hA] at he; cases he
    · rw [hA] at he; cases he; omega
  · rcases h.lies x hx with h2 | ⟨b3, o3, h3, hl3, _⟩
    · have := sc_length x.f.recs
      rw [h2] at this
      exact hre (List.eq_nil_of_length_eq_zero this.symm)
    · rw [he] at h3
      simp only [Option.some.injEq, Addr.mk.injEq, and_true] at h3
      omega
theorem app_fin {w2 w4 : World} {p gf base m : Nat} {xs : List Fx} {A : Option Addr} {cap left : Nat} {x0 : Fx} {A' : Option Addr} {c' : Nat} {r : ByteArray} (hri : RI w2 p xs A cap false left) (hrow : w2.heap[gf]? = some (.cells (flC x0) 65 (0, 0))) (hb : Below w2.heap.size w2 w4)
    (ho : w4.ownsRow base 9 1 (.slice A' m c') m (sc (x0.f.recs ++ [r]))) (hm : m = x0.f.recs.length + 1) (hbase : w2.heap.size ≤ base) (hg : gf ≠ p) (hgA : ∀ b o, A = some ⟨b, o, none⟩ → b ≠ gf) (hgx : ∀ x ∈ xs, Off x gf) :
    (w4.setCell ⟨gf, 1, none⟩ (.slice A' m c')).heap[gf]? = some (.cells (flC ⟨{ x0.f with recs := x0.f.recs ++ [r] }, A', c'⟩) 65 (0, 0)) ∧
    RI (w4.setCell ⟨gf, 1, none⟩ (.slice A' m c')) p xs A cap false left ∧ Lies (w4.setCell ⟨gf, 1, none⟩ (.slice A' m c')) A' (sc (x0.f.recs ++ [r])) ∧
    Off ⟨{ x0.f with recs := x0.f.recs ++ [r] }, A', c'⟩ p ∧ (x0.f.recs ++ [r]).length ≤ c' ∧ Ko (fun q => q = gf) w2 (w4.setCell ⟨gf, 1, none⟩ (.slice A' m c')) ∧ (∀ b o, A' = some ⟨b, o, none⟩ → w2.heap.size ≤ b) := by
  have hgl := (Array.getElem?_eq_some_iff.1 hrow).1
  have hpl := hri.lt
  have hka : Ko (fun q => q = gf) w4 (w4.setCell ⟨gf, 1, none⟩ (.slice A' m c')) := ⟨rfl, rfl, rfl, by simp, fun q _ hn => Below.heap_setCell _ _ _ _ hn⟩
  have hA : ∀ b o, A' = some ⟨b, o, none⟩ → w2.heap.size ≤ b := fun b o he => by
    have h1 : (Value.slice A' m c').ownBlock = some b := by rw [he]; rfl
    have := (own_lt ho h1).2
    omega
  have hlen : (x0.f.recs ++ [r]).length = m := by rw [List.length_append, hm]; rfl
  refine ⟨?_, (hri.below hb).ko hka (fun h => hg h.symm) hgA (fun x hx b o hv he hs => hgx x hx b o (fun hh => hv (by rw [hh]; rfl)) he hs), (lies_own ho).ko (fun b o _ he hs => by have := hA b o he; omega) hka, fun b o _ he hbp => by
    have h1 := hA b o he
    omega, by rw [hlen]; exact own_room ho, ?_, hA⟩
  · refine (heap_setCell_same w4 gf 1 _ _ _ ((hb.block _ hgl).trans hrow)).trans ?_
    simp [flC, hm]
  · exact (Ko.bel (S := fun q => q = gf) hb).trans hka (fun _ hk => .inl hk)
set_option maxRecDepth 100000 in
set_option maxHeartbeats 8000000 in
theorem rAppend_any (W : World) (p : Nat) (xs : List Fx) (A : Option Addr) (cap : Nat) (d : Dk.D) (h : RD W p xs A cap d) (n r : ByteArray) :
    Calls Try.prog 32 #[.pointer (some ⟨p, 0, none⟩), .string n, .string r] W (RetOp p xs A W (Dk.append d n r)) := by
  have c1 : W.cell? ⟨p, 1, none⟩ = some (.bool d.off) := cell_of_row W p 1 _ _ _ h.ri.row
  have hl := h.len
  have HRt := Lib.hid (right_any W n)
  obtain ⟨R, hR⟩ : ∃ R, R = Dk.append d n r := ⟨_, rfl⟩
  rw [← hR]
  have hris := h.inv.rises
  obtain ⟨fs, off, left⟩ := d
  have hfs : fls xs = fs := h.files
  subst hfs
  have HRi := Lib.hid h.ri
  have HSame : Hid (RetOp p xs A W (R.1, ⟨fls xs, off, left⟩) (.returned (.int .i64 (eno R.1))) W) := Lib.hid ⟨rfl, xs, A, cap, HRi.out, rfl, Ko.refl _ _, fun _ _ he => .inl he, fun y hy => .inl ⟨y, hy, rfl, rfl⟩⟩
  cases off
  case true =>
    have HR : Hid (R = (.down, ⟨fls xs, true, left⟩)) := Lib.hid (by rw [hR]; rfl)
    clear h hR
    go_enter Try.func32, Try.ntmps32
    go_wp2_with fail
    go_ret
    have := HSame.out
    rw [HR.out] at this ⊢
    exact this
  by_cases hok : Dk.okName n
  case neg =>
    have HR : Hid (R = (.arg, ⟨fls xs, false, left⟩)) := Lib.hid (by rw [hR]; simp [Dk.append, hok])
    rw [decide_eq_false hok] at HRt
    clear h hR hok
    go_enter Try.func32, Try.ntmps32
    go_wp2_with fail
    refine (HRt.out).mono ?_
    rintro e w1 ⟨rfl, rfl⟩
    go_wp2_with fail
    go_ret
    have := HSame.out
    rw [HR.out] at this ⊢
    exact this
  rw [decide_eq_true hok] at HRt
  by_cases hr0 : r.size = 0
  · have HR : Hid (R = (.arg, ⟨fls xs, false, left⟩)) := Lib.hid (by rw [hR]; simp [Dk.append, hr0])
    have q0 : ((r.size : Int) == 0) = true := beq_iff_eq.2 (by omega)
    clear h hR hok hr0
    go_enter Try.func32, Try.ntmps32
    go_wp2_with fail
    refine (HRt.out).mono ?_
    rintro e w1 ⟨rfl, rfl⟩
    go_wp2_with fail
    go_ret
    have := HSame.out
    rw [HR.out] at this ⊢
    exact this
  have q0 : ((r.size : Int) == 0) = false := beq_eq_false_iff_ne.2 (by omega)
  have HRg2 : Hid (∀ x0 : Fx, (Dk.find (fls xs) n = some x0.f ∨ (Dk.find (fls xs) n = none ∧ x0.f = ⟨n, [], 0, false, Dk.e0⟩)) → R = if x0.f.cut then (.state, ⟨fls xs, false, left⟩) else if left = 1 then (.down, ⟨fls xs, true, 0⟩) else (.ok, ⟨Dk.put (fls xs) { x0.f with recs := x0.f.recs ++ [r] }, false, left - 1⟩)) := Lib.hid fun x0 hx0 => by
    rw [hR]
    rcases hx0 with hx0 | ⟨hx0, hx1⟩
    · cases hc : x0.f.cut <;> by_cases h1 : left = 1 <;> simp [Dk.append, hok, hr0, hx0, hc, Dk.goes, h1]
    · rw [hx1]; by_cases h1 : left = 1 <;> simp [Dk.append, hok, hr0, hx0, Dk.goes, h1, Dk.e0]
  have hst : (storeCells ⟨W.heap.size, 0, none⟩ (#[.string n, .slice none 0 0, .int .i64 0, .bool false, .string ⟨#[]⟩] : Array Value).toList 0).run Try.prog (W.alloc (.cells #[.string ⟨#[]⟩, .slice none 0 0, .int .i64 0, .bool false, .string ⟨#[]⟩] 65)) = .ok () (W.alloc (.cells #[.string n, .slice none 0 0, .int .i64 0, .bool false, .string ⟨#[]⟩] 65)) := storeFl ⟨⟨n, [], 0, false, ⟨#[]⟩⟩, none, 0⟩ W
  have HF := Lib.hid (find_any (W.alloc (.cells #[.string n, .slice none 0 0, .int .i64 0, .bool false, .string ⟨#[]⟩] 65)) p xs A cap false left (HRi.out.below (bnew (Below.refl _ _) _)) n hl)
  have HRow0 : Hid ((W.alloc (.cells #[.string n, .slice none 0 0, .int .i64 0, .bool false, .string ⟨#[]⟩] 65)).heap[W.heap.size]? = some (.cells #[.string n, .slice none 0 0, .int .i64 0, .bool false, .string ⟨#[]⟩] 65 (0, 0))) := Lib.hid (heap_alloc_new W _)
  have HBz0 : Hid (Below W.heap.size W (W.alloc (.cells #[.string n, .slice none 0 0, .int .i64 0, .bool false, .string ⟨#[]⟩] 65))) := Lib.hid (bnew (Below.refl _ _) _)
  have hlt9 := h.left
  have HL9 : Hid (left ≤ 9223372036854775807) := Lib.hid hlt9
  have HRis : Hid (Dk.Rises (fls xs)) := Lib.hid hris
  have HLs : Hid (∀ x ∈ xs, Dk.flLoad x.f ≤ 100000000) := Lib.hid fun x hx => (h.fl hx).2
  rcases fi_cases xs n with ⟨hf1, hf2⟩ | ⟨k, hk, hf1, hf2, _⟩
  · rw [hf1] at HF
    have HX0 := Lib.hid (HRg2.out ⟨⟨n, [], 0, false, Dk.e0⟩, none, 0⟩ (.inr ⟨hf2, rfl⟩))
    clear h hR hf1 hf2 hok hr0 hlt9 hris
    go_enter Try.func32, Try.ntmps32
    go_wp2_with fail
    refine (HRt.out).mono ?_
    rintro e w1 ⟨rfl, rfl⟩
    go_wp2_with fail
    refine (HF.out).mono ?_
    rintro e w1 ⟨rfl, rfl⟩
    go_upto_region 9 with (fail)
    refine forget (fun Wz => Below W.heap.size W Wz ∧ Wz.heap[W.heap.size]? = some (.cells #[.string n, .slice none 0 0, .int .i64 0, .bool false, .string ⟨#[]⟩] 65 (0, 0))) ⟨HBz0.out, HRow0.out⟩ ?_
    clear hst
    intro Wz hz
    have hzl := (Array.getElem?_eq_some_iff.1 hz.2).1
    have hri := HRi.out.below hz.1
    have Hz := Lib.hid hz
    have k3 := cell_of_row Wz W.heap.size 3 _ _ _ hz.2
    have HGo := Lib.hid (goes_any Wz p xs A cap left hri HL9.out)
    simp only [if_neg (show ¬ (false : Bool) = true by decide)] at HX0
    clear hz hri
    by_cases h1 : left = 1
    · rw [if_pos h1] at HX0
      rw [decide_eq_false (by simpa using h1), decide_eq_true h1] at HGo
      go_wp2_with fail
      refine (HGo.out).mono ?_
      rintro e w2 ⟨rfl, r1, r2⟩
      go_wp2_with fail
      go_ret
      rw [HX0.out]
      exact ⟨rfl, xs, A, cap, by subst h1; exact r1, rfl, (Ko.bel Hz.out.1).trans r2 (fun _ hk => .inl hk), fun _ _ he => .inl he, fun y hy => .inl ⟨y, hy, rfl, rfl⟩⟩
    rw [if_neg h1] at HX0
    rw [decide_eq_true (by simpa using h1), decide_eq_false h1] at HGo
    go_wp2_with fail
    refine (HGo.out).mono ?_
    rintro e w2 ⟨rfl, r1, r2⟩
    have hrow := r2.row (fun (h : W.heap.size = p) => by have := HRi.out.lt; omega) Hz.out.2
    have hpf : W.heap.size ≠ p := by have := HRi.out.lt; omega
    have k1 : (w2.alloc (.cells #[] 9)).cell? ⟨W.heap.size, 1, none⟩ = some (.slice none 0 0) := ((bnew (Below.refl _ _) _).cell (p := ⟨W.heap.size, 1, none⟩) (Array.getElem?_eq_some_iff.1 hrow).1).trans (cell_of_row w2 W.heap.size 1 _ _ _ hrow)
    have HR2 := Lib.hid (And.intro r1 (And.intro r2 hrow))
    obtain ⟨i0, hi, hz0, hz1, hz2⟩ := info_parts infoStr
    clear r1 r2
    go_upto_region 14 with (at_builtin; refine wpList_app_own rfl (.tmp 43) (.tmp 45) 52 rfl w2.heap.size 9 i0 (.string ⟨#[]⟩) 1 16 Try.underlying52 hi hz0 hz1 hz2 rfl (by decide) _ _ _ rfl (World.ownsRow.alloc (own_empty w2 9) _) ⟨w2.heap.size + 1, 0, none⟩ 1 1 [.string r] rfl rfl (by have := news_fl (w2.alloc (.cells #[] 9)) [.string r] 9; rw [World.size_alloc] at this; exact this) (fun u hu => by simp at hu; subst hu; rfl) (by simp only [maxLen]; omega) (by omega) (by simp only [World.size_alloc]; omega) ?_; intro v4 w4 ho4 hg4 hn4; obtain ⟨A4, c4, rfl, _⟩ := own_slice ho4; have HO4 := Lib.hid ho4; have HB4 : Hid (Below w2.heap.size w2 w4) := Lib.hid ((bnew (bnew (Below.refl _ _) _) _).grown hg4 (by simp only [World.size_alloc]; omega) (fun j hj => (own_lt (own_empty w2 9) hj).2)); have k4 := ((HB4.out.cell (p := ⟨W.heap.size, 1, none⟩) (Array.getElem?_eq_some_iff.1 hrow).1).trans (cell_of_row w2 W.heap.size 1 _ _ _ hrow)); have f4 := ((HB4.out.frozen (p := ⟨W.heap.size, 1, none⟩) (Array.getElem?_eq_some_iff.1 hrow).1).trans (frozen_of_row w2 W.heap.size 1 _ _ hrow)); clear ho4 hg4 hn4 k1)
    obtain ⟨g1, g2, g3, g4, g5, g6, g7⟩ := app_fin (x0 := ⟨⟨n, [], 0, false, Dk.e0⟩, none, 0⟩) (r := r) (m := 1) HR2.out.1 HR2.out.2.2 HB4.out (by have := HO4.out; exact this) rfl (Nat.le_refl _) hpf HRi.out.far.1 HRi.out.far.2
    have HG := Lib.hid (And.intro g1 (And.intro g6 g7))
    have HPut := Lib.hid (put_any (w4.setCell ⟨W.heap.size, 1, none⟩ (.slice A4 1 c4)) p xs A cap false (left - 1) g2 ⟨⟨n, [r], 0, false, Dk.e0⟩, A4, c4⟩ g3 g4 g5 hl)
    have HZ4 := Lib.hid (sizeFl ⟨⟨n, [r], 0, false, Dk.e0⟩, A4, c4⟩)
    have hrowy : (w4.setCell ⟨W.heap.size, 1, none⟩ (.slice A4 1 c4)).heap[W.heap.size]? = some (.cells (flC ⟨⟨n, [r], 0, false, Dk.e0⟩, A4, c4⟩) 65 (0, 0)) := g1
    have HRy := Lib.hid hrowy
    have HSb : Hid (∀ q, q < (flC ⟨⟨n, [r], 0, false, Dk.e0⟩, A4, c4⟩).size → (flC ⟨⟨n, [r], 0, false, Dk.e0⟩, A4, c4⟩)[0 + q]? = (flC ⟨⟨n, [r], 0, false, Dk.e0⟩, A4, c4⟩)[q]?) := Lib.hid fun q _ => by rw [Nat.zero_add]
    obtain ⟨Y, hY⟩ : ∃ Y, Y = flC ⟨⟨n, [r], 0, false, Dk.e0⟩, A4, c4⟩ := ⟨_, rfl⟩
    rw [← hY] at HPut HZ4 HRy HSb
    clear g1 g2 g3 g4 g5 g6 g7 hrowy hY k4 f4
    go_wp2_with (refine wpList_load_sub rfl 65 _ rfl W.heap.size 0 rfl 65 Y Y (0, 0) _ HRy.out HSb.out Try.underlying65 rfl HZ4.out ?_)
    refine (HPut.out).mono ?_
    rintro e w6 ⟨rfl, A6, cap6, p1, p2, p3⟩
    have HP := Lib.hid (And.intro p1 (And.intro p2 p3))
    clear p1 p2 p3
    go_wp2_with fail
    go_ret
    have hk2 : Ko (atP p) W w2 := (Ko.bel Hz.out.1).trans HR2.out.2.1 (fun _ hk => .inl hk)
    have hk5 : Ko (atP p) W (w4.setCell ⟨W.heap.size, 1, none⟩ (.slice A4 1 c4)) := hk2.trans HG.out.2.1 (fun q hq => .inr (by rw [hq]; exact Nat.le_refl _))
    refine ⟨by rw [HX0.out]; rfl, _, A6, cap6, by rw [HX0.out]; exact HP.out.1, by rw [HX0.out, rputX_fls, Dk.rput_eq HRis.out]; rfl, hk5.trans HP.out.2.1 (fun _ hk => .inl hk), fun b o he => .inr (Nat.le_trans hk5.size (HP.out.2.2 b o he)), fun y hy => ?_⟩
    rcases mem_rputX hy with rfl | hy
    · exact .inr fun b o _ he => Nat.le_trans hk2.size (HG.out.2.2 b o he)
    · exact .inl ⟨y, hy, rfl, rfl⟩
  · rw [hf1] at HF
    have hmem : xs[k] ∈ xs := List.getElem_mem hk
    have hx0 := HRg2.out xs[k] (.inl hf2)
    have hlx := HRi.out.lies _ hmem
    have hrl : xs[k].f.recs.length ≤ 100000000 := by have := HLs.out _ hmem; unfold Dk.flLoad at this; omega
    have q1 : decide ((0 : Int) ≤ (k : Int)) = true := by simp
    obtain ⟨g, hA, hg, hr⟩ := HRi.out.cellsAt k hk
    obtain ⟨x, hx⟩ : ∃ x, x = xs[k] := ⟨_, rfl⟩
    rw [← hx] at hr hx0 hlx hrl hmem
    have HX0' := Lib.hid hx0
    have HZ := Lib.hid (sizeFl x)
    have HOx := Lib.hid (flOne x)
    have HMem := Lib.hid hmem
    obtain ⟨⟨n0, rs, sy, ct, tn⟩, ra, rc⟩ := x
    have HRg := Lib.hid (fun j v hv => (HBz0.out.cell (p := ⟨g, k * 5 + j, none⟩) hg).trans (hr j v hv) : (W.alloc (.cells #[.string n, .slice none 0 0, .int .i64 0, .bool false, .string ⟨#[]⟩] 65)).rangeAt g (k * 5) (flC ⟨⟨n0, rs, sy, ct, tn⟩, ra, rc⟩).toList)
    have HLx := Lib.hid hlx
    simp only at HX0' HLx hrl
    unfold flC at HRg HZ HOx
    simp only at HRg HZ HOx
    have HRow1 : Hid (((W.alloc (.cells #[.string n, .slice none 0 0, .int .i64 0, .bool false, .string ⟨#[]⟩] 65)).setCells W.heap.size 0 (#[.string n0, .slice ra rs.length rc, .int .i64 (sy : Int), .bool ct, .string tn] : Array Value).toList).heap[W.heap.size]? = some (.cells #[.string n0, .slice ra rs.length rc, .int .i64 (sy : Int), .bool ct, .string tn] 65 (0, 0))) := Lib.hid ((row_setCells _ 0 _ _ HRow0.out).trans (by simp [lay]))
    have HBz1 : Hid (Below W.heap.size W ((W.alloc (.cells #[.string n, .slice none 0 0, .int .i64 0, .bool false, .string ⟨#[]⟩] 65)).setCells W.heap.size 0 (#[.string n0, .slice ra rs.length rc, .int .i64 (sy : Int), .bool ct, .string tn] : Array Value).toList)) := Lib.hid (setCells_below (Nat.le_refl _) _ _ _ HBz0.out)
    subst hA
    clear h hR hf1 hf2 hok hr0 hlt9 hris hr hx0 hlx hx hmem
    obtain ⟨X, hX⟩ : ∃ X : Array Value, X = #[.string n0, .slice ra rs.length rc, .int .i64 (sy : Int), .bool ct, .string tn] := ⟨_, rfl⟩
    have HRg : Hid ((W.alloc (.cells #[.string n, .slice none 0 0, .int .i64 0, .bool false, .string ⟨#[]⟩] 65)).rangeAt g (k * 5) X.toList) := Lib.hid (by rw [hX]; exact HRg.out)
    have HZ : Hid ((Try.prog.info? 65).map (·.size) = some X.size) := Lib.hid (by rw [hX]; exact HZ.out)
    have HOx : Hid (X.all (·.oneCell') = true) := Lib.hid (by rw [hX]; exact HOx.out)
    have HRow1 : Hid (((W.alloc (.cells #[.string n, .slice none 0 0, .int .i64 0, .bool false, .string ⟨#[]⟩] 65)).setCells W.heap.size 0 X.toList).heap[W.heap.size]? = some (.cells X 65 (0, 0))) := Lib.hid (by rw [hX]; exact HRow1.out)
    have HBz1 : Hid (Below W.heap.size W ((W.alloc (.cells #[.string n, .slice none 0 0, .int .i64 0, .bool false, .string ⟨#[]⟩] 65)).setCells W.heap.size 0 X.toList)) := Lib.hid (by rw [hX]; exact HBz1.out)
    have HSX : Hid (X.size = 5) := Lib.hid (by rw [hX]; rfl)
    have HXe := Lib.hid hX
    clear hX
    go_enter Try.func32, Try.ntmps32
    go_wp2_with fail
    refine (HRt.out).mono ?_
    rintro e w1 ⟨rfl, rfl⟩
    go_wp2_with fail
    refine (HF.out).mono ?_
    rintro e w1 ⟨rfl, rfl⟩
    have c0 : (W.alloc (.cells #[.string n, .slice none 0 0, .int .i64 0, .bool false, .string ⟨#[]⟩] 65)).cell? ⟨p, 0, none⟩ = some (.slice (some ⟨g, 0, none⟩) xs.length cap) := (HBz0.out.cell (p := ⟨p, 0, none⟩) HRi.out.lt).trans (cell_of_row W p 0 _ _ _ HRi.out.row)
    go_upto_region 9 with (first
      | (refine wpList_load_rng rfl 65 _ rfl g (k * 5) rfl X _ HRg.out Try.underlying65 rfl HZ.out ?_)
      | (refine wpList_store_sub rfl 65 _ _ rfl W.heap.size 0 rfl 65 #[.string n, .slice none 0 0, .int .i64 0, .bool false, .string ⟨#[]⟩] X rfl HRow0.out (by rw [HSX.out]; exact Nat.le_refl _) HZ.out HOx.out ?_))
    refine forget (fun Wz => Below W.heap.size W Wz ∧ Wz.heap[W.heap.size]? = some (.cells #[.string n0, .slice ra rs.length rc, .int .i64 (sy : Int), .bool ct, .string tn] 65 (0, 0))) ⟨HBz1.out, by rw [← HXe.out]; exact HRow1.out⟩ ?_
    clear hst c0
    intro Wz hz
    have hri := HRi.out.below hz.1
    have Hz := Lib.hid hz
    have k3 := cell_of_row Wz W.heap.size 3 _ _ _ hz.2
    have HGo := Lib.hid (goes_any Wz p xs (some ⟨g, 0, none⟩) cap left hri HL9.out)
    clear hz hri
    cases ct
    case true =>
      simp only [if_true] at HX0'
      go_wp2_with fail
      go_ret
      rw [HX0'.out]
      exact ⟨rfl, xs, _, cap, HRi.out.below Hz.out.1, rfl, Ko.bel Hz.out.1, fun _ _ he => .inl he, fun y hy => .inl ⟨y, hy, rfl, rfl⟩⟩
    simp only [if_neg (show ¬ (false : Bool) = true by decide)] at HX0'
    by_cases h1 : left = 1
    · rw [if_pos h1] at HX0'
      rw [decide_eq_false (by simpa using h1), decide_eq_true h1] at HGo
      go_wp2_with fail
      refine (HGo.out).mono ?_
      rintro e w2 ⟨rfl, r1, r2⟩
      go_wp2_with fail
      go_ret
      rw [HX0'.out]
      exact ⟨rfl, xs, _, cap, by subst h1; exact r1, rfl, (Ko.bel Hz.out.1).trans r2 (fun _ hk => .inl hk), fun _ _ he => .inl he, fun y hy => .inl ⟨y, hy, rfl, rfl⟩⟩
    rw [if_neg h1] at HX0'
    rw [decide_eq_true (by simpa using h1), decide_eq_false h1] at HGo
    have HX0 := Lib.hid HX0'.out
    clear HX0'
    go_wp2_with fail
    refine (HGo.out).mono ?_
    rintro e w2 ⟨rfl, r1, r2⟩
    have hpf : W.heap.size ≠ p := by have := HRi.out.lt; omega
    have hrow := r2.row (fun (h : W.heap.size = p) => hpf h) Hz.out.2
    have HR2 := Lib.hid (And.intro r1 (And.intro r2 hrow))
    have hkw : Ko (atP p) W w2 := (Ko.bel Hz.out.1).trans r2 (fun _ hk => .inl hk)
    have hl2 : Lies w2 ra (sc rs) := HLx.out.ko (fun b o hv he hs => HRi.out.ap _ HMem.out b o (fun hh => hv (by show sc rs = []; rw [show rs = [] from hh]; rfl)) he hs) hkw
    have k1 : (w2.alloc (.cells #[] 9)).cell? ⟨W.heap.size, 1, none⟩ = some (.slice ra rs.length rc) := ((bnew (Below.refl _ _) _).cell (p := ⟨W.heap.size, 1, none⟩) (Array.getElem?_eq_some_iff.1 hrow).1).trans (cell_of_row w2 W.heap.size 1 _ _ _ hrow)
    obtain ⟨i0, hi, hz0, hz1, hz2⟩ := info_parts infoStr
    cases ra
    case none =>
      obtain rfl : rs = [] := by
        rcases hl2 with h2 | ⟨b, o, h2, _⟩
        · have := sc_length rs; rw [h2] at this; exact List.eq_nil_of_length_eq_zero this.symm
        · cases h2
      have k1' : (w2.alloc (.cells #[] 9)).cell? ⟨W.heap.size, 1, none⟩ = some (.slice none 0 rc) := k1
      clear r1 r2 hkw hl2 k1
      go_upto_region 14 with (at_builtin; refine wpList_app_own rfl (.tmp 43) (.tmp 45) 52 rfl w2.heap.size 9 i0 (.string ⟨#[]⟩) 1 16 Try.underlying52 hi hz0 hz1 hz2 rfl (by decide) _ _ _ rfl (World.ownsRow.alloc (own_empty w2 9) _) ⟨w2.heap.size + 1, 0, none⟩ 1 1 [.string r] rfl rfl (by have := news_fl (w2.alloc (.cells #[] 9)) [.string r] 9; rw [World.size_alloc] at this; exact this) (fun u hu => by simp at hu; subst hu; rfl) (by simp only [maxLen]; omega) (by omega) (by simp only [World.size_alloc]; omega) ?_; intro v4 w4 ho4 hg4 hn4; obtain ⟨A4, c4, rfl, _⟩ := own_slice ho4; have HO4 := Lib.hid ho4; have HB4 : Hid (Below w2.heap.size w2 w4) := Lib.hid ((bnew (bnew (Below.refl _ _) _) _).grown hg4 (by simp only [World.size_alloc]; omega) (fun j hj => (own_lt (own_empty w2 9) hj).2)); have k4 := ((HB4.out.cell (p := ⟨W.heap.size, 1, none⟩) (Array.getElem?_eq_some_iff.1 hrow).1).trans (cell_of_row w2 W.heap.size 1 _ _ _ hrow)); have f4 := ((HB4.out.frozen (p := ⟨W.heap.size, 1, none⟩) (Array.getElem?_eq_some_iff.1 hrow).1).trans (frozen_of_row w2 W.heap.size 1 _ _ hrow)); clear ho4 hg4 hn4 k1')
      obtain ⟨g1, g2, g3, g4, g5, g6, g7⟩ := app_fin (x0 := ⟨⟨n0, [], sy, false, tn⟩, none, rc⟩) (r := r) (m := 1) HR2.out.1 HR2.out.2.2 HB4.out (by have := HO4.out; exact this) rfl (Nat.le_refl _) hpf HRi.out.far.1 HRi.out.far.2
      have HG := Lib.hid (And.intro g1 (And.intro g6 g7))
      have HPut := Lib.hid (put_any (w4.setCell ⟨W.heap.size, 1, none⟩ (.slice A4 1 c4)) p xs (some ⟨g, 0, none⟩) cap false (left - 1) g2 ⟨⟨n0, [r], sy, false, tn⟩, A4, c4⟩ g3 g4 g5 hl)
      have HZ4 := Lib.hid (sizeFl ⟨⟨n0, [r], sy, false, tn⟩, A4, c4⟩)
      have hrowy : (w4.setCell ⟨W.heap.size, 1, none⟩ (.slice A4 1 c4)).heap[W.heap.size]? = some (.cells (flC ⟨⟨n0, [r], sy, false, tn⟩, A4, c4⟩) 65 (0, 0)) := g1
      have HRy := Lib.hid hrowy
      have HSb : Hid (∀ q, q < (flC ⟨⟨n0, [r], sy, false, tn⟩, A4, c4⟩).size → (flC ⟨⟨n0, [r], sy, false, tn⟩, A4, c4⟩)[0 + q]? = (flC ⟨⟨n0, [r], sy, false, tn⟩, A4, c4⟩)[q]?) := Lib.hid fun q _ => by rw [Nat.zero_add]
      obtain ⟨Y, hY⟩ : ∃ Y, Y = flC ⟨⟨n0, [r], sy, false, tn⟩, A4, c4⟩ := ⟨_, rfl⟩
      rw [← hY] at HPut HZ4 HRy HSb
      clear g1 g2 g3 g4 g5 g6 g7 hrowy hY k4 f4
      go_wp2_with (refine wpList_load_sub rfl 65 _ rfl W.heap.size 0 rfl 65 Y Y (0, 0) _ HRy.out HSb.out Try.underlying65 rfl HZ4.out ?_)
      refine (HPut.out).mono ?_
      rintro e w6 ⟨rfl, A6, cap6, p1, p2, p3⟩
      have HP := Lib.hid (And.intro p1 (And.intro p2 p3))
      clear p1 p2 p3
      go_wp2_with fail
      go_ret
      have hk2 : Ko (atP p) W w2 := (Ko.bel Hz.out.1).trans HR2.out.2.1 (fun _ hk => .inl hk)
      have hk5 : Ko (atP p) W (w4.setCell ⟨W.heap.size, 1, none⟩ (.slice A4 1 c4)) := hk2.trans HG.out.2.1 (fun q hq => .inr (by rw [hq]; exact Nat.le_refl _))
      refine ⟨by rw [HX0.out]; rfl, _, A6, cap6, by rw [HX0.out]; exact HP.out.1, by rw [HX0.out, rputX_fls, Dk.rput_eq HRis.out]; rfl, hk5.trans HP.out.2.1 (fun _ hk => .inl hk), fun b o he => .inr (Nat.le_trans hk5.size (HP.out.2.2 b o he)), fun y hy => ?_⟩
      rcases mem_rputX hy with rfl | hy
      · exact .inr fun b o _ he => Nat.le_trans hk2.size (HG.out.2.2 b o he)
      · exact .inl ⟨y, hy, rfl, rfl⟩
    · rename_i ad
      have hsrc : ∀ j u, (sc rs)[j]? = some u → (w2.alloc (.cells #[] 9)).cell? (ad.add j) = some u := fun j u hu => by
        rcases hl2 with h2 | ⟨b, o, h2, hlt, hc⟩
        · rw [h2] at hu; cases hu
        · cases h2
          have e : (⟨b, o, none⟩ : Addr).add j = ⟨b, o + j, none⟩ := by unfold Addr.add; split <;> simp_all
          rw [e]
          exact ((bnew (Below.refl _ _) _).cell (p := ⟨b, o + j, none⟩) hlt).trans (hc j u hu)
      have Hsrc := Lib.hid hsrc
      clear r1 r2 hkw hl2 hsrc
      go_wp2_with (at_builtin; refine wpList_app_own rfl (.tmp 40) (.tmp 42) 52 rfl w2.heap.size 9 i0 (.string ⟨#[]⟩) 1 16 Try.underlying52 hi hz0 hz1 hz2 rfl (by decide) _ _ _ rfl (own_empty w2 9) ad rs.length rc (sc rs) rfl (by rw [sc_length]; omega) Hsrc.out (fun u hu => by obtain ⟨s, _, rfl⟩ := List.mem_map.1 hu; rfl) (by simp only [maxLen]; omega) (by omega) (by simp only [World.size_alloc]; omega) ?_)
      intro v3 w3 ho3 hg3 hn3
      obtain ⟨A3, c3, rfl, _⟩ := own_slice ho3
      have HO3 := Lib.hid ho3
      have HB3 : Hid (Below w2.heap.size w2 w3) := Lib.hid ((bnew (Below.refl _ _) _).grown hg3 (by simp only [World.size_alloc]; omega) (fun j hj => (own_lt (own_empty w2 9) hj).2))
      clear ho3 hg3 hn3 k1
      go_wp2_with (at_builtin; refine wpList_app_own rfl (.tmp 43) (.tmp 45) 52 rfl w2.heap.size 9 i0 (.string ⟨#[]⟩) 1 16 Try.underlying52 hi hz0 hz1 hz2 rfl (by decide) _ _ _ rfl (World.ownsRow.alloc HO3.out _) ⟨w3.heap.size, 0, none⟩ 1 1 [.string r] rfl rfl (news_fl w3 [.string r] 9) (fun u hu => by simp at hu; subst hu; rfl) (by simp only [maxLen]; omega) (by omega) (by have := HB3.out.size; simp only [World.size_alloc]; omega) ?_)
      intro v4 w4 ho4 hg4 hn4
      obtain ⟨A4, c4, rfl, _⟩ := own_slice ho4
      have HO4 := Lib.hid ho4
      have HB4 : Hid (Below w2.heap.size w2 w4) := Lib.hid ((bnew HB3.out _).grown hg4 (by have := HB3.out.size; simp only [World.size_alloc]; omega) (fun j hj => (own_lt HO3.out hj).2))
      have k4 := ((HB4.out.cell (p := ⟨W.heap.size, 1, none⟩) (Array.getElem?_eq_some_iff.1 hrow).1).trans (cell_of_row w2 W.heap.size 1 _ _ _ hrow))
      have f4 := ((HB4.out.frozen (p := ⟨W.heap.size, 1, none⟩) (Array.getElem?_eq_some_iff.1 hrow).1).trans (frozen_of_row w2 W.heap.size 1 _ _ hrow))
      clear ho4 hg4 hn4
      go_upto_region 14 with (fail)
      obtain ⟨g1, g2, g3, g4, g5, g6, g7⟩ := app_fin (x0 := ⟨⟨n0, rs, sy, false, tn⟩, some ad, rc⟩) (r := r) (m := (rs.length + 1)) HR2.out.1 HR2.out.2.2 HB4.out (by have h9 := HO4.out; rw [show sc (({ f := ⟨n0, rs, sy, false, tn⟩, ra := some ad, rc := rc } : Fx).f.recs ++ [r]) = sc rs ++ [Value.string r] by simp [sc]]; simpa using h9) rfl (Nat.le_refl _) hpf HRi.out.far.1 HRi.out.far.2
      have HG := Lib.hid (And.intro g1 (And.intro g6 g7))
      have HPut := Lib.hid (put_any (w4.setCell ⟨W.heap.size, 1, none⟩ (.slice A4 (rs.length + 1) c4)) p xs (some ⟨g, 0, none⟩) cap false (left - 1) g2 ⟨⟨n0, rs ++ [r], sy, false, tn⟩, A4, c4⟩ g3 g4 g5 hl)
      have HZ4 := Lib.hid (sizeFl ⟨⟨n0, rs ++ [r], sy, false, tn⟩, A4, c4⟩)
      have hrowy : (w4.setCell ⟨W.heap.size, 1, none⟩ (.slice A4 (rs.length + 1) c4)).heap[W.heap.size]? = some (.cells (flC ⟨⟨n0, rs ++ [r], sy, false, tn⟩, A4, c4⟩) 65 (0, 0)) := g1
      have HRy := Lib.hid hrowy
      have HSb : Hid (∀ q, q < (flC ⟨⟨n0, rs ++ [r], sy, false, tn⟩, A4, c4⟩).size → (flC ⟨⟨n0, rs ++ [r], sy, false, tn⟩, A4, c4⟩)[0 + q]? = (flC ⟨⟨n0, rs ++ [r], sy, false, tn⟩, A4, c4⟩)[q]?) := Lib.hid fun q _ => by rw [Nat.zero_add]
      obtain ⟨Y, hY⟩ : ∃ Y, Y = flC ⟨⟨n0, rs ++ [r], sy, false, tn⟩, A4, c4⟩ := ⟨_, rfl⟩
      rw [← hY] at HPut HZ4 HRy HSb
      clear g1 g2 g3 g4 g5 g6 g7 hrowy hY k4 f4
      go_wp2_with (refine wpList_load_sub rfl 65 _ rfl W.heap.size 0 rfl 65 Y Y (0, 0) _ HRy.out HSb.out Try.underlying65 rfl HZ4.out ?_)
      refine (HPut.out).mono ?_
      rintro e w6 ⟨rfl, A6, cap6, p1, p2, p3⟩
      have HP := Lib.hid (And.intro p1 (And.intro p2 p3))
      clear p1 p2 p3
      go_wp2_with fail
      go_ret
      have hk2 : Ko (atP p) W w2 := (Ko.bel Hz.out.1).trans HR2.out.2.1 (fun _ hk => .inl hk)
      have hk5 : Ko (atP p) W (w4.setCell ⟨W.heap.size, 1, none⟩ (.slice A4 (rs.length + 1) c4)) := hk2.trans HG.out.2.1 (fun q hq => .inr (by rw [hq]; exact Nat.le_refl _))
      refine ⟨by rw [HX0.out]; rfl, _, A6, cap6, by rw [HX0.out]; exact HP.out.1, by rw [HX0.out, rputX_fls, Dk.rput_eq HRis.out], hk5.trans HP.out.2.1 (fun _ hk => .inl hk), fun b o he => .inr (Nat.le_trans hk5.size (HP.out.2.2 b o he)), fun y hy => ?_⟩
      rcases mem_rputX hy with rfl | hy
      · exact .inr fun b o _ he => Nat.le_trans hk2.size (HG.out.2.2 b o he)
      · exact .inl ⟨y, hy, rfl, rfl⟩
end Go.Proofs.Ytjmnoogaffjdiaa
