/- DERIVED. The law CharsetSpans, walked. -/
import Derived.Test.YtlcmlipldkpliaaFsR
import Derived.Test.YtlcmlipldkpliaaWrk
import Derived.Test.YtlcmlipldkpliaaEqs
import Derived.Test.YtlcmlipldkpliaaSpanA
namespace Go.Proofs.Ytlcmlipldkpliaa
open Go.RowKit

theorem spc_one (l : List (Int × Int)) : ∀ u ∈ spc l, u.oneCell' = true := by
  intro u hu
  unfold spc at hu
  obtain ⟨p, _, hp⟩ := List.mem_flatMap.1 hu
  simp at hp
  rcases hp with rfl | rfl <;> rfl
theorem spc_cells {w : World} {g off : Nat} {l : List (Int × Int)} (h : Cells w g off l) : ∀ j u, (spc l)[j]? = some u → w.cell? ((⟨g, off, none⟩ : Addr).add j) = some u := by
  intro j u hu
  have hj : j < l.length * 2 := by rw [← spc_len]; exact (List.getElem?_eq_some_iff.1 hu).1
  obtain ⟨k, hk⟩ : ∃ k, k = j / 2 := ⟨_, rfl⟩
  have hi : k < l.length := by omega
  rcases Nat.mod_two_eq_zero_or_one j with h2 | h2
  · obtain rfl : j = k * 2 := by omega
    rw [spc_lo l _ hi] at hu
    rw [← hu]
    rw [Addr.add_lit]; exact (h _ hi).1
  · obtain rfl : j = k * 2 + 1 := by omega
    rw [spc_hi l _ hi] at hu
    rw [← hu]
    rw [Addr.add_lit, ← Nat.add_assoc]; exact (h _ hi).2
theorem own_empty (w : World) : (w.alloc (.cells #[] 52)).ownsRow w.heap.size 52 2 (.slice (some ⟨w.heap.size, 0, none⟩) 0 0) 0 [] :=
  ⟨rfl, .inr ⟨w.heap.size, 0, #[], rfl, Nat.le_refl _, by show (w.heap.push _)[w.heap.size]? = _; simp, Nat.le_refl _, by decide, rfl, rfl⟩⟩
theorem cells_own {w : World} {base g cap n : Nat} {l : List (Int × Int)} {t : List Value} (h : w.ownsRow base 52 2 (.slice (some ⟨g, 0, none⟩) n cap) n (spc l ++ t)) (hn : l.length ≤ n) : Cells w g 0 l := fun i hi => by
  rw [show 0 + i * 2 = i * 2 from by omega]
  refine ⟨(h.cellAt (i * 2) (by omega)).trans ?_, (h.cellAt (i * 2 + 1) (by omega)).trans ?_⟩
  · rw [List.getElem?_append_left (by rw [spc_len]; omega)]; exact spc_lo l i hi
  · rw [List.getElem?_append_left (by rw [spc_len]; omega)]; exact spc_hi l i hi

theorem below_drewN2 {w W W' : World} {n : Nat} (h : Below w.heap.size w W) (hb : Below (W.drewN n).heap.size (W.drewN n) W') : Below w.heap.size w W' :=
  (Go.below_drewN h n).trans (hb.mono (Go.below_drewN h n).size)
/-- What holds of the two lists. -/
structure AtSp (w W : World) (v v' : Value) (g' : Nat) (l : List (Int × Int)) : Prop where
  ri : Reads W v' l
  rl : Reads W v l
  e0 : W.cell? ⟨g', l.length * 2, none⟩ = some (.int .i64 (-77))
  e1 : W.cell? ⟨g', l.length * 2 + 1, none⟩ = some (.int .i64 (-77))
  lt' : g' < W.heap.size
  b : Below w.heap.size w W
theorem AtSp.step {w W W' : World} {v v' : Value} {g' : Nat} {l : List (Int × Int)} (h : AtSp w W v v' g' l) (hb : Below W.heap.size W W') : AtSp w W' v v' g' l :=
  ⟨Reads.below h.ri hb (Nat.le_refl _), Reads.below h.rl hb (Nat.le_refl _), (hb.cell (p := ⟨g', l.length * 2, none⟩) h.lt').trans h.e0, (hb.cell (p := ⟨g', l.length * 2 + 1, none⟩) h.lt').trans h.e1, Nat.lt_of_lt_of_le h.lt' hb.size, h.b.trans (hb.mono h.b.size)⟩
theorem AtSp.alloc {w W : World} {v v' : Value} {g' : Nat} {l : List (Int × Int)} (h : AtSp w W v v' g' l) (o : Obj) : AtSp w (W.alloc o) v v' g' l := h.step (below1 W o)
theorem AtSp.drew {w W : World} {v v' : Value} {g' : Nat} {l : List (Int × Int)} (h : AtSp w W v v' g' l) : AtSp w W.drew v v' g' l := h.step (Below.refl _ _).drew

set_option maxRecDepth 100000 in
set_option maxHeartbeats 4000000 in
theorem spans_some (g off cap : Nat) (l : List (Int × Int)) (w : World) (hg : g < w.heap.size) (h4 : l.length * 16 + 16 ≤ 140737488355328) (hc : Cells w g off l) :
    Calls Try.prog 7 #[.slice (some ⟨g, off, none⟩) l.length cap] w fun e w' => e = .returned (.bool true) ∧ Below w.heap.size w w' := by
  obtain ⟨i0, hi, hz0, hz1, hz2⟩ := info_parts Try.info52
  have hO := own_empty w
  have hC0 : Cells (w.alloc (.cells #[] 52)) g off l := Cells.below hc (below1 w _) hg
  have HC := (show Hid _ from hc)
  have HC0 := (show Hid _ from hC0)
  have HO := (show Hid _ from hO)
  clear hc hC0 hO
  go_enter Try.func7, Try.ntmps7
  go_wp2_with (at_builtin; refine wpList_append_own _ rfl _ _ 48 rfl w.heap.size 52 i0 (.agg #[.int .i64 0, .int .i64 0]) 2 16 Try.underlying48 hi hz0 hz1 hz2 rfl (by decide) _ _ _ rfl HO.out ⟨g, off, none⟩ l.length cap (spc l) rfl (spc_len l) (spc_cells HC0.out) (spc_one l) ?c3 ?c4 ?c5 ?_)
  case c3 => unfold maxLen; omega
  case c4 => omega
  intro v1 w2 hown1 hgrow1 _
  have hown1 : w2.ownsRow w.heap.size 52 2 v1 l.length (spc l) := by simpa using hown1
  have hB2 : Below w.heap.size w w2 := (below1 w _).grown hgrow1 (by simp) (fun j e => by cases e; exact Nat.le_refl _)
  have hO1 := (show Hid _ from hown1.alloc (.cells #[.int .i64 (-77), .int .i64 (-77)] 52))
  have HB2 := (show Hid _ from hB2)
  have hs2 : w.heap.size ≤ w2.heap.size := hB2.size
  have HV1 := (show Hid _ from hown1)
  clear hown1 hgrow1 hB2 HO HC0
  go_wp2_with (at_builtin; refine wpList_append_own _ rfl _ _ 48 rfl w.heap.size 52 i0 (.agg #[.int .i64 0, .int .i64 0]) 2 16 Try.underlying48 hi hz0 hz1 hz2 rfl (by decide) _ _ _ rfl hO1.out ⟨w2.heap.size, 0, none⟩ 1 1 [.int .i64 (-77), .int .i64 (-77)] rfl rfl (cell_two_new _ _ _ _) ?d2 ?d3 ?d4 ?d5 ?_)
  case d2 => intro u hu; simp at hu; subst hu; rfl
  case d3 => unfold maxLen; omega
  case d4 => omega
  case d5 => simp; omega
  intro v2 w3 hown2 hgrow2 _
  have hown2 : w3.ownsRow w.heap.size 52 2 v2 (l.length + 1) (spc l ++ [.int .i64 (-77), .int .i64 (-77)]) := by simpa using hown2
  have hO2 : (w2.alloc (.cells #[.int .i64 (-77), .int .i64 (-77)] 52)).ownsRow w.heap.size 52 2 v1 l.length (spc l) := hO1.out
  have hle := fun j e => (hO2.lt j e).1
  have hB3 : Below w.heap.size w w3 := (HB2.out.alloc hs2 _).grown hgrow2 (by simp; omega) (fun j e => hle j e)
  have hsl : ∃ g' cap', v2 = .slice (some ⟨g', 0, none⟩) (l.length + 1) cap' ∧ l.length + 1 ≤ cap' ∧ cap' ≤ maxLen ∧ g' < w3.heap.size := by
    rcases hown2.2 with ⟨_, h0⟩ | ⟨g', cap', cur, hv, h1, h2, h3, h4, _⟩
    · omega
    · exact ⟨g', cap', hv, h3, h4, (Array.getElem?_eq_some_iff.1 h2).1⟩
  obtain ⟨g', cap', rfl, hcap, hcm, hg'⟩ := hsl
  have HI := (show Hid (Cells w3 g' 0 l) from cells_own hown2 (by omega))
  have HE := (show Hid (w3.cell? ⟨g', l.length * 2, none⟩ = some (.int .i64 (-77)) ∧ w3.cell? ⟨g', l.length * 2 + 1, none⟩ = some (.int .i64 (-77))) from (by
    refine ⟨(hown2.cellAt (l.length * 2) (by omega)).trans ?_, (hown2.cellAt (l.length * 2 + 1) (by omega)).trans ?_⟩
    · rw [List.getElem?_append_right (by rw [spc_len]; omega), spc_len]; simp
    · rw [List.getElem?_append_right (by rw [spc_len]; omega), spc_len]; simp))
  have HB3 := (show Hid _ from hB3)
  have HL := (show Hid (Cells w3 g off l) from Cells.below HC.out hB3 hg)
  have hg3 : g < w3.heap.size := Nat.lt_of_lt_of_le hg hB3.size
  unfold maxLen at hcm
  have hc1 : (l.length : Int) ≤ (cap' : Int) := by omega
  have hc2 : (l.length : Int) + 1 ≤ (cap' : Int) := by omega
  have HS := (show Hid (AtSp w w3 (.slice (some ⟨g, off, none⟩) l.length cap) (.slice (some ⟨g', 0, none⟩) l.length cap') g' l) from ⟨.inr ⟨g', 0, cap', rfl, hg', HI.out⟩, .inr ⟨g, off, cap, rfl, hg3, HL.out⟩, HE.out.1, HE.out.2, hg', hB3⟩)
  clear hown2 hgrow2 hle hB3 hO1 hO2 HV1 HB2 HC hi hz0 hz1 hz2 HI HE HL HB3 hg3 hg'
  have heq := eq24
  have heq2 := eq52
  go_wp2_with fail
  obtain ⟨x, c, hR⟩ : ∃ x c, frS l = (x, c) := ⟨_, _, rfl⟩
  have HR := (show Hid _ from hR)
  clear hR
  refine (fromSpans_any _ l _ HS.out.ri).mono ?_
  rintro e w4 ⟨rfl, hb4⟩
  replace HS := (show Hid _ from (HS.out.step hb4).alloc (c4 x))
  clear hb4
  rw [HR.out]
  dsimp only [fsV]
  go_wp2_with fail
  refine (fromSpansR_any _ l _ HS.out.rl).mono ?_
  rintro e w5 ⟨rfl, hb5⟩
  have HX := (show Hid _ from ((Holds.new w4 x).below hb5 (by simp)).alloc (c4 x))
  have HY := (show Hid _ from Holds.new w5 x)
  have hl5 : w4.heap.size < w5.heap.size := by have h := hb5.size; simp at h; omega
  replace HS := (show Hid _ from (HS.out.step hb5).alloc (c4 x))
  clear hb5
  rw [HR.out]
  dsimp only [fsV]
  have e0 := HS.out.e0
  have e1 := HS.out.e1
  have hg' := HS.out.lt'
  obtain ⟨_, c0, c1, c2, c3, f0, f1, f2, f3⟩ := HX.out
  obtain ⟨_, d0, d1, d2, d3, g0, g1, g2, g3⟩ := HY.out
  go_wp2_with fail
  refine (same_any _ _ l _ (by omega) HS.out.ri HS.out.rl).mono ?_
  rintro e w6 ⟨rfl, nq, rfl⟩
  have HB6 := (show Hid _ from HS.out.b)
  clear HS HX HY c0 c1 c2 c3 f0 f1 f2 f3 d0 d1 d2 d3 g0 g1 g2 g3
  go_wp2_with fail
  refine (works_any _).mono ?_
  rintro e w7 ⟨rfl, hb7⟩
  have HB7 := (show Hid (Below w.heap.size w w7) from below_drewN2 HB6.out hb7)
  clear hb7 HB6 e0 e1
  go_wp2_with fail
  go_ret
  exact ⟨rfl, HB7.out⟩

set_option maxRecDepth 100000 in
set_option maxHeartbeats 4000000 in
theorem spans_none (w : World) :
    Calls Try.prog 7 #[.slice none 0 0] w fun e w' => e = .returned (.bool true) ∧ Below w.heap.size w w' := by
  obtain ⟨i0, hi, hz0, hz1, hz2⟩ := info_parts Try.info52
  have hO1 := (show Hid _ from (own_empty w).alloc (.cells #[.int .i64 (-77), .int .i64 (-77)] 52))
  have hcell := cell_two_new (w.alloc (.cells #[] 52)) (.int .i64 (-77)) (.int .i64 (-77)) 52
  rw [show (w.alloc (.cells #[] 52)).heap.size = w.heap.size + 1 from by simp] at hcell
  have HC := (show Hid _ from hcell)
  clear hcell
  go_enter Try.func7, Try.ntmps7
  go_wp2_with (at_builtin; refine wpList_append_own _ rfl _ _ 48 rfl w.heap.size 52 i0 (.agg #[.int .i64 0, .int .i64 0]) 2 16 Try.underlying48 hi hz0 hz1 hz2 rfl (by decide) _ _ _ rfl hO1.out ⟨w.heap.size + 1, 0, none⟩ 1 1 [.int .i64 (-77), .int .i64 (-77)] rfl rfl HC.out ?d2 ?d3 ?d4 ?d5 ?_)
  case d2 => rfl
  case d3 => unfold maxLen; omega
  case d5 => omega
  intro v2 w3 hown2 hgrow2 _
  have hown2 : w3.ownsRow w.heap.size 52 2 v2 1 [.int .i64 (-77), .int .i64 (-77)] := by simpa using hown2
  have hO2 : ((w.alloc (.cells #[] 52)).alloc (.cells #[.int .i64 (-77), .int .i64 (-77)] 52)).ownsRow w.heap.size 52 2 (.slice (some ⟨w.heap.size, 0, none⟩) 0 0) 0 [] := (own_empty w).alloc _
  have hle := fun j e => (hO2.lt j e).1
  have hB3 : Below w.heap.size w w3 := (below2 w _ _).grown hgrow2 (by simp; omega) (fun j e => hle j e)
  have hsl : ∃ g' cap', v2 = .slice (some ⟨g', 0, none⟩) 1 cap' ∧ 1 ≤ cap' ∧ cap' ≤ maxLen ∧ g' < w3.heap.size := by
    rcases hown2.2 with ⟨_, h0⟩ | ⟨g', cap', cur, hv, h1, h2, h3, h4, _⟩
    · omega
    · exact ⟨g', cap', hv, h3, h4, (Array.getElem?_eq_some_iff.1 h2).1⟩
  obtain ⟨g', cap', rfl, hcap, hcm, hg'⟩ := hsl
  unfold maxLen at hcm
  have hc1 : (0 : Int) ≤ (cap' : Int) := by omega
  have hc2 : (1 : Int) ≤ (cap' : Int) := by omega
  have HS := (show Hid (AtSp w w3 (.slice none 0 0) (.slice (some ⟨g', 0, none⟩) 0 cap') g' []) from ⟨.inr ⟨g', 0, cap', rfl, hg', fun i hi => by simp at hi⟩, .inl ⟨rfl, rfl⟩, (hown2.cellAt 0 (by omega)).trans rfl, (hown2.cellAt 1 (by omega)).trans rfl, hg', hB3⟩)
  clear hown2 hgrow2 hle hB3 hO1 hO2 HC hi hz0 hz1 hz2 hg'
  have heq := eq24
  have heq2 := eq52
  go_wp2_with fail
  refine (fromSpans_any _ [] _ HS.out.ri).mono ?_
  rintro e w4 ⟨rfl, hb4⟩
  replace HS := (show Hid _ from (HS.out.step hb4).alloc (c4 0#256))
  clear hb4
  rw [show frS [] = (0#256, 0) from rfl]
  dsimp only [fsV]
  go_wp2_with fail
  refine (fromSpansR_any _ [] _ HS.out.rl).mono ?_
  rintro e w5 ⟨rfl, hb5⟩
  have HX := (show Hid _ from ((Holds.new w4 0#256).below hb5 (by simp)).alloc (c4 0#256))
  have HY := (show Hid _ from Holds.new w5 0#256)
  have hl5 : w4.heap.size < w5.heap.size := by have h := hb5.size; simp at h; omega
  replace HS := (show Hid _ from (HS.out.step hb5).alloc (c4 0#256))
  clear hb5
  rw [show frS [] = (0#256, 0) from rfl]
  dsimp only [fsV]
  have e0 : (w5.alloc (c4 0#256)).cell? ⟨g', 0, none⟩ = some (.int .i64 (-77)) := HS.out.e0
  have e1 : (w5.alloc (c4 0#256)).cell? ⟨g', 1, none⟩ = some (.int .i64 (-77)) := HS.out.e1
  have hg' := HS.out.lt'
  obtain ⟨_, c0, c1, c2, c3, f0, f1, f2, f3⟩ := HX.out
  obtain ⟨_, d0, d1, d2, d3, g0, g1, g2, g3⟩ := HY.out
  go_wp2_with fail
  refine (same_any _ _ [] _ (by simp) HS.out.ri HS.out.rl).mono ?_
  rintro e w6 ⟨rfl, nq, rfl⟩
  have HB6 := (show Hid _ from HS.out.b)
  clear HS HX HY c0 c1 c2 c3 f0 f1 f2 f3 d0 d1 d2 d3 g0 g1 g2 g3
  go_wp2_with fail
  refine (works_any _).mono ?_
  rintro e w7 ⟨rfl, hb7⟩
  have HB7 := (show Hid (Below w.heap.size w w7) from below_drewN2 HB6.out hb7)
  clear hb7 HB6 e0 e1
  go_wp2_with fail
  go_ret
  exact ⟨rfl, HB7.out⟩

set_option maxRecDepth 100000 in
set_option maxHeartbeats 4000000 in
theorem spans_zero (a : Addr) (cap : Nat) (w : World) :
    Calls Try.prog 7 #[.slice (some a) 0 cap] w fun e w' => e = .returned (.bool true) ∧ Below w.heap.size w w' := by
  obtain ⟨i0, hi, hz0, hz1, hz2⟩ := info_parts Try.info52
  have HO := (show Hid _ from own_empty w)
  go_enter Try.func7, Try.ntmps7
  go_wp2_with (at_builtin; refine wpList_append_own _ rfl _ _ 48 rfl w.heap.size 52 i0 (.agg #[.int .i64 0, .int .i64 0]) 2 16 Try.underlying48 hi hz0 hz1 hz2 rfl (by decide) _ _ _ rfl HO.out a 0 cap [] rfl rfl ?c1 ?c2 ?c3 ?c4 ?c5 ?_)
  intro v1 w2 hown1 hgrow1 _
  have hown1 : w2.ownsRow w.heap.size 52 2 v1 0 [] := by simpa using hown1
  have hB2 : Below w.heap.size w w2 := (below1 w _).grown hgrow1 (by simp) (fun j e => by cases e; exact Nat.le_refl _)
  have hO1 := (show Hid _ from hown1.alloc (.cells #[.int .i64 (-77), .int .i64 (-77)] 52))
  have HB2 := (show Hid _ from hB2)
  have hs2 : w.heap.size ≤ w2.heap.size := hB2.size
  have HV1 := (show Hid (w2.ownsRow w.heap.size 52 2 v1 0 []) from hown1)
  clear hown1 hgrow1 hB2 HO
  go_wp2_with (at_builtin; refine wpList_append_own _ rfl _ _ 48 rfl w.heap.size 52 i0 (.agg #[.int .i64 0, .int .i64 0]) 2 16 Try.underlying48 hi hz0 hz1 hz2 rfl (by decide) _ _ _ rfl hO1.out ⟨w2.heap.size, 0, none⟩ 1 1 [.int .i64 (-77), .int .i64 (-77)] rfl rfl (cell_two_new _ _ _ _) ?d2 ?d3 ?d4 ?d5 ?_)
  any_goals (first | rfl | (unfold maxLen; omega) | omega | (simp; omega) | (intro u hu; simp at hu; subst hu; rfl))
  intro v2 w3 hown2 hgrow2 _
  have hown2 : w3.ownsRow w.heap.size 52 2 v2 1 [.int .i64 (-77), .int .i64 (-77)] := by simpa using hown2
  have hO2 : (w2.alloc (.cells #[.int .i64 (-77), .int .i64 (-77)] 52)).ownsRow w.heap.size 52 2 v1 0 [] := HV1.out.alloc _
  have hle := fun j e => (hO2.lt j e).1
  have hB3 : Below w.heap.size w w3 := (HB2.out.alloc hs2 _).grown hgrow2 (by simp; omega) (fun j e => hle j e)
  have hsl : ∃ g' cap', v2 = .slice (some ⟨g', 0, none⟩) 1 cap' ∧ 1 ≤ cap' ∧ cap' ≤ maxLen ∧ g' < w3.heap.size := by
    rcases hown2.2 with ⟨_, h0⟩ | ⟨g', cap', cur, hv, h1, h2, h3, h4, _⟩
    · omega
    · exact ⟨g', cap', hv, h3, h4, (Array.getElem?_eq_some_iff.1 h2).1⟩
  obtain ⟨g', cap', rfl, hcap, hcm, hg'⟩ := hsl
  unfold maxLen at hcm
  have hc1 : (0 : Int) ≤ (cap' : Int) := by omega
  have hc2 : (1 : Int) ≤ (cap' : Int) := by omega
  have HS := (show Hid (AtSp w w3 (.slice none 0 0) (.slice (some ⟨g', 0, none⟩) 0 cap') g' []) from ⟨.inr ⟨g', 0, cap', rfl, hg', fun i hi => by simp at hi⟩, .inl ⟨rfl, rfl⟩, (hown2.cellAt 0 (by omega)).trans rfl, (hown2.cellAt 1 (by omega)).trans rfl, hg', hB3⟩)
  clear hown2 hgrow2 hle hB3 hO1 hO2 HV1 HB2 hi hz0 hz1 hz2 hg'
  have heq := eq24
  have heq2 := eq52
  go_wp2_with fail
  refine (fromSpans_any _ [] _ HS.out.ri).mono ?_
  rintro e w4 ⟨rfl, hb4⟩
  replace HS := (show Hid _ from (HS.out.step hb4).alloc (c4 0#256))
  clear hb4
  rw [show frS [] = (0#256, 0) from rfl]
  dsimp only [fsV]
  go_wp2_with fail
  refine (fromSpansR_empty _ _ _).mono ?_
  rintro e w5 ⟨rfl, hb5⟩
  have HX := (show Hid _ from ((Holds.new w4 0#256).below hb5 (by simp)).alloc (c4 0#256))
  have HY := (show Hid _ from Holds.new w5 0#256)
  have hl5 : w4.heap.size < w5.heap.size := by have h := hb5.size; simp at h; omega
  replace HS := (show Hid _ from (HS.out.step hb5).alloc (c4 0#256))
  clear hb5
  dsimp only [fsV]
  have e0 : (w5.alloc (c4 0#256)).cell? ⟨g', 0, none⟩ = some (.int .i64 (-77)) := HS.out.e0
  have e1 : (w5.alloc (c4 0#256)).cell? ⟨g', 1, none⟩ = some (.int .i64 (-77)) := HS.out.e1
  have hg' := HS.out.lt'
  obtain ⟨_, c0, c1, c2, c3, f0, f1, f2, f3⟩ := HX.out
  obtain ⟨_, d0, d1, d2, d3, g0, g1, g2, g3⟩ := HY.out
  go_wp2_with fail
  refine (same_none _ _ _ _ _).mono ?_
  rintro e w6 ⟨rfl, nq, rfl⟩
  have HB6 := (show Hid _ from HS.out.b)
  clear HS HX HY c0 c1 c2 c3 f0 f1 f2 f3 d0 d1 d2 d3 g0 g1 g2 g3
  go_wp2_with fail
  refine (works_any _).mono ?_
  rintro e w7 ⟨rfl, hb7⟩
  have HB7 := (show Hid (Below w.heap.size w w7) from below_drewN2 HB6.out hb7)
  clear hb7 HB6 e0 e1
  go_wp2_with fail
  go_ret
  exact ⟨rfl, HB7.out⟩

theorem spansL_any (v : Value) (l : List (Int × Int)) (w : World) (h : Reads w v l) (h4 : l.length * 16 + 16 ≤ 140737488355328) :
    Calls Try.prog 7 #[v] w fun e w' => e = .returned (.bool true) ∧ Below w.heap.size w w' := by
  rcases h with ⟨rfl, rfl⟩ | ⟨g, off, cap, rfl, hg, hc⟩
  · exact spans_none w
  · exact spans_some g off cap l w hg h4 hc
end Go.Proofs.Ytlcmlipldkpliaa
