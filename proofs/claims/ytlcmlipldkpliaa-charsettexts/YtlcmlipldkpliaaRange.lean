/- DERIVED. Walks: Range, by the program and by the document. -/
import Derived.Test.YtlcmlipldkpliaaClass
import Derived.Test.YtlcmlipldkpliaaFromTo
namespace Go.Proofs.Ytlcmlipldkpliaa
open Go.RowKit

/-- Is lo to hi a span of bytes? -/
def spanB (lo hi : Int) : Bool := decide (0 ≤ lo) && (decide (lo ≤ hi) && decide (hi ≤ 255))
theorem spanB_yes {lo hi : Int} (h : spanB lo hi = true) : 0 ≤ lo ∧ lo ≤ hi ∧ hi ≤ 255 := by simpa [spanB] using h
theorem spanB_no {lo hi : Int} (h : spanB lo hi = false) : ¬ (0 ≤ lo ∧ lo ≤ hi ∧ hi ≤ 255) := by
  intro h2; have : spanB lo hi = true := by simpa [spanB] using h2
  rw [this] at h; cases h
def byteB (b : Int) : Bool := decide (0 ≤ b) && decide (b ≤ 255)
theorem isByteB_any (b : Int) (w : World) :
    Calls Try.prog 54 #[.int .i64 b] w fun e w' => e = .returned (.bool (byteB b)) ∧ w' = w := isByte_any b w

set_option maxHeartbeats 400000 in
theorem spanOf_any (lo hi : Int) (w : World) :
    Calls Try.prog 57 #[.int .i64 lo, .int .i64 hi] w fun e w' => e = .returned (.bool (spanB lo hi)) ∧ w' = w := by
  cases hb : byteB lo
  · have HE : Hid (spanB lo hi = false) := (by
      simp only [byteB, Bool.and_eq_false_iff, decide_eq_false_iff_not] at hb
      show spanB lo hi = false
      cases h : spanB lo hi with
      | false => rfl
      | true => have := spanB_yes h; omega)
    go_enter Try.func57, Try.ntmps57
    go_wp2_with (go_at_call 54; refine (isByteB_any _ _).mono ?_; rintro e w' ⟨rfl, rfl⟩)
    go_ret
    exact ⟨ret_bool HE.out.symm, rfl⟩
  · cases hc : byteB hi
    · have HE : Hid (spanB lo hi = false) := (by
        simp only [byteB, Bool.and_eq_false_iff, decide_eq_false_iff_not] at hc
        show spanB lo hi = false
        cases h : spanB lo hi with
        | false => rfl
        | true => have := spanB_yes h; omega)
      go_enter Try.func57, Try.ntmps57
      go_wp2_with (go_at_call 54; refine (isByteB_any _ _).mono ?_; rintro e w' ⟨rfl, rfl⟩)
      go_ret
      exact ⟨ret_bool HE.out.symm, rfl⟩
    · have HE : Hid (spanB lo hi = decide (lo ≤ hi)) := (by
        simp only [byteB, Bool.and_eq_true, decide_eq_true_eq] at hb hc
        show spanB lo hi = decide (lo ≤ hi)
        simp [spanB, hb, hc])
      go_enter Try.func57, Try.ntmps57
      go_wp2_with (go_at_call 54; refine (isByteB_any _ _).mono ?_; rintro e w' ⟨rfl, rfl⟩)
      go_ret
      exact ⟨ret_bool HE.out.symm, rfl⟩

abbrev spv (lo hi : Int) : Value := .agg #[.int .i64 lo, .int .i64 hi]

set_option maxHeartbeats 400000 in
theorem isSpan_any (lo hi : Int) (w : World) :
    Calls Try.prog 59 #[spv lo hi] w fun e w' => e = .returned (.bool (spanB lo hi)) ∧ Below w.heap.size w w' := by
  by_cases h0 : 0 ≤ lo
  · have d0 : decide (0 ≤ lo) = true := by simpa using h0
    by_cases h1 : lo ≤ hi
    · have d1 : decide (lo ≤ hi) = true := by simpa using h1
      have HE : Hid (spanB lo hi = decide (hi ≤ 255)) := (by show spanB lo hi = _; simp [spanB, h0, h1])
      go_enter Try.func59, Try.ntmps59
      go_wp2
      go_ret
      exact ⟨ret_bool HE.out.symm, below1 _ _⟩
    · have d1 : decide (lo ≤ hi) = false := by simpa using h1
      have HE : Hid (spanB lo hi = false) := (by show spanB lo hi = _; simp [spanB, d1])
      go_enter Try.func59, Try.ntmps59
      go_wp2
      go_ret
      exact ⟨ret_bool HE.out.symm, below1 _ _⟩
  · have d0 : decide (0 ≤ lo) = false := by simpa using h0
    have HE : Hid (spanB lo hi = false) := (by show spanB lo hi = _; simp [spanB, d0])
    go_enter Try.func59, Try.ntmps59
    go_wp2
    go_ret
    exact ⟨ret_bool HE.out.symm, below1 _ _⟩

theorem put4_below' {B : Nat} {w w' : World} {b : Nat} (h : Below B w w') (hb : B ≤ b) (y : BitVec 256) : Below B w (put4 w' b y) :=
  (((h.setCell hb _).setCell hb _).setCell hb _).setCell hb _
/-- What Range answers. -/
def rng (lo hi : Int) : BitVec 256 × Int := if spanB lo hi then (spn lo hi, 0) else (0#256, 1)

set_option maxHeartbeats 400000 in
theorem range_any (lo hi : Int) (w : World) :
    Calls Try.prog 22 #[.int .i64 lo, .int .i64 hi] w fun e w' => e = .returned (.tuple #[sv (rng lo hi).1, .int .i64 (rng lo hi).2]) ∧ Below w.heap.size w w' := by
  have HH := (show Hid _ from Holds.zero w)
  have HR := (show Hid _ from below1 w z4)
  cases hs : spanB lo hi
  · have HE : Hid (rng lo hi = (0#256, 1)) := (by show rng lo hi = _; unfold rng; rw [hs]; rfl)
    go_enter Try.func22, Try.ntmps22
    go_wp2_with fail
    refine (spanOf_any _ _ _).mono ?_
    rintro e w1 ⟨rfl, rfl⟩
    have HR1 := HR
    go_wp2
    rw [HE.out]
    refine bodyPost_ret (v := .tuple #[sv 0#256, .int .i64 1]) (by simp [results, Try.results22, go_sem, wd_zero, *]) rfl ⟨rfl, ?_⟩
    repeat (first | exact HR1.out | (refine Below.setCell ?_ (by first | omega | (simp <;> omega)) _))
  · have HE : Hid (rng lo hi = (spn lo hi, 0)) := (by show rng lo hi = _; unfold rng; rw [hs]; rfl)
    obtain ⟨h0, h1, h2⟩ := spanB_yes hs
    go_enter Try.func22, Try.ntmps22
    go_wp2_with fail
    refine (spanOf_any _ _ _).mono ?_
    rintro e w1 ⟨rfl, rfl⟩
    go_wp2_with fail
    refine (fill0_any lo hi _ h0 h1 h2).mono ?_
    rintro e w2 ⟨rfl, hb⟩
    have HR2 := (show Hid _ from HR.out.trans (hb.mono (by simp)))
    obtain ⟨l0, c0, c1, c2, c3, f0, f1, f2, f3⟩ := HH.out.below hb (by simp)
    clear hb
    generalize spn lo hi = r at *
    go_wp2
    rw [HE.out]
    exact bodyPost_ret (v := .tuple #[sv r, .int .i64 0]) (by simp [results, Try.results22, go_sem, *]) rfl ⟨rfl, put4_below' HR2.out (Nat.le_refl _) _⟩

set_option maxHeartbeats 400000 in
theorem rangeR_any (lo hi : Int) (w : World) :
    Calls Try.prog 23 #[.int .i64 lo, .int .i64 hi] w fun e w' => e = .returned (.tuple #[sv (rng lo hi).1, .int .i64 (rng lo hi).2]) ∧ Below w.heap.size w w' := by
  have HH := (show Hid _ from Holds.zero w)
  have HR := (show Hid _ from below1 w z4)
  cases hs : spanB lo hi
  · have HE : Hid (rng lo hi = (0#256, 1)) := (by show rng lo hi = _; unfold rng; rw [hs]; rfl)
    go_enter Try.func23, Try.ntmps23
    go_wp2_with fail
    refine (isSpan_any _ _ _).mono ?_
    rintro e w1 ⟨rfl, hb⟩
    have HR1 := (show Hid _ from HR.out.trans (hb.mono (by simp)))
    obtain ⟨l0, c0, c1, c2, c3, f0, f1, f2, f3⟩ := HH.out.below hb (by simp)
    clear hb
    go_wp2
    rw [HE.out]
    refine bodyPost_ret (v := .tuple #[sv 0#256, .int .i64 1]) (by simp [results, Try.results23, go_sem, wd_zero, *]) rfl ⟨rfl, ?_⟩
    repeat (first | exact HR1.out | (refine Below.setCell ?_ (by first | omega | (simp <;> omega)) _))
  · have HE : Hid (rng lo hi = (spn lo hi, 0)) := (by show rng lo hi = _; unfold rng; rw [hs]; rfl)
    obtain ⟨h0, h1, h2⟩ := spanB_yes hs
    go_enter Try.func23, Try.ntmps23
    go_wp2_with fail
    refine (isSpan_any _ _ _).mono ?_
    rintro e w1 ⟨rfl, hb⟩
    have HR1 := (show Hid _ from HR.out.trans (hb.mono (by simp)))
    have HH1 := (show Hid _ from HH.out.below hb (by simp))
    have hl : w.heap.size < w1.heap.size := by have h := hb.size; simp at h; omega
    clear hb
    go_wp2_with fail
    refine (fromTo_any lo hi _ h0 h1 h2).mono ?_
    rintro e w2 ⟨rfl, hb⟩
    have HR2 := (show Hid _ from HR1.out.trans (hb.mono (by omega)))
    obtain ⟨l0, c0, c1, c2, c3, f0, f1, f2, f3⟩ := HH1.out.below hb (by omega)
    clear hb
    generalize spn lo hi = r at *
    go_wp2
    rw [HE.out]
    exact bodyPost_ret (v := .tuple #[sv r, .int .i64 0]) (by simp [results, Try.results23, go_sem, *]) rfl ⟨rfl, put4_below' HR2.out (Nat.le_refl _) _⟩
end Go.Proofs.Ytlcmlipldkpliaa
