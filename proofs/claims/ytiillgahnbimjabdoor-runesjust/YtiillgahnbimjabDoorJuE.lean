/- DERIVED. Walks: the law of just these, where there is no range. -/
import Derived.Test.YtiillgahnbimjabDoorJuD
namespace Go.Proofs.YtiillgahnbimjabDoor
open Go.RowKit

theorem shv_bad {w w' : World} {lo hi : Int} {e : Ending} (h : ShV w w' lo hi e) (hb : ¬ (0 ≤ lo ∧ lo ≤ hi ∧ hi ≤ 1114111)) : ∃ c, e = .returned (.tuple #[.slice none 0 0, .int .i64 c]) ∧ c ≠ 0 := by
  unfold ShV at h
  split at h
  · next q =>
    split at h
    · next q2 =>
      have h1 : 0 ≤ lo ∧ lo ≤ 1114111 := of_decide_eq_true q.1
      have h2 : 0 ≤ hi ∧ hi ≤ 1114111 := of_decide_eq_true q.2
      exact absurd ⟨h1.1, q2, h2.2⟩ hb
    · exact ⟨1, h, by omega⟩
  · exact ⟨30, h, by omega⟩
theorem shv_ok {w w' : World} {lo hi : Int} {e : Ending} (h : ShV w w' lo hi e) (hb : 0 ≤ lo ∧ lo ≤ hi ∧ hi ≤ 1114111) : ∃ v xs, e = .returned (.tuple #[v, .int .i64 0]) ∧ RR w' w.heap.size v (shAll lo hi) xs := by
  unfold ShV at h
  rw [if_pos ⟨bdB_t ⟨hb.1, by omega⟩, bdB_t ⟨by omega, hb.2.2⟩⟩, if_pos hb.2.1] at h
  exact h

set_option maxRecDepth 100000 in
set_option maxHeartbeats 4000000 in
theorem just_bad (lo hi : Int) (v : Value) (w : World) (hv : VB w) (hb : ¬ (0 ≤ lo ∧ lo ≤ hi ∧ hi ≤ 1114111)) :
    Calls Tryd.prog 3 #[.int .i64 lo, .int .i64 hi, v] w fun e w' => e = .returned (.bool true) ∧ Below w.heap.size w w' := by
  have HWk : Hid (Calls Tryd.prog 4 #[] w fun e w' => e = .returned (.bool true) ∧ Below w.heap.size w w') := works_any w hv
  have HS : Hid (∀ w1, Below w.heap.size w w1 → Calls Tryd.prog 5 #[.int .i64 lo, .int .i64 hi] w1 fun e w' => (∃ c, e = .returned (.tuple #[.slice none 0 0, .int .i64 c]) ∧ (c != 0) = true) ∧ Below w1.heap.size w1 w') := fun w1 b1 =>
    (shapes_any lo hi w1 (hv.below b1 hv.lt)).mono fun e w' ⟨h1, h2⟩ => ⟨by obtain ⟨c, h3, h4⟩ := shv_bad h1 hb; exact ⟨c, h3, bne_iff_ne.2 h4⟩, h2⟩
  have hcases : lo < 0 ∨ (0 ≤ lo ∧ hi < 0) ∨ (0 ≤ lo ∧ 0 ≤ hi ∧ 1114111 < lo) ∨ (0 ≤ lo ∧ 0 ≤ hi ∧ lo ≤ 1114111 ∧ 1114111 < hi) ∨ (0 ≤ lo ∧ 0 ≤ hi ∧ lo ≤ 1114111 ∧ hi ≤ 1114111 ∧ hi < lo) := by omega
  clear hb hv
  go_enter Tryd.func3, Tryd.ntmps3
  go_wp2_with fail
  refine HWk.out.mono ?_
  rintro e w1 ⟨rfl, hb1⟩
  have B1 := (show Hid _ from hb1)
  clear hb1
  go_wp2_with fail
  refine (HS.out _ B1.out).mono ?_
  rintro e w2 ⟨⟨c, rfl, hc⟩, hb2⟩
  have B2 := (show Hid (Below w.heap.size w w2) from B1.out.trans (hb2.mono B1.out.size))
  clear hb2 B1 HS HWk
  rcases hcases with h | ⟨h1, h⟩ | ⟨h1, h2, h⟩ | ⟨h1, h2, h3, h⟩ | ⟨h1, h2, h3, h4, h⟩
  · have d1 : decide (lo < 0) = true := decide_eq_true h
    clear h
    go_wp2
    go_ret
    exact ⟨rfl, B2.out⟩
  · have d1 : decide (lo < 0) = false := decide_eq_false (by omega)
    have d2 : decide (hi < 0) = true := decide_eq_true h
    clear h h1
    go_wp2
    go_ret
    exact ⟨rfl, B2.out⟩
  · have d1 : decide (lo < 0) = false := decide_eq_false (by omega)
    have d2 : decide (hi < 0) = false := decide_eq_false (by omega)
    have d3 : decide (1114111 < lo) = true := decide_eq_true h
    clear h h1 h2
    go_wp2
    go_ret
    exact ⟨rfl, B2.out⟩
  · have d1 : decide (lo < 0) = false := decide_eq_false (by omega)
    have d2 : decide (hi < 0) = false := decide_eq_false (by omega)
    have d3 : decide (1114111 < lo) = false := decide_eq_false (by omega)
    have d4 : decide (1114111 < hi) = true := decide_eq_true h
    clear h h1 h2 h3
    go_wp2
    go_ret
    exact ⟨rfl, B2.out⟩
  · have d1 : decide (lo < 0) = false := decide_eq_false (by omega)
    have d2 : decide (hi < 0) = false := decide_eq_false (by omega)
    have d3 : decide (1114111 < lo) = false := decide_eq_false (by omega)
    have d4 : decide (1114111 < hi) = false := decide_eq_false (by omega)
    have d5 : decide (hi < lo) = true := decide_eq_true h
    clear h h1 h2 h3 h4
    go_wp2
    go_ret
    exact ⟨rfl, B2.out⟩
end Go.Proofs.YtiillgahnbimjabDoor
