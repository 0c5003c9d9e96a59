/- DERIVED. Walks: Range of the layer below, of a span of bytes. -/
import Derived.Test.YtiillgahnbimjaaDoorFill
import Derived.Test.YtiillgahnbimjaaDoorFromTo
namespace Go.Proofs.YtiillgahnbimjaaDoor
open Go.RowKit

theorem fill0_any (lo hi : Int) (w : World) (h0 : 0 ≤ lo) (hle : lo ≤ hi) (h1 : hi ≤ 255) :
    Calls Tryd.prog 53 #[.agg #[.int .u64 0, .int .u64 0, .int .u64 0, .int .u64 0], .int .i64 lo, .int .i64 hi] w fun e w' => e = .returned (sv (spn lo hi)) ∧ Below w.heap.size w w' := by
  have h := fill_any 0#256 lo hi w h0 hle h1
  rw [BitVec.zero_or, sv, wd_zero, wd_zero, wd_zero, wd_zero] at h
  exact h
set_option maxHeartbeats 1000000 in
theorem spanOf_yes (lo hi : Int) (w : World) (h0 : 0 ≤ lo) (hle : lo ≤ hi) (h1 : hi ≤ 255) :
    Calls Tryd.prog 52 #[.int .i64 lo, .int .i64 hi] w fun e w' => e = .returned (.bool true) ∧ w' = w := by
  have H1 : Hid (∀ w, Calls Tryd.prog 54 #[.int .i64 lo] w fun e w' => e = .returned (.bool true) ∧ w' = w) := fun w => by
    have e := isByte_any lo w
    rwa [decide_eq_true h0, decide_eq_true (show lo ≤ 255 by omega)] at e
  have H2 : Hid (∀ w, Calls Tryd.prog 54 #[.int .i64 hi] w fun e w' => e = .returned (.bool true) ∧ w' = w) := fun w => by
    have e := isByte_any hi w
    rwa [decide_eq_true (show 0 ≤ hi by omega), decide_eq_true h1] at e
  clear h0 h1
  go_enter Tryd.func52, Tryd.ntmps52
  go_wp2_with fail
  refine (H1.out _).mono ?_
  rintro e w' ⟨rfl, rfl⟩
  go_wp2_with fail
  refine (H2.out _).mono ?_
  rintro e w' ⟨rfl, rfl⟩
  go_wp2
  go_ret
  exact ⟨rfl, rfl⟩
set_option maxHeartbeats 1000000 in
theorem range_yes (lo hi : Int) (w : World) (h0 : 0 ≤ lo) (hle : lo ≤ hi) (h1 : hi ≤ 255) :
    Calls Tryd.prog 49 #[.int .i64 lo, .int .i64 hi] w fun e w' => e = .returned (.tuple #[sv (spn lo hi), .int .i64 0]) ∧ Below w.heap.size w w' := by
  have HH := (show Hid _ from Holds.zero w)
  have HR := (show Hid _ from (Below.refl w.heap.size w).alloc (Nat.le_refl _) (.cells #[.int .u64 0, .int .u64 0, .int .u64 0, .int .u64 0] 78))
  have H1 : Hid (∀ w, Calls Tryd.prog 52 #[.int .i64 lo, .int .i64 hi] w fun e w' => e = .returned (.bool true) ∧ w' = w) := fun w => spanOf_yes lo hi w h0 hle h1
  have H2 : Hid (∀ w, Calls Tryd.prog 53 #[.agg #[.int .u64 0, .int .u64 0, .int .u64 0, .int .u64 0], .int .i64 lo, .int .i64 hi] w fun e w' => e = .returned (sv (spn lo hi)) ∧ Below w.heap.size w w') := fun w => fill0_any lo hi w h0 hle h1
  generalize spn lo hi = r at *
  go_enter Tryd.func49, Tryd.ntmps49
  go_wp2_with fail
  refine (H1.out _).mono ?_
  rintro e w1 ⟨rfl, rfl⟩
  go_wp2_with fail
  refine (H2.out _).mono ?_
  rintro e w2 ⟨rfl, hb⟩
  have HR2 := (show Hid _ from HR.out.trans (hb.mono (by simp)))
  obtain ⟨l0, c0, c1, c2, c3, f0, f1, f2, f3⟩ := HH.out.below hb (by simp)
  clear hb
  go_wp2
  exact bodyPost_ret (v := .tuple #[sv r, .int .i64 0]) (by simp [results, Tryd.results49, go_sem, *]) rfl ⟨rfl, (((HR2.out.setCell (Nat.le_refl _) _).setCell (Nat.le_refl _) _).setCell (Nat.le_refl _) _).setCell (Nat.le_refl _) _⟩
end Go.Proofs.YtiillgahnbimjaaDoor
