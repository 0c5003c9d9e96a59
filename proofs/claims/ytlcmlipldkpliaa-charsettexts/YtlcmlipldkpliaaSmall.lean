/- DERIVED. Walks: a small letter's class, by the program. -/
import Derived.Test.YtlcmlipldkpliaaClass
import Derived.Test.YtlcmlipldkpliaaClassP
namespace Go.Proofs.Ytlcmlipldkpliaa
open Go.RowKit

set_option maxHeartbeats 400000 in
theorem small97 (w : World) :
    Calls Try.prog 62 #[.int .u8 97] w fun e w' => e = .returned (.tuple #[sv (spn 65 90 ||| spn 97 122), .int .i64 0]) ∧ Below w.heap.size w w' := by
  have HH := (show Hid _ from Holds.zero w)
  have HR := (show Hid _ from below1 w z4)
  have HQ : Hid (Below (w.heap.size + 1) (w.alloc z4) (w.alloc z4)) := Below.refl _ _
  go_enter Try.func62, Try.ntmps62
  go_wp2_with fail
  refine (letters_any _).mono ?_
  rintro e w1 ⟨rfl, hb⟩
  replace HQ := (show Hid _ from HQ.out.trans (hb.mono (by first | exact HQ.out.size | (have h := HQ.out.size; simp at h; omega) | simp)))
  have HR1 := (show Hid _ from HR.out.trans (HQ.out.mono (by omega)))
  obtain ⟨l0, c0, c1, c2, c3, f0, f1, f2, f3⟩ := HH.out.below HQ.out (by omega)
  generalize hr : spn 65 90 ||| spn 97 122 = r
  have Hr := (show Hid _ from hr)
  clear hr
  go_wp2
  exact bodyPost_ret (v := .tuple #[sv r, .int .i64 0]) (by simp [results, Try.results62, go_sem, *]) rfl ⟨by rw [Hr.out], (((HR1.out.setCell (by simp) _).setCell (by simp) _).setCell (by simp) _).setCell (by simp) _⟩

set_option maxHeartbeats 400000 in
theorem small99 (w : World) :
    Calls Try.prog 62 #[.int .u8 99] w fun e w' => e = .returned (.tuple #[sv (spn 0 31 ||| bt 127), .int .i64 0]) ∧ Below w.heap.size w w' := by
  have HH := (show Hid _ from Holds.zero w)
  have HR := (show Hid _ from below1 w z4)
  have HQ : Hid (Below (w.heap.size + 1) (w.alloc z4) (w.alloc z4)) := Below.refl _ _
  go_enter Try.func62, Try.ntmps62
  go_wp2_with fail
  refine (bytesFrom_any 0 31 _ (by omega) (by omega) (by omega)).mono ?_
  rintro e w1 ⟨rfl, hb⟩
  replace HQ := (show Hid _ from HQ.out.trans (hb.mono (by first | exact HQ.out.size | (have h := HQ.out.size; simp at h; omega) | simp)))
  go_wp2_with fail
  refine (with_any _ 127 _ (by omega) (by omega)).mono ?_
  rintro e w1 ⟨rfl, hb⟩
  replace HQ := (show Hid _ from HQ.out.trans (hb.mono (by first | exact HQ.out.size | (have h := HQ.out.size; simp at h; omega) | simp)))
  rw [show (127 : Int).toNat = 127 from rfl]
  have HR1 := (show Hid _ from HR.out.trans (HQ.out.mono (by omega)))
  obtain ⟨l0, c0, c1, c2, c3, f0, f1, f2, f3⟩ := HH.out.below HQ.out (by omega)
  generalize hr : spn 0 31 ||| bt 127 = r
  have Hr := (show Hid _ from hr)
  clear hr
  go_wp2
  exact bodyPost_ret (v := .tuple #[sv r, .int .i64 0]) (by simp [results, Try.results62, go_sem, *]) rfl ⟨by rw [Hr.out], (((HR1.out.setCell (by simp) _).setCell (by simp) _).setCell (by simp) _).setCell (by simp) _⟩

set_option maxHeartbeats 400000 in
theorem small100 (w : World) :
    Calls Try.prog 62 #[.int .u8 100] w fun e w' => e = .returned (.tuple #[sv (spn 48 57), .int .i64 0]) ∧ Below w.heap.size w w' := by
  have HH := (show Hid _ from Holds.zero w)
  have HR := (show Hid _ from below1 w z4)
  have HQ : Hid (Below (w.heap.size + 1) (w.alloc z4) (w.alloc z4)) := Below.refl _ _
  go_enter Try.func62, Try.ntmps62
  go_wp2_with fail
  refine (bytesFrom_any 48 57 _ (by omega) (by omega) (by omega)).mono ?_
  rintro e w1 ⟨rfl, hb⟩
  replace HQ := (show Hid _ from HQ.out.trans (hb.mono (by first | exact HQ.out.size | (have h := HQ.out.size; simp at h; omega) | simp)))
  have HR1 := (show Hid _ from HR.out.trans (HQ.out.mono (by omega)))
  obtain ⟨l0, c0, c1, c2, c3, f0, f1, f2, f3⟩ := HH.out.below HQ.out (by omega)
  generalize hr : spn 48 57 = r
  have Hr := (show Hid _ from hr)
  clear hr
  go_wp2
  exact bodyPost_ret (v := .tuple #[sv r, .int .i64 0]) (by simp [results, Try.results62, go_sem, *]) rfl ⟨by rw [Hr.out], (((HR1.out.setCell (by simp) _).setCell (by simp) _).setCell (by simp) _).setCell (by simp) _⟩

set_option maxHeartbeats 400000 in
theorem small103 (w : World) :
    Calls Try.prog 62 #[.int .u8 103] w fun e w' => e = .returned (.tuple #[sv (spn 33 126), .int .i64 0]) ∧ Below w.heap.size w w' := by
  have HH := (show Hid _ from Holds.zero w)
  have HR := (show Hid _ from below1 w z4)
  have HQ : Hid (Below (w.heap.size + 1) (w.alloc z4) (w.alloc z4)) := Below.refl _ _
  go_enter Try.func62, Try.ntmps62
  go_wp2_with fail
  refine (bytesFrom_any 33 126 _ (by omega) (by omega) (by omega)).mono ?_
  rintro e w1 ⟨rfl, hb⟩
  replace HQ := (show Hid _ from HQ.out.trans (hb.mono (by first | exact HQ.out.size | (have h := HQ.out.size; simp at h; omega) | simp)))
  have HR1 := (show Hid _ from HR.out.trans (HQ.out.mono (by omega)))
  obtain ⟨l0, c0, c1, c2, c3, f0, f1, f2, f3⟩ := HH.out.below HQ.out (by omega)
  generalize hr : spn 33 126 = r
  have Hr := (show Hid _ from hr)
  clear hr
  go_wp2
  exact bodyPost_ret (v := .tuple #[sv r, .int .i64 0]) (by simp [results, Try.results62, go_sem, *]) rfl ⟨by rw [Hr.out], (((HR1.out.setCell (by simp) _).setCell (by simp) _).setCell (by simp) _).setCell (by simp) _⟩

set_option maxHeartbeats 400000 in
theorem small108 (w : World) :
    Calls Try.prog 62 #[.int .u8 108] w fun e w' => e = .returned (.tuple #[sv (spn 97 122), .int .i64 0]) ∧ Below w.heap.size w w' := by
  have HH := (show Hid _ from Holds.zero w)
  have HR := (show Hid _ from below1 w z4)
  have HQ : Hid (Below (w.heap.size + 1) (w.alloc z4) (w.alloc z4)) := Below.refl _ _
  go_enter Try.func62, Try.ntmps62
  go_wp2_with fail
  refine (bytesFrom_any 97 122 _ (by omega) (by omega) (by omega)).mono ?_
  rintro e w1 ⟨rfl, hb⟩
  replace HQ := (show Hid _ from HQ.out.trans (hb.mono (by first | exact HQ.out.size | (have h := HQ.out.size; simp at h; omega) | simp)))
  have HR1 := (show Hid _ from HR.out.trans (HQ.out.mono (by omega)))
  obtain ⟨l0, c0, c1, c2, c3, f0, f1, f2, f3⟩ := HH.out.below HQ.out (by omega)
  generalize hr : spn 97 122 = r
  have Hr := (show Hid _ from hr)
  clear hr
  go_wp2
  exact bodyPost_ret (v := .tuple #[sv r, .int .i64 0]) (by simp [results, Try.results62, go_sem, *]) rfl ⟨by rw [Hr.out], (((HR1.out.setCell (by simp) _).setCell (by simp) _).setCell (by simp) _).setCell (by simp) _⟩

set_option maxHeartbeats 400000 in
theorem small112 (w : World) :
    Calls Try.prog 62 #[.int .u8 112] w fun e w' => e = .returned (.tuple #[sv (spn 33 126 &&& ~~~ (spn 65 90 ||| spn 97 122 ||| spn 48 57)), .int .i64 0]) ∧ Below w.heap.size w w' := by
  have HH := (show Hid _ from Holds.zero w)
  have HR := (show Hid _ from below1 w z4)
  have HQ : Hid (Below (w.heap.size + 1) (w.alloc z4) (w.alloc z4)) := Below.refl _ _
  go_enter Try.func62, Try.ntmps62
  go_wp2_with fail
  refine (bytesFrom_any 33 126 _ (by omega) (by omega) (by omega)).mono ?_
  rintro e w1 ⟨rfl, hb⟩
  replace HQ := (show Hid _ from HQ.out.trans (hb.mono (by first | exact HQ.out.size | (have h := HQ.out.size; simp at h; omega) | simp)))
  go_wp2_with fail
  refine (lettersDigits_any _).mono ?_
  rintro e w1 ⟨rfl, hb⟩
  replace HQ := (show Hid _ from HQ.out.trans (hb.mono (by first | exact HQ.out.size | (have h := HQ.out.size; simp at h; omega) | simp)))
  go_wp2_with fail
  refine (less_any _ _ _).mono ?_
  rintro e w1 ⟨rfl, hb⟩
  replace HQ := (show Hid _ from HQ.out.trans (hb.mono (by first | exact HQ.out.size | (have h := HQ.out.size; simp at h; omega) | simp)))
  have HR1 := (show Hid _ from HR.out.trans (HQ.out.mono (by omega)))
  obtain ⟨l0, c0, c1, c2, c3, f0, f1, f2, f3⟩ := HH.out.below HQ.out (by omega)
  generalize hr : spn 33 126 &&& ~~~ (spn 65 90 ||| spn 97 122 ||| spn 48 57) = r
  have Hr := (show Hid _ from hr)
  clear hr
  go_wp2
  exact bodyPost_ret (v := .tuple #[sv r, .int .i64 0]) (by simp [results, Try.results62, go_sem, *]) rfl ⟨by rw [Hr.out], (((HR1.out.setCell (by simp) _).setCell (by simp) _).setCell (by simp) _).setCell (by simp) _⟩

set_option maxHeartbeats 400000 in
theorem small115 (w : World) :
    Calls Try.prog 62 #[.int .u8 115] w fun e w' => e = .returned (.tuple #[sv (spn 9 13 ||| bt 32), .int .i64 0]) ∧ Below w.heap.size w w' := by
  have HH := (show Hid _ from Holds.zero w)
  have HR := (show Hid _ from below1 w z4)
  have HQ : Hid (Below (w.heap.size + 1) (w.alloc z4) (w.alloc z4)) := Below.refl _ _
  go_enter Try.func62, Try.ntmps62
  go_wp2_with fail
  refine (bytesFrom_any 9 13 _ (by omega) (by omega) (by omega)).mono ?_
  rintro e w1 ⟨rfl, hb⟩
  replace HQ := (show Hid _ from HQ.out.trans (hb.mono (by first | exact HQ.out.size | (have h := HQ.out.size; simp at h; omega) | simp)))
  go_wp2_with fail
  refine (with_any _ 32 _ (by omega) (by omega)).mono ?_
  rintro e w1 ⟨rfl, hb⟩
  replace HQ := (show Hid _ from HQ.out.trans (hb.mono (by first | exact HQ.out.size | (have h := HQ.out.size; simp at h; omega) | simp)))
  rw [show (32 : Int).toNat = 32 from rfl]
  have HR1 := (show Hid _ from HR.out.trans (HQ.out.mono (by omega)))
  obtain ⟨l0, c0, c1, c2, c3, f0, f1, f2, f3⟩ := HH.out.below HQ.out (by omega)
  generalize hr : spn 9 13 ||| bt 32 = r
  have Hr := (show Hid _ from hr)
  clear hr
  go_wp2
  exact bodyPost_ret (v := .tuple #[sv r, .int .i64 0]) (by simp [results, Try.results62, go_sem, *]) rfl ⟨by rw [Hr.out], (((HR1.out.setCell (by simp) _).setCell (by simp) _).setCell (by simp) _).setCell (by simp) _⟩

set_option maxHeartbeats 400000 in
theorem small117 (w : World) :
    Calls Try.prog 62 #[.int .u8 117] w fun e w' => e = .returned (.tuple #[sv (spn 65 90), .int .i64 0]) ∧ Below w.heap.size w w' := by
  have HH := (show Hid _ from Holds.zero w)
  have HR := (show Hid _ from below1 w z4)
  have HQ : Hid (Below (w.heap.size + 1) (w.alloc z4) (w.alloc z4)) := Below.refl _ _
  go_enter Try.func62, Try.ntmps62
  go_wp2_with fail
  refine (bytesFrom_any 65 90 _ (by omega) (by omega) (by omega)).mono ?_
  rintro e w1 ⟨rfl, hb⟩
  replace HQ := (show Hid _ from HQ.out.trans (hb.mono (by first | exact HQ.out.size | (have h := HQ.out.size; simp at h; omega) | simp)))
  have HR1 := (show Hid _ from HR.out.trans (HQ.out.mono (by omega)))
  obtain ⟨l0, c0, c1, c2, c3, f0, f1, f2, f3⟩ := HH.out.below HQ.out (by omega)
  generalize hr : spn 65 90 = r
  have Hr := (show Hid _ from hr)
  clear hr
  go_wp2
  exact bodyPost_ret (v := .tuple #[sv r, .int .i64 0]) (by simp [results, Try.results62, go_sem, *]) rfl ⟨by rw [Hr.out], (((HR1.out.setCell (by simp) _).setCell (by simp) _).setCell (by simp) _).setCell (by simp) _⟩

set_option maxHeartbeats 400000 in
theorem small119 (w : World) :
    Calls Try.prog 62 #[.int .u8 119] w fun e w' => e = .returned (.tuple #[sv (spn 65 90 ||| spn 97 122 ||| spn 48 57), .int .i64 0]) ∧ Below w.heap.size w w' := by
  have HH := (show Hid _ from Holds.zero w)
  have HR := (show Hid _ from below1 w z4)
  have HQ : Hid (Below (w.heap.size + 1) (w.alloc z4) (w.alloc z4)) := Below.refl _ _
  go_enter Try.func62, Try.ntmps62
  go_wp2_with fail
  refine (lettersDigits_any _).mono ?_
  rintro e w1 ⟨rfl, hb⟩
  replace HQ := (show Hid _ from HQ.out.trans (hb.mono (by first | exact HQ.out.size | (have h := HQ.out.size; simp at h; omega) | simp)))
  have HR1 := (show Hid _ from HR.out.trans (HQ.out.mono (by omega)))
  obtain ⟨l0, c0, c1, c2, c3, f0, f1, f2, f3⟩ := HH.out.below HQ.out (by omega)
  generalize hr : spn 65 90 ||| spn 97 122 ||| spn 48 57 = r
  have Hr := (show Hid _ from hr)
  clear hr
  go_wp2
  exact bodyPost_ret (v := .tuple #[sv r, .int .i64 0]) (by simp [results, Try.results62, go_sem, *]) rfl ⟨by rw [Hr.out], (((HR1.out.setCell (by simp) _).setCell (by simp) _).setCell (by simp) _).setCell (by simp) _⟩

set_option maxHeartbeats 400000 in
theorem small120 (w : World) :
    Calls Try.prog 62 #[.int .u8 120] w fun e w' => e = .returned (.tuple #[sv (spn 48 57 ||| spn 65 70 ||| spn 97 102), .int .i64 0]) ∧ Below w.heap.size w w' := by
  have HH := (show Hid _ from Holds.zero w)
  have HR := (show Hid _ from below1 w z4)
  have HQ : Hid (Below (w.heap.size + 1) (w.alloc z4) (w.alloc z4)) := Below.refl _ _
  go_enter Try.func62, Try.ntmps62
  go_wp2_with fail
  refine (bytesFrom_any 48 57 _ (by omega) (by omega) (by omega)).mono ?_
  rintro e w1 ⟨rfl, hb⟩
  replace HQ := (show Hid _ from HQ.out.trans (hb.mono (by first | exact HQ.out.size | (have h := HQ.out.size; simp at h; omega) | simp)))
  go_wp2_with fail
  refine (fill_any _ 65 70 _ (by omega) (by omega) (by omega)).mono ?_
  rintro e w1 ⟨rfl, hb⟩
  replace HQ := (show Hid _ from HQ.out.trans (hb.mono (by first | exact HQ.out.size | (have h := HQ.out.size; simp at h; omega) | simp)))
  go_wp2_with fail
  refine (fill_any _ 97 102 _ (by omega) (by omega) (by omega)).mono ?_
  rintro e w1 ⟨rfl, hb⟩
  replace HQ := (show Hid _ from HQ.out.trans (hb.mono (by first | exact HQ.out.size | (have h := HQ.out.size; simp at h; omega) | simp)))
  have HR1 := (show Hid _ from HR.out.trans (HQ.out.mono (by omega)))
  obtain ⟨l0, c0, c1, c2, c3, f0, f1, f2, f3⟩ := HH.out.below HQ.out (by omega)
  generalize hr : spn 48 57 ||| spn 65 70 ||| spn 97 102 = r
  have Hr := (show Hid _ from hr)
  clear hr
  go_wp2
  exact bodyPost_ret (v := .tuple #[sv r, .int .i64 0]) (by simp [results, Try.results62, go_sem, *]) rfl ⟨by rw [Hr.out], (((HR1.out.setCell (by simp) _).setCell (by simp) _).setCell (by simp) _).setCell (by simp) _⟩

set_option maxHeartbeats 400000 in
theorem smallNone (n : Int) (w : World) (h97 : (n == 97) = false) (h99 : (n == 99) = false) (h100 : (n == 100) = false) (h103 : (n == 103) = false) (h108 : (n == 108) = false) (h112 : (n == 112) = false) (h115 : (n == 115) = false) (h117 : (n == 117) = false) (h119 : (n == 119) = false) (h120 : (n == 120) = false) :
    Calls Try.prog 62 #[.int .u8 n] w fun e w' => e = .returned (.tuple #[sv 0#256, .int .i64 10]) ∧ Below w.heap.size w w' := by
  have HR := (show Hid _ from below1 w z4)
  go_enter Try.func62, Try.ntmps62
  go_wp2
  exact bodyPost_ret (v := .tuple #[sv 0#256, .int .i64 10]) (by simp [results, Try.results62, go_sem, wd_zero]) rfl ⟨rfl, HR.out⟩

theorem small_any (n : Nat) (w : World) :
    Calls Try.prog 62 #[.int .u8 n] w fun e w' => e = .returned (.tuple #[sv (sml n).1, .int .i64 (sml n).2]) ∧ Below w.heap.size w w' := by
  by_cases h97 : n = 97
  · subst h97; rw [sml97]; exact small97 w
  by_cases h99 : n = 99
  · subst h99; rw [sml99]; exact small99 w
  by_cases h100 : n = 100
  · subst h100; rw [sml100]; exact small100 w
  by_cases h103 : n = 103
  · subst h103; rw [sml103]; exact small103 w
  by_cases h108 : n = 108
  · subst h108; rw [sml108]; exact small108 w
  by_cases h112 : n = 112
  · subst h112; rw [sml112]; exact small112 w
  by_cases h115 : n = 115
  · subst h115; rw [sml115]; exact small115 w
  by_cases h117 : n = 117
  · subst h117; rw [sml117]; exact small117 w
  by_cases h119 : n = 119
  · subst h119; rw [sml119]; exact small119 w
  by_cases h120 : n = 120
  · subst h120; rw [sml120]; exact small120 w
  rw [sml_none n h97 h99 h100 h103 h108 h112 h115 h117 h119 h120]
  exact smallNone n w (beq_eq_false_iff_ne.2 (by omega)) (beq_eq_false_iff_ne.2 (by omega)) (beq_eq_false_iff_ne.2 (by omega)) (beq_eq_false_iff_ne.2 (by omega)) (beq_eq_false_iff_ne.2 (by omega)) (beq_eq_false_iff_ne.2 (by omega)) (beq_eq_false_iff_ne.2 (by omega)) (beq_eq_false_iff_ne.2 (by omega)) (beq_eq_false_iff_ne.2 (by omega)) (beq_eq_false_iff_ne.2 (by omega))
end Go.Proofs.Ytlcmlipldkpliaa
