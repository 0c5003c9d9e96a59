/- DERIVED. Plain mathematics and walks, laid together (8). -/
import Derived.Deep.RegionLaw
import Derived.Laws.Bits64
import Derived.Test.YthffklhojdldkaaGreatDoorTt07
namespace Go.Proofs.YthffklhojdldkaaGreatDoor
open Go.RowKit
set_option maxHeartbeats 400000 in
theorem small97 (w : World) :
    Calls Tryz.prog 88 #[.int .u8 97] w fun e w' => e = .returned (.tuple #[sv (spn 65 90 ||| spn 97 122), .int .i64 0]) ∧ Below w.heap.size w w' := by
  have HH := (show Hid _ from Holds.zero w)
  have HR := (show Hid _ from below1 w z4)
  have HQ : Hid (Below (w.heap.size + 1) (w.alloc z4) (w.alloc z4)) := Below.refl _ _
  go_enter Tryz.func88, Tryz.ntmps88
  go_wp2_with fail
  refine (letters_any _).mono ?_
  rintro e w1 ⟨rfl, hb⟩
  replace HQ := (show Hid _ from HQ.out.trans (hb.mono (by first | exact HQ.out.size | (have h := HQ.out.size; simp at h; omega) | simp)))
  have HR1 := (show Hid _ from HR.out.trans (HQ.out.mono (by omega)))
  obtain ⟨l0, c0, c1, c2, c3, f0, f1, f2, f3⟩ := HH.out.below HQ.out (by omega)
  generalize hr : spn 65 90 ||| spn 97 122 = r
  have Hr := (show Hid _ from hr)
  clear hr
  go_wp2
  exact bodyPost_ret (v := .tuple #[sv r, .int .i64 0]) (by simp [results, Tryz.results88, go_sem, *]) rfl ⟨by rw [Hr.out], (((HR1.out.setCell (by simp) _).setCell (by simp) _).setCell (by simp) _).setCell (by simp) _⟩

set_option maxHeartbeats 400000 in
theorem small99 (w : World) :
    Calls Tryz.prog 88 #[.int .u8 99] w fun e w' => e = .returned (.tuple #[sv (spn 0 31 ||| bt 127), .int .i64 0]) ∧ Below w.heap.size w w' := by
  have HH := (show Hid _ from Holds.zero w)
  have HR := (show Hid _ from below1 w z4)
  have HQ : Hid (Below (w.heap.size + 1) (w.alloc z4) (w.alloc z4)) := Below.refl _ _
  go_enter Tryz.func88, Tryz.ntmps88
  go_wp2_with fail
  refine (bytesFrom_any 0 31 _ (by omega) (by omega) (by omega)).mono ?_
  rintro e w1 ⟨rfl, hb⟩
  replace HQ := (show Hid _ from HQ.out.trans (hb.mono (by first | exact HQ.out.size | (have h := HQ.out.size; simp at h; omega) | simp)))
  go_wp2_with fail
  refine (with_any _ 127 _ (by omega) (by omega)).mono ?_
  rintro e w1 ⟨rfl, hb⟩
  replace HQ := (show Hid _ from HQ.out.trans (hb.mono (by first | exact HQ.out.size | (have h := HQ.out.size; simp at h; omega) | simp)))
  rw [show (127 : Int).toNat = 127 from rfl]
  have HR1 := (show Hid _ from HR.out.trans (HQ.out.mono (by omega)))
  obtain ⟨l0, c0, c1, c2, c3, f0, f1, f2, f3⟩ := HH.out.below HQ.out (by omega)
  generalize hr : spn 0 31 ||| bt 127 = r
  have Hr := (show Hid _ from hr)
  clear hr
  go_wp2
  exact bodyPost_ret (v := .tuple #[sv r, .int .i64 0]) (by simp [results, Tryz.results88, go_sem, *]) rfl ⟨by rw [Hr.out], (((HR1.out.setCell (by simp) _).setCell (by simp) _).setCell (by simp) _).setCell (by simp) _⟩

set_option maxHeartbeats 400000 in
theorem small100 (w : World) :
    Calls Tryz.prog 88 #[.int .u8 100] w fun e w' => e = .returned (.tuple #[sv (spn 48 57), .int .i64 0]) ∧ Below w.heap.size w w' := by
  have HH := (show Hid _ from Holds.zero w)
  have HR := (show Hid _ from below1 w z4)
  have HQ : Hid (Below (w.heap.size + 1) (w.alloc z4) (w.alloc z4)) := Below.refl _ _
  go_enter Tryz.func88, Tryz.ntmps88
  go_wp2_with fail
  refine (bytesFrom_any 48 57 _ (by omega) (by omega) (by omega)).mono ?_
  rintro e w1 ⟨rfl, hb⟩
  replace HQ := (show Hid _ from HQ.out.trans (hb.mono (by first | exact HQ.out.size | (have h := HQ.out.size; simp at h; omega) | simp)))
  have HR1 := (show Hid _ from HR.out.trans (HQ.out.mono (by omega)))
  obtain ⟨l0, c0, c1, c2, c3, f0, f1, f2, f3⟩ := HH.out.below HQ.out (by omega)
  generalize hr : spn 48 57 = r
  have Hr := (show Hid _ from hr)
  clear hr
  go_wp2
  exact bodyPost_ret (v := .tuple #[sv r, .int .i64 0]) (by simp [results, Tryz.results88, go_sem, *]) rfl ⟨by rw [Hr.out], (((HR1.out.setCell (by simp) _).setCell (by simp) _).setCell (by simp) _).setCell (by simp) _⟩

set_option maxHeartbeats 400000 in
theorem small103 (w : World) :
    Calls Tryz.prog 88 #[.int .u8 103] w fun e w' => e = .returned (.tuple #[sv (spn 33 126), .int .i64 0]) ∧ Below w.heap.size w w' := by
  have HH := (show Hid _ from Holds.zero w)
  have HR := (show Hid _ from below1 w z4)
  have HQ : Hid (Below (w.heap.size + 1) (w.alloc z4) (w.alloc z4)) := Below.refl _ _
  go_enter Tryz.func88, Tryz.ntmps88
  go_wp2_with fail
  refine (bytesFrom_any 33 126 _ (by omega) (by omega) (by omega)).mono ?_
  rintro e w1 ⟨rfl, hb⟩
  replace HQ := (show Hid _ from HQ.out.trans (hb.mono (by first | exact HQ.out.size | (have h := HQ.out.size; simp at h; omega) | simp)))
  have HR1 := (show Hid _ from HR.out.trans (HQ.out.mono (by omega)))
  obtain ⟨l0, c0, c1, c2, c3, f0, f1, f2, f3⟩ := HH.out.below HQ.out (by omega)
  generalize hr : spn 33 126 = r
  have Hr := (show Hid _ from hr)
  clear hr
  go_wp2
  exact bodyPost_ret (v := .tuple #[sv r, .int .i64 0]) (by simp [results, Tryz.results88, go_sem, *]) rfl ⟨by rw [Hr.out], (((HR1.out.setCell (by simp) _).setCell (by simp) _).setCell (by simp) _).setCell (by simp) _⟩

set_option maxHeartbeats 400000 in
theorem small108 (w : World) :
    Calls Tryz.prog 88 #[.int .u8 108] w fun e w' => e = .returned (.tuple #[sv (spn 97 122), .int .i64 0]) ∧ Below w.heap.size w w' := by
  have HH := (show Hid _ from Holds.zero w)
  have HR := (show Hid _ from below1 w z4)
  have HQ : Hid (Below (w.heap.size + 1) (w.alloc z4) (w.alloc z4)) := Below.refl _ _
  go_enter Tryz.func88, Tryz.ntmps88
  go_wp2_with fail
  refine (bytesFrom_any 97 122 _ (by omega) (by omega) (by omega)).mono ?_
  rintro e w1 ⟨rfl, hb⟩
  replace HQ := (show Hid _ from HQ.out.trans (hb.mono (by first | exact HQ.out.size | (have h := HQ.out.size; simp at h; omega) | simp)))
  have HR1 := (show Hid _ from HR.out.trans (HQ.out.mono (by omega)))
  obtain ⟨l0, c0, c1, c2, c3, f0, f1, f2, f3⟩ := HH.out.below HQ.out (by omega)
  generalize hr : spn 97 122 = r
  have Hr := (show Hid _ from hr)
  clear hr
  go_wp2
  exact bodyPost_ret (v := .tuple #[sv r, .int .i64 0]) (by simp [results, Tryz.results88, go_sem, *]) rfl ⟨by rw [Hr.out], (((HR1.out.setCell (by simp) _).setCell (by simp) _).setCell (by simp) _).setCell (by simp) _⟩

set_option maxHeartbeats 400000 in
theorem small112 (w : World) :
    Calls Tryz.prog 88 #[.int .u8 112] w fun e w' => e = .returned (.tuple #[sv (spn 33 126 &&& ~~~ (spn 65 90 ||| spn 97 122 ||| spn 48 57)), .int .i64 0]) ∧ Below w.heap.size w w' := by
  have HH := (show Hid _ from Holds.zero w)
  have HR := (show Hid _ from below1 w z4)
  have HQ : Hid (Below (w.heap.size + 1) (w.alloc z4) (w.alloc z4)) := Below.refl _ _
  go_enter Tryz.func88, Tryz.ntmps88
  go_wp2_with fail
  refine (bytesFrom_any 33 126 _ (by omega) (by omega) (by omega)).mono ?_
  rintro e w1 ⟨rfl, hb⟩
  replace HQ := (show Hid _ from HQ.out.trans (hb.mono (by first | exact HQ.out.size | (have h := HQ.out.size; simp at h; omega) | simp)))
  go_wp2_with fail
  refine (lettersDigits_any _).mono ?_
  rintro e w1 ⟨rfl, hb⟩
  replace HQ := (show Hid _ from HQ.out.trans (hb.mono (by first | exact HQ.out.size | (have h := HQ.out.size; simp at h; omega) | simp)))
  go_wp2_with fail
  refine (less_any _ _ _).mono ?_
  rintro e w1 ⟨rfl, hb⟩
  replace HQ := (show Hid _ from HQ.out.trans (hb.mono (by first | exact HQ.out.size | (have h := HQ.out.size; simp at h; omega) | simp)))
  have HR1 := (show Hid _ from HR.out.trans (HQ.out.mono (by omega)))
  obtain ⟨l0, c0, c1, c2, c3, f0, f1, f2, f3⟩ := HH.out.below HQ.out (by omega)
  generalize hr : spn 33 126 &&& ~~~ (spn 65 90 ||| spn 97 122 ||| spn 48 57) = r
  have Hr := (show Hid _ from hr)
  clear hr
  go_wp2
  exact bodyPost_ret (v := .tuple #[sv r, .int .i64 0]) (by simp [results, Tryz.results88, go_sem, *]) rfl ⟨by rw [Hr.out], (((HR1.out.setCell (by simp) _).setCell (by simp) _).setCell (by simp) _).setCell (by simp) _⟩

set_option maxHeartbeats 400000 in
theorem small115 (w : World) :
    Calls Tryz.prog 88 #[.int .u8 115] w fun e w' => e = .returned (.tuple #[sv (spn 9 13 ||| bt 32), .int .i64 0]) ∧ Below w.heap.size w w' := by
  have HH := (show Hid _ from Holds.zero w)
  have HR := (show Hid _ from below1 w z4)
  have HQ : Hid (Below (w.heap.size + 1) (w.alloc z4) (w.alloc z4)) := Below.refl _ _
  go_enter Tryz.func88, Tryz.ntmps88
  go_wp2_with fail
  refine (bytesFrom_any 9 13 _ (by omega) (by omega) (by omega)).mono ?_
  rintro e w1 ⟨rfl, hb⟩
  replace HQ := (show Hid _ from HQ.out.trans (hb.mono (by first | exact HQ.out.size | (have h := HQ.out.size; simp at h; omega) | simp)))
  go_wp2_with fail
  refine (with_any _ 32 _ (by omega) (by omega)).mono ?_
  rintro e w1 ⟨rfl, hb⟩
  replace HQ := (show Hid _ from HQ.out.trans (hb.mono (by first | exact HQ.out.size | (have h := HQ.out.size; simp at h; omega) | simp)))
  rw [show (32 : Int).toNat = 32 from rfl]
  have HR1 := (show Hid _ from HR.out.trans (HQ.out.mono (by omega)))
  obtain ⟨l0, c0, c1, c2, c3, f0, f1, f2, f3⟩ := HH.out.below HQ.out (by omega)
  generalize hr : spn 9 13 ||| bt 32 = r
  have Hr := (show Hid _ from hr)
  clear hr
  go_wp2
  exact bodyPost_ret (v := .tuple #[sv r, .int .i64 0]) (by simp [results, Tryz.results88, go_sem, *]) rfl ⟨by rw [Hr.out], (((HR1.out.setCell (by simp) _).setCell (by simp) _).setCell (by simp) _).setCell (by simp) _⟩

set_option maxHeartbeats 400000 in
theorem small117 (w : World) :
    Calls Tryz.prog 88 #[.int .u8 117] w fun e w' => e = .returned (.tuple #[sv (spn 65 90), .int .i64 0]) ∧ Below w.heap.size w w' := by
  have HH := (show Hid _ from Holds.zero w)
  have HR := (show Hid _ from below1 w z4)
  have HQ : Hid (Below (w.heap.size + 1) (w.alloc z4) (w.alloc z4)) := Below.refl _ _
  go_enter Tryz.func88, Tryz.ntmps88
  go_wp2_with fail
  refine (bytesFrom_any 65 90 _ (by omega) (by omega) (by omega)).mono ?_
  rintro e w1 ⟨rfl, hb⟩
  replace HQ := (show Hid _ from HQ.out.trans (hb.mono (by first | exact HQ.out.size | (have h := HQ.out.size; simp at h; omega) | simp)))
  have HR1 := (show Hid _ from HR.out.trans (HQ.out.mono (by omega)))
  obtain ⟨l0, c0, c1, c2, c3, f0, f1, f2, f3⟩ := HH.out.below HQ.out (by omega)
  generalize hr : spn 65 90 = r
  have Hr := (show Hid _ from hr)
  clear hr
  go_wp2
  exact bodyPost_ret (v := .tuple #[sv r, .int .i64 0]) (by simp [results, Tryz.results88, go_sem, *]) rfl ⟨by rw [Hr.out], (((HR1.out.setCell (by simp) _).setCell (by simp) _).setCell (by simp) _).setCell (by simp) _⟩

set_option maxHeartbeats 400000 in
theorem small119 (w : World) :
    Calls Tryz.prog 88 #[.int .u8 119] w fun e w' => e = .returned (.tuple #[sv (spn 65 90 ||| spn 97 122 ||| spn 48 57), .int .i64 0]) ∧ Below w.heap.size w w' := by
  have HH := (show Hid _ from Holds.zero w)
  have HR := (show Hid _ from below1 w z4)
  have HQ : Hid (Below (w.heap.size + 1) (w.alloc z4) (w.alloc z4)) := Below.refl _ _
  go_enter Tryz.func88, Tryz.ntmps88
  go_wp2_with fail
  refine (lettersDigits_any _).mono ?_
  rintro e w1 ⟨rfl, hb⟩
  replace HQ := (show Hid _ from HQ.out.trans (hb.mono (by first | exact HQ.out.size | (have h := HQ.out.size; simp at h; omega) | simp)))
  have HR1 := (show Hid _ from HR.out.trans (HQ.out.mono (by omega)))
  obtain ⟨l0, c0, c1, c2, c3, f0, f1, f2, f3⟩ := HH.out.below HQ.out (by omega)
  generalize hr : spn 65 90 ||| spn 97 122 ||| spn 48 57 = r
  have Hr := (show Hid _ from hr)
  clear hr
  go_wp2
  exact bodyPost_ret (v := .tuple #[sv r, .int .i64 0]) (by simp [results, Tryz.results88, go_sem, *]) rfl ⟨by rw [Hr.out], (((HR1.out.setCell (by simp) _).setCell (by simp) _).setCell (by simp) _).setCell (by simp) _⟩

set_option maxHeartbeats 400000 in
theorem small120 (w : World) :
    Calls Tryz.prog 88 #[.int .u8 120] w fun e w' => e = .returned (.tuple #[sv (spn 48 57 ||| spn 65 70 ||| spn 97 102), .int .i64 0]) ∧ Below w.heap.size w w' := by
  have HH := (show Hid _ from Holds.zero w)
  have HR := (show Hid _ from below1 w z4)
  have HQ : Hid (Below (w.heap.size + 1) (w.alloc z4) (w.alloc z4)) := Below.refl _ _
  go_enter Tryz.func88, Tryz.ntmps88
  go_wp2_with fail
  refine (bytesFrom_any 48 57 _ (by omega) (by omega) (by omega)).mono ?_
  rintro e w1 ⟨rfl, hb⟩
  replace HQ := (show Hid _ from HQ.out.trans (hb.mono (by first | exact HQ.out.size | (have h := HQ.out.size; simp at h; omega) | simp)))
  go_wp2_with fail
  refine (fill_any _ 65 70 _ (by omega) (by omega) (by omega)).mono ?_
  rintro e w1 ⟨rfl, hb⟩
  replace HQ := (show Hid _ from HQ.out.trans (hb.mono (by first | exact HQ.out.size | (have h := HQ.out.size; simp at h; omega) | simp)))
  go_wp2_with fail
  refine (fill_any _ 97 102 _ (by omega) (by omega) (by omega)).mono ?_
  rintro e w1 ⟨rfl, hb⟩
  replace HQ := (show Hid _ from HQ.out.trans (hb.mono (by first | exact HQ.out.size | (have h := HQ.out.size; simp at h; omega) | simp)))
  have HR1 := (show Hid _ from HR.out.trans (HQ.out.mono (by omega)))
  obtain ⟨l0, c0, c1, c2, c3, f0, f1, f2, f3⟩ := HH.out.below HQ.out (by omega)
  generalize hr : spn 48 57 ||| spn 65 70 ||| spn 97 102 = r
  have Hr := (show Hid _ from hr)
  clear hr
  go_wp2
  exact bodyPost_ret (v := .tuple #[sv r, .int .i64 0]) (by simp [results, Tryz.results88, go_sem, *]) rfl ⟨by rw [Hr.out], (((HR1.out.setCell (by simp) _).setCell (by simp) _).setCell (by simp) _).setCell (by simp) _⟩

set_option maxHeartbeats 400000 in
theorem smallNone (n : Int) (w : World) (h97 : (n == 97) = false) (h99 : (n == 99) = false) (h100 : (n == 100) = false) (h103 : (n == 103) = false) (h108 : (n == 108) = false) (h112 : (n == 112) = false) (h115 : (n == 115) = false) (h117 : (n == 117) = false) (h119 : (n == 119) = false) (h120 : (n == 120) = false) :
    Calls Tryz.prog 88 #[.int .u8 n] w fun e w' => e = .returned (.tuple #[sv 0#256, .int .i64 10]) ∧ Below w.heap.size w w' := by
  have HR := (show Hid _ from below1 w z4)
  go_enter Tryz.func88, Tryz.ntmps88
  go_wp2
  exact bodyPost_ret (v := .tuple #[sv 0#256, .int .i64 10]) (by simp [results, Tryz.results88, go_sem, wd_zero]) rfl ⟨rfl, HR.out⟩

theorem small_any (n : Nat) (w : World) :
    Calls Tryz.prog 88 #[.int .u8 n] w fun e w' => e = .returned (.tuple #[sv (sml n).1, .int .i64 (sml n).2]) ∧ Below w.heap.size w w' := by
  by_cases h97 : n = 97
  · subst h97; rw [sml97]; exact small97 w
  by_cases h99 : n = 99
  · subst h99; rw [sml99]; exact small99 w
  by_cases h100 : n = 100
  · subst h100; rw [sml100]; exact small100 w
  by_cases h103 : n = 103
  · subst h103; rw [sml103]; exact small103 w
  by_cases h108 : n = 108
  · subst h108; rw [sml108]; exact small108 w
  by_cases h112 : n = 112
  · subst h112; rw [sml112]; exact small112 w
  by_cases h115 : n = 115
  · subst h115; rw [sml115]; exact small115 w
  by_cases h117 : n = 117
  · subst h117; rw [sml117]; exact small117 w
  by_cases h119 : n = 119
  · subst h119; rw [sml119]; exact small119 w
  by_cases h120 : n = 120
  · subst h120; rw [sml120]; exact small120 w
  rw [sml_none n h97 h99 h100 h103 h108 h112 h115 h117 h119 h120]
  exact smallNone n w (beq_eq_false_iff_ne.2 (by omega)) (beq_eq_false_iff_ne.2 (by omega)) (beq_eq_false_iff_ne.2 (by omega)) (beq_eq_false_iff_ne.2 (by omega)) (beq_eq_false_iff_ne.2 (by omega)) (beq_eq_false_iff_ne.2 (by omega)) (beq_eq_false_iff_ne.2 (by omega)) (beq_eq_false_iff_ne.2 (by omega)) (beq_eq_false_iff_ne.2 (by omega)) (beq_eq_false_iff_ne.2 (by omega))
end Go.Proofs.YthffklhojdldkaaGreatDoor

namespace Go.Proofs.YthffklhojdldkaaGreatDoor
open Go.RowKit
theorem cls_small (n : Nat) (h : ¬ (65 ≤ n ∧ n ≤ 90)) : cls n = sml n := by unfold cls; rw [if_neg h]
theorem cls_yes (n : Nat) (h : 65 ≤ n ∧ n ≤ 90) (he : (sml (n + 32)).2 = 0) : cls n = (~~~ (sml (n + 32)).1, 0) := by unfold cls; rw [if_pos h, if_pos he]
theorem cls_no (n : Nat) (h : 65 ≤ n ∧ n ≤ 90) (he : (sml (n + 32)).2 = 10) : cls n = (0#256, 10) := by
  unfold cls; rw [if_pos h, if_neg (by omega), he]
theorem put4_below {B : Nat} {w w' : World} {b : Nat} (h : Below B w w') (hb : B ≤ b) (y : BitVec 256) : Below B w (put4 w' b y) :=
  (((h.setCell hb _).setCell hb _).setCell hb _).setCell hb _

set_option maxHeartbeats 1000000 in
theorem class_any (n : Nat) (hn : n < 256) (w : World) :
    Calls Tryz.prog 56 #[.int .u8 n] w fun e w' => e = .returned (.tuple #[sv (cls n).1, .int .i64 (cls n).2]) ∧ Below w.heap.size w w' := by
  have HH := (show Hid _ from Holds.zero w)
  have HR := (show Hid _ from below1 w z4)
  have hw8 : IntKind.i64.wrap (n : Int) = (n : Int) := by rw [IntKind.wrap_i64]; omega
  by_cases hc : 65 ≤ n ∧ n ≤ 90
  · have hcap : capB (n : Int) = true := by simp [capB]; omega
    have hn1 : (n : Int) ≤ 90 := by omega
    have Hc := (show Hid _ from hc)
    clear hc
    rcases sml_err (n + 32) with he | he
    · have HE := (show Hid _ from cls_yes n Hc.out he)
      go_enter Tryz.func56, Tryz.ntmps56
      go_wp2_with fail
      refine (isCapital_any _ _).mono ?_
      rintro e w1 ⟨rfl, rfl⟩
      go_wp2_with fail
      rw [show (n : Int) + 32 = ((n + 32 : Nat) : Int) from by omega]
      refine (small_any (n + 32) _).mono ?_
      rintro e w1 ⟨rfl, hb⟩
      have hl : w.heap.size < w1.heap.size := by have h := hb.size; simp at h; omega
      have HR1 := (show Hid _ from HR.out.trans (hb.mono (by simp)))
      have HH1 := (show Hid _ from HH.out.below hb (by simp))
      rw [he]
      clear he hb HH HR
      generalize (sml (n + 32)).1 = r at *
      go_wp2_with fail
      refine (not_any r _).mono ?_
      rintro e w2 ⟨rfl, hb⟩
      have HR2 := (show Hid _ from (HR1.out.alloc (by omega) (c4 r)).trans (hb.mono (by simp; omega)))
      have hl2 : w.heap.size < w2.heap.size := by have h := hb.size; simp at h; omega
      obtain ⟨l0, c0, c1, c2, c3, f0, f1, f2, f3⟩ := (HH1.out.alloc (c4 r)).below hb (by simp; omega)
      generalize hr : ~~~ r = q at *
      clear hr hb
      go_wp2
      rw [HE.out]
      refine bodyPost_ret (v := .tuple #[sv q, .int .i64 0]) (by simp [results, Tryz.results56, go_sem, *]) rfl ⟨rfl, put4_below HR2.out (Nat.le_refl _) _⟩
    · have HE := (show Hid _ from cls_no n Hc.out he)
      go_enter Tryz.func56, Tryz.ntmps56
      go_wp2_with fail
      refine (isCapital_any _ _).mono ?_
      rintro e w1 ⟨rfl, rfl⟩
      go_wp2_with fail
      rw [show (n : Int) + 32 = ((n + 32 : Nat) : Int) from by omega]
      refine (small_any (n + 32) _).mono ?_
      rintro e w1 ⟨rfl, hb⟩
      have hl : w.heap.size < w1.heap.size := by have h := hb.size; simp at h; omega
      have HR1 := (show Hid _ from HR.out.trans (hb.mono (by simp)))
      obtain ⟨l0, c0, c1, c2, c3, f0, f1, f2, f3⟩ := HH.out.below hb (by simp)
      rw [he]
      clear he hb HH HR
      generalize (sml (n + 32)).1 = r at *
      go_wp2
      rw [HE.out]
      refine bodyPost_ret (v := .tuple #[sv 0#256, .int .i64 10]) (by simp [results, Tryz.results56, go_sem, wd_zero, *]) rfl ⟨rfl, ?_⟩
      repeat (first | exact HR1.out | (refine Below.setCell ?_ (by first | omega | (simp <;> omega)) _) | (refine Below.alloc ?_ (by first | omega | (simp <;> omega)) _))
  · have hcap : capB (n : Int) = false := by simp [capB]; omega
    have HE := (show Hid _ from cls_small n hc)
    clear hc
    go_enter Tryz.func56, Tryz.ntmps56
    go_wp2_with fail
    refine (isCapital_any _ _).mono ?_
    rintro e w1 ⟨rfl, rfl⟩
    go_wp2_with fail
    refine (small_any n _).mono ?_
    rintro e w1 ⟨rfl, hb⟩
    have hl : w.heap.size < w1.heap.size := by have h := hb.size; simp at h; omega
    have HR1 := (show Hid _ from HR.out.trans (hb.mono (by simp)))
    obtain ⟨l0, c0, c1, c2, c3, f0, f1, f2, f3⟩ := HH.out.below hb (by simp)
    clear hb HH HR
    generalize sml n = rq at *
    obtain ⟨r, q⟩ := rq
    dsimp only
    go_wp2
    refine bodyPost_ret (v := .tuple #[sv r, .int .i64 q]) (by simp [results, Tryz.results56, go_sem, *]) rfl ⟨by rw [HE.out], put4_below HR1.out (Nat.le_refl _) _⟩
end Go.Proofs.YthffklhojdldkaaGreatDoor

namespace Go.Proofs.YthffklhojdldkaaGreatDoor
open Go.RowKit
theorem below_drewN {B : Nat} {a w : World} (h : Below B a w) (n : Nat) : Below B a (w.drewN n) := by
  induction n with
  | zero => exact h
  | succ n ih => exact ih.drew
end Go.Proofs.YthffklhojdldkaaGreatDoor

namespace Go.Proofs.YthffklhojdldkaaGreatDoor
open Go.RowKit
set_option maxHeartbeats 1000000 in
theorem fromTo_any (lo hi : Int) (w : World) (h0 : 0 ≤ lo) (hle : lo ≤ hi) (h1 : hi ≤ 255) :
    Calls Tryz.prog 60 #[.int .i64 lo, .int .i64 hi] w fun e w' => e = .returned (sv (spn lo hi)) ∧ Below w.heap.size w w' := by
  go_enter Tryz.func60, Tryz.ntmps60
  go_wp2
  go_loopw [6] (fun t wr => ∃ b : Int, lo ≤ b ∧ b ≤ hi + 1 ∧ t = .int .i64 b ∧ Holds wr (w.heap.size + 1) (spn lo (b - 1)) ∧ (∃ z, Holds wr w.heap.size z) ∧ Below w.heap.size w wr) (fun t _ => (hi + 1 - intOf t).toNat)
  case atStart =>
    refine ⟨lo, by omega, by omega, rfl, ?_, ⟨0#256, (Holds.zero w).alloc _⟩, ?_⟩
    · rw [spn_nil lo h0 (by omega)]; exact Holds.zero' w _
    · exact ((Below.refl _ _).alloc (Nat.le_refl _) _).alloc (by simp) _
  case round =>
    obtain ⟨b, hb0, hb1, rfl, hx, ⟨z, hz⟩, hbel⟩ := hrel
    have hsz : w.heap.size + 1 < wr.heap.size := hx.lt
    by_cases hlt : b ≤ hi
    · have HS := (show Hid _ from spn_snoc lo b h0 hb0 (by omega))
      generalize hy : spn lo (b - 1) = y at hx
      have HY := (show Hid _ from hy)
      clear hy
      have HX := (show Hid _ from hx)
      have HZ := (show Hid _ from hz)
      have HB := (show Hid _ from hbel)
      obtain ⟨l0, c0, c1, c2, c3, f0, f1, f2, f3⟩ := hx
      clear hz hbel
      go_wp2_with fail
      refine (withR_any y b _ (by omega) (by omega)).mono ?_
      rintro e w1 ⟨rfl, hb⟩
      obtain ⟨l0, c0, c1, c2, c3, f0, f1, f2, f3⟩ := HX.out.below hb l0
      go_wp2
      go_roundw
      case rel =>
        refine ⟨b + 1, by omega, by omega, rfl, ?_, ⟨z, ?_⟩, ?_⟩
        · rw [show b + 1 - 1 = b from by omega, HS.out, HY.out]
          exact (HX.out.below hb (by omega)).put _
        · exact (HZ.out.below hb (by omega)).put_other (by omega) _
        · exact ((((HB.out.trans (hb.mono (by omega))).setCell (by simp) _).setCell (by simp) _).setCell (by simp) _).setCell (by simp) _
      case measure => simp [intOf]; omega
    · have hbe : b - 1 = hi := by omega
      rw [hbe] at hx
      generalize hy : spn lo hi = y at hx
      have HY := (show Hid _ from hy)
      clear hy
      have HB := (show Hid _ from hbel)
      obtain ⟨l0, c0, c1, c2, c3, f0, f1, f2, f3⟩ := hx
      obtain ⟨l1, d0, d1, d2, d3, g0, g1, g2, g3⟩ := hz
      clear hbel
      go_wp2
      rw [HY.out]
      refine bodyPost_ret (v := sv y) (by simp [results, Tryz.results60, go_sem, *]) rfl ⟨rfl, ?_⟩
      exact (((HB.out.setCell (by simp) _).setCell (by simp) _).setCell (by simp) _).setCell (by simp) _
end Go.Proofs.YthffklhojdldkaaGreatDoor

namespace Go.Proofs.YthffklhojdldkaaGreatDoor
open Go.RowKit
theorem class_pre (w w1 w2 w3 w4 : World) (a b c : BitVec 256) (hb1 : Below (w.alloc z4).heap.size (w.alloc z4) w1) (hb2 : Below w1.heap.size w1 w2) (hb3 : Below w2.heap.size w2 w3)
    (hb4 : Below (((w3.alloc (c4 a)).alloc (c4 b)).alloc (c4 c)).heap.size (((w3.alloc (c4 a)).alloc (c4 b)).alloc (c4 c)) w4) :
    w.heap.size < w3.heap.size ∧ w3.heap.size + 1 + 1 < w4.heap.size ∧ Hid (Below w.heap.size w w4) ∧ Hid (Holds w4 w.heap.size 0#256) ∧ Hid (Holds w4 w3.heap.size a) ∧ Hid (Holds w4 (w3.heap.size + 1) b) ∧ Hid (Holds w4 (w3.heap.size + 1 + 1) c) := by
  have s1 := hb1.size
  have s2 := hb2.size
  have s3 := hb3.size
  have s4 := hb4.size
  rw [size1] at s1
  rw [size3] at s4 hb4
  rw [size1] at hb1
  have h13 : Below (w.heap.size + 1) (w.alloc z4) w3 := (hb1.trans (hb2.mono (by omega))).trans (hb3.mono (by omega))
  have h3 : Below w.heap.size w w3 := (below1 w z4).trans (h13.mono (by omega))
  have h34 : Below w3.heap.size w3 w4 := (below3 w3 (c4 a) (c4 b) (c4 c)).trans (hb4.mono (by omega))
  have e0 : Holds w3 w.heap.size 0#256 := (Holds.zero w).below h13 (by omega)
  refine ⟨by omega, by omega, h3.trans (h34.mono (by omega)), e0.below h34 (by omega), ?_, ?_, ?_⟩
  · exact (((Holds.new w3 a).alloc (c4 b)).alloc (c4 c)).below hb4 (by omega)
  · have h := (Holds.new (w3.alloc (c4 a)) b).alloc (c4 c)
    rw [size1] at h
    exact h.below hb4 (by omega)
  · have h := Holds.new ((w3.alloc (c4 a)).alloc (c4 b)) c
    rw [size2] at h
    exact h.below hb4 (by omega)
end Go.Proofs.YthffklhojdldkaaGreatDoor

namespace Go.Proofs.YthffklhojdldkaaGreatDoor
open Go.RowKit
set_option maxHeartbeats 2000000 in
theorem smallR97 (w : World) :
    Calls Tryz.prog 31 #[.int .i64 97] w fun e w' => e = .returned (.tuple #[sv (spn 65 90 ||| spn 97 122), .int .i64 0]) ∧ Below w.heap.size w w' := by
  have HH := (show Hid _ from Holds.zero w)
  have HR := (show Hid _ from below1 w z4)
  go_enter Tryz.func31, Tryz.ntmps31
  go_wp2_with fail
  refine (fromTo_any 97 122 _ (by omega) (by omega) (by omega)).mono ?_
  rintro e w1 ⟨rfl, hb1⟩
  go_wp2_with fail
  refine (fromTo_any 65 90 _ (by omega) (by omega) (by omega)).mono ?_
  rintro e w2 ⟨rfl, hb2⟩
  go_wp2_with fail
  refine (fromTo_any 48 57 _ (by omega) (by omega) (by omega)).mono ?_
  rintro e w3 ⟨rfl, hb3⟩
  go_wp2_with fail
  refine (unionR_any _ _ _).mono ?_
  rintro e w4 ⟨rfl, hb4⟩
  have hq := class_pre w w1 w2 w3 w4 (spn 97 122) (spn 65 90) (spn 48 57) hb1 hb2 hb3 hb4
  clear hb1 hb2 hb3 hb4
  obtain ⟨hl3, hl4, HR4, H0, H6, H7, H8⟩ := hq
  obtain ⟨l0, c00, c01, c02, c03, f00, f01, f02, f03⟩ := H0.out
  go_wp2
  have HRf := HR4
  refine bodyPost_ret (v := .tuple #[sv ((spn 97 122 ||| spn 65 90)), .int .i64 0]) (by simp [results, Tryz.results31, go_sem, *]) rfl ⟨?_, ?_⟩
  · exact congrArg (fun q => Ending.returned (.tuple #[sv q, .int .i64 0])) (BitVec.or_comm _ _)
  · repeat (first | exact HRf.out | (refine Below.setCell ?_ (by first | omega | (simp <;> omega)) _) | (refine Below.alloc ?_ (by first | omega | (simp <;> omega)) _))

set_option maxHeartbeats 2000000 in
theorem smallR99 (w : World) :
    Calls Tryz.prog 31 #[.int .i64 99] w fun e w' => e = .returned (.tuple #[sv (spn 0 31 ||| bt 127), .int .i64 0]) ∧ Below w.heap.size w w' := by
  have HH := (show Hid _ from Holds.zero w)
  have HR := (show Hid _ from below1 w z4)
  go_enter Tryz.func31, Tryz.ntmps31
  go_wp2_with fail
  refine (fromTo_any 97 122 _ (by omega) (by omega) (by omega)).mono ?_
  rintro e w1 ⟨rfl, hb1⟩
  go_wp2_with fail
  refine (fromTo_any 65 90 _ (by omega) (by omega) (by omega)).mono ?_
  rintro e w2 ⟨rfl, hb2⟩
  go_wp2_with fail
  refine (fromTo_any 48 57 _ (by omega) (by omega) (by omega)).mono ?_
  rintro e w3 ⟨rfl, hb3⟩
  go_wp2_with fail
  refine (unionR_any _ _ _).mono ?_
  rintro e w4 ⟨rfl, hb4⟩
  have hq := class_pre w w1 w2 w3 w4 (spn 97 122) (spn 65 90) (spn 48 57) hb1 hb2 hb3 hb4
  clear hb1 hb2 hb3 hb4
  obtain ⟨hl3, hl4, HR4, H0, H6, H7, H8⟩ := hq
  have HQ : Hid (Below (w4.heap.size + 1) (w4.alloc (c4 (spn 97 122 ||| spn 65 90))) (w4.alloc (c4 (spn 97 122 ||| spn 65 90)))) := Below.refl _ _
  go_wp2_with fail
  refine (fromTo_any 0 31 _ (by omega) (by omega) (by omega)).mono ?_
  rintro e w5 ⟨rfl, hb⟩
  replace HQ := (show Hid _ from HQ.out.trans (hb.mono (by first | exact HQ.out.size | (have h := HQ.out.size; simp at h; omega) | simp)))
  go_wp2_with fail
  refine (withR_any _ 127 _ (by omega) (by omega)).mono ?_
  rintro e w5 ⟨rfl, hb⟩
  replace HQ := (show Hid _ from HQ.out.trans (hb.mono (by first | exact HQ.out.size | (have h := HQ.out.size; simp at h; omega) | simp)))
  rw [show (127 : Int).toNat = 127 from rfl]
  have HR5 := (show Hid _ from (HR4.out.alloc (by omega) (c4 (spn 97 122 ||| spn 65 90))).trans (HQ.out.mono (by omega)))
  obtain ⟨l0, c00, c01, c02, c03, f00, f01, f02, f03⟩ := (H0.out.alloc (c4 (spn 97 122 ||| spn 65 90))).below HQ.out (by have h := H0.out.lt; omega)
  clear hb
  go_wp2
  have HRf := HR5
  refine bodyPost_ret (v := .tuple #[sv (spn 0 31 ||| bt 127), .int .i64 0]) (by simp [results, Tryz.results31, go_sem, *]) rfl ⟨?_, ?_⟩
  · rfl
  · repeat (first | exact HRf.out | (refine Below.setCell ?_ (by first | omega | (simp <;> omega)) _) | (refine Below.alloc ?_ (by first | omega | (simp <;> omega)) _))

set_option maxHeartbeats 2000000 in
theorem smallR100 (w : World) :
    Calls Tryz.prog 31 #[.int .i64 100] w fun e w' => e = .returned (.tuple #[sv (spn 48 57), .int .i64 0]) ∧ Below w.heap.size w w' := by
  have HH := (show Hid _ from Holds.zero w)
  have HR := (show Hid _ from below1 w z4)
  go_enter Tryz.func31, Tryz.ntmps31
  go_wp2_with fail
  refine (fromTo_any 97 122 _ (by omega) (by omega) (by omega)).mono ?_
  rintro e w1 ⟨rfl, hb1⟩
  go_wp2_with fail
  refine (fromTo_any 65 90 _ (by omega) (by omega) (by omega)).mono ?_
  rintro e w2 ⟨rfl, hb2⟩
  go_wp2_with fail
  refine (fromTo_any 48 57 _ (by omega) (by omega) (by omega)).mono ?_
  rintro e w3 ⟨rfl, hb3⟩
  go_wp2_with fail
  refine (unionR_any _ _ _).mono ?_
  rintro e w4 ⟨rfl, hb4⟩
  have hq := class_pre w w1 w2 w3 w4 (spn 97 122) (spn 65 90) (spn 48 57) hb1 hb2 hb3 hb4
  clear hb1 hb2 hb3 hb4
  obtain ⟨hl3, hl4, HR4, H0, H6, H7, H8⟩ := hq
  obtain ⟨l0, c00, c01, c02, c03, f00, f01, f02, f03⟩ := H0.out
  obtain ⟨l8, c80, c81, c82, c83, f80, f81, f82, f83⟩ := H8.out
  go_wp2
  have HRf := HR4
  refine bodyPost_ret (v := .tuple #[sv (spn 48 57), .int .i64 0]) (by simp [results, Tryz.results31, go_sem, *]) rfl ⟨?_, ?_⟩
  · rfl
  · repeat (first | exact HRf.out | (refine Below.setCell ?_ (by first | omega | (simp <;> omega)) _) | (refine Below.alloc ?_ (by first | omega | (simp <;> omega)) _))

set_option maxHeartbeats 2000000 in
theorem smallR103 (w : World) :
    Calls Tryz.prog 31 #[.int .i64 103] w fun e w' => e = .returned (.tuple #[sv (spn 33 126), .int .i64 0]) ∧ Below w.heap.size w w' := by
  have HH := (show Hid _ from Holds.zero w)
  have HR := (show Hid _ from below1 w z4)
  go_enter Tryz.func31, Tryz.ntmps31
  go_wp2_with fail
  refine (fromTo_any 97 122 _ (by omega) (by omega) (by omega)).mono ?_
  rintro e w1 ⟨rfl, hb1⟩
  go_wp2_with fail
  refine (fromTo_any 65 90 _ (by omega) (by omega) (by omega)).mono ?_
  rintro e w2 ⟨rfl, hb2⟩
  go_wp2_with fail
  refine (fromTo_any 48 57 _ (by omega) (by omega) (by omega)).mono ?_
  rintro e w3 ⟨rfl, hb3⟩
  go_wp2_with fail
  refine (unionR_any _ _ _).mono ?_
  rintro e w4 ⟨rfl, hb4⟩
  have hq := class_pre w w1 w2 w3 w4 (spn 97 122) (spn 65 90) (spn 48 57) hb1 hb2 hb3 hb4
  clear hb1 hb2 hb3 hb4
  obtain ⟨hl3, hl4, HR4, H0, H6, H7, H8⟩ := hq
  have HQ : Hid (Below (w4.heap.size + 1) (w4.alloc (c4 (spn 97 122 ||| spn 65 90))) (w4.alloc (c4 (spn 97 122 ||| spn 65 90)))) := Below.refl _ _
  go_wp2_with fail
  refine (fromTo_any 33 126 _ (by omega) (by omega) (by omega)).mono ?_
  rintro e w5 ⟨rfl, hb⟩
  replace HQ := (show Hid _ from HQ.out.trans (hb.mono (by first | exact HQ.out.size | (have h := HQ.out.size; simp at h; omega) | simp)))
  have HR5 := (show Hid _ from (HR4.out.alloc (by omega) (c4 (spn 97 122 ||| spn 65 90))).trans (HQ.out.mono (by omega)))
  obtain ⟨l0, c00, c01, c02, c03, f00, f01, f02, f03⟩ := (H0.out.alloc (c4 (spn 97 122 ||| spn 65 90))).below HQ.out (by have h := H0.out.lt; omega)
  clear hb
  go_wp2
  have HRf := HR5
  refine bodyPost_ret (v := .tuple #[sv (spn 33 126), .int .i64 0]) (by simp [results, Tryz.results31, go_sem, *]) rfl ⟨?_, ?_⟩
  · rfl
  · repeat (first | exact HRf.out | (refine Below.setCell ?_ (by first | omega | (simp <;> omega)) _) | (refine Below.alloc ?_ (by first | omega | (simp <;> omega)) _))

set_option maxHeartbeats 2000000 in
theorem smallR108 (w : World) :
    Calls Tryz.prog 31 #[.int .i64 108] w fun e w' => e = .returned (.tuple #[sv (spn 97 122), .int .i64 0]) ∧ Below w.heap.size w w' := by
  have HH := (show Hid _ from Holds.zero w)
  have HR := (show Hid _ from below1 w z4)
  go_enter Tryz.func31, Tryz.ntmps31
  go_wp2_with fail
  refine (fromTo_any 97 122 _ (by omega) (by omega) (by omega)).mono ?_
  rintro e w1 ⟨rfl, hb1⟩
  go_wp2_with fail
  refine (fromTo_any 65 90 _ (by omega) (by omega) (by omega)).mono ?_
  rintro e w2 ⟨rfl, hb2⟩
  go_wp2_with fail
  refine (fromTo_any 48 57 _ (by omega) (by omega) (by omega)).mono ?_
  rintro e w3 ⟨rfl, hb3⟩
  go_wp2_with fail
  refine (unionR_any _ _ _).mono ?_
  rintro e w4 ⟨rfl, hb4⟩
  have hq := class_pre w w1 w2 w3 w4 (spn 97 122) (spn 65 90) (spn 48 57) hb1 hb2 hb3 hb4
  clear hb1 hb2 hb3 hb4
  obtain ⟨hl3, hl4, HR4, H0, H6, H7, H8⟩ := hq
  obtain ⟨l0, c00, c01, c02, c03, f00, f01, f02, f03⟩ := H0.out
  obtain ⟨l6, c60, c61, c62, c63, f60, f61, f62, f63⟩ := H6.out
  go_wp2
  have HRf := HR4
  refine bodyPost_ret (v := .tuple #[sv (spn 97 122), .int .i64 0]) (by simp [results, Tryz.results31, go_sem, *]) rfl ⟨?_, ?_⟩
  · rfl
  · repeat (first | exact HRf.out | (refine Below.setCell ?_ (by first | omega | (simp <;> omega)) _) | (refine Below.alloc ?_ (by first | omega | (simp <;> omega)) _))

set_option maxHeartbeats 2000000 in
theorem smallR115 (w : World) :
    Calls Tryz.prog 31 #[.int .i64 115] w fun e w' => e = .returned (.tuple #[sv (spn 9 13 ||| bt 32), .int .i64 0]) ∧ Below w.heap.size w w' := by
  have HH := (show Hid _ from Holds.zero w)
  have HR := (show Hid _ from below1 w z4)
  go_enter Tryz.func31, Tryz.ntmps31
  go_wp2_with fail
  refine (fromTo_any 97 122 _ (by omega) (by omega) (by omega)).mono ?_
  rintro e w1 ⟨rfl, hb1⟩
  go_wp2_with fail
  refine (fromTo_any 65 90 _ (by omega) (by omega) (by omega)).mono ?_
  rintro e w2 ⟨rfl, hb2⟩
  go_wp2_with fail
  refine (fromTo_any 48 57 _ (by omega) (by omega) (by omega)).mono ?_
  rintro e w3 ⟨rfl, hb3⟩
  go_wp2_with fail
  refine (unionR_any _ _ _).mono ?_
  rintro e w4 ⟨rfl, hb4⟩
  have hq := class_pre w w1 w2 w3 w4 (spn 97 122) (spn 65 90) (spn 48 57) hb1 hb2 hb3 hb4
  clear hb1 hb2 hb3 hb4
  obtain ⟨hl3, hl4, HR4, H0, H6, H7, H8⟩ := hq
  have HQ : Hid (Below (w4.heap.size + 1) (w4.alloc (c4 (spn 97 122 ||| spn 65 90))) (w4.alloc (c4 (spn 97 122 ||| spn 65 90)))) := Below.refl _ _
  go_wp2_with fail
  refine (fromTo_any 9 13 _ (by omega) (by omega) (by omega)).mono ?_
  rintro e w5 ⟨rfl, hb⟩
  replace HQ := (show Hid _ from HQ.out.trans (hb.mono (by first | exact HQ.out.size | (have h := HQ.out.size; simp at h; omega) | simp)))
  go_wp2_with fail
  refine (withR_any _ 32 _ (by omega) (by omega)).mono ?_
  rintro e w5 ⟨rfl, hb⟩
  replace HQ := (show Hid _ from HQ.out.trans (hb.mono (by first | exact HQ.out.size | (have h := HQ.out.size; simp at h; omega) | simp)))
  rw [show (32 : Int).toNat = 32 from rfl]
  have HR5 := (show Hid _ from (HR4.out.alloc (by omega) (c4 (spn 97 122 ||| spn 65 90))).trans (HQ.out.mono (by omega)))
  obtain ⟨l0, c00, c01, c02, c03, f00, f01, f02, f03⟩ := (H0.out.alloc (c4 (spn 97 122 ||| spn 65 90))).below HQ.out (by have h := H0.out.lt; omega)
  clear hb
  go_wp2
  have HRf := HR5
  refine bodyPost_ret (v := .tuple #[sv (spn 9 13 ||| bt 32), .int .i64 0]) (by simp [results, Tryz.results31, go_sem, *]) rfl ⟨?_, ?_⟩
  · rfl
  · repeat (first | exact HRf.out | (refine Below.setCell ?_ (by first | omega | (simp <;> omega)) _) | (refine Below.alloc ?_ (by first | omega | (simp <;> omega)) _))

set_option maxHeartbeats 2000000 in
theorem smallR117 (w : World) :
    Calls Tryz.prog 31 #[.int .i64 117] w fun e w' => e = .returned (.tuple #[sv (spn 65 90), .int .i64 0]) ∧ Below w.heap.size w w' := by
  have HH := (show Hid _ from Holds.zero w)
  have HR := (show Hid _ from below1 w z4)
  go_enter Tryz.func31, Tryz.ntmps31
  go_wp2_with fail
  refine (fromTo_any 97 122 _ (by omega) (by omega) (by omega)).mono ?_
  rintro e w1 ⟨rfl, hb1⟩
  go_wp2_with fail
  refine (fromTo_any 65 90 _ (by omega) (by omega) (by omega)).mono ?_
  rintro e w2 ⟨rfl, hb2⟩
  go_wp2_with fail
  refine (fromTo_any 48 57 _ (by omega) (by omega) (by omega)).mono ?_
  rintro e w3 ⟨rfl, hb3⟩
  go_wp2_with fail
  refine (unionR_any _ _ _).mono ?_
  rintro e w4 ⟨rfl, hb4⟩
  have hq := class_pre w w1 w2 w3 w4 (spn 97 122) (spn 65 90) (spn 48 57) hb1 hb2 hb3 hb4
  clear hb1 hb2 hb3 hb4
  obtain ⟨hl3, hl4, HR4, H0, H6, H7, H8⟩ := hq
  obtain ⟨l0, c00, c01, c02, c03, f00, f01, f02, f03⟩ := H0.out
  obtain ⟨l7, c70, c71, c72, c73, f70, f71, f72, f73⟩ := H7.out
  go_wp2
  have HRf := HR4
  refine bodyPost_ret (v := .tuple #[sv (spn 65 90), .int .i64 0]) (by simp [results, Tryz.results31, go_sem, *]) rfl ⟨?_, ?_⟩
  · rfl
  · repeat (first | exact HRf.out | (refine Below.setCell ?_ (by first | omega | (simp <;> omega)) _) | (refine Below.alloc ?_ (by first | omega | (simp <;> omega)) _))

set_option maxHeartbeats 2000000 in
theorem smallR119 (w : World) :
    Calls Tryz.prog 31 #[.int .i64 119] w fun e w' => e = .returned (.tuple #[sv (spn 65 90 ||| spn 97 122 ||| spn 48 57), .int .i64 0]) ∧ Below w.heap.size w w' := by
  have HH := (show Hid _ from Holds.zero w)
  have HR := (show Hid _ from below1 w z4)
  go_enter Tryz.func31, Tryz.ntmps31
  go_wp2_with fail
  refine (fromTo_any 97 122 _ (by omega) (by omega) (by omega)).mono ?_
  rintro e w1 ⟨rfl, hb1⟩
  go_wp2_with fail
  refine (fromTo_any 65 90 _ (by omega) (by omega) (by omega)).mono ?_
  rintro e w2 ⟨rfl, hb2⟩
  go_wp2_with fail
  refine (fromTo_any 48 57 _ (by omega) (by omega) (by omega)).mono ?_
  rintro e w3 ⟨rfl, hb3⟩
  go_wp2_with fail
  refine (unionR_any _ _ _).mono ?_
  rintro e w4 ⟨rfl, hb4⟩
  have hq := class_pre w w1 w2 w3 w4 (spn 97 122) (spn 65 90) (spn 48 57) hb1 hb2 hb3 hb4
  clear hb1 hb2 hb3 hb4
  obtain ⟨hl3, hl4, HR4, H0, H6, H7, H8⟩ := hq
  have HQ : Hid (Below (w4.heap.size + 1) (w4.alloc (c4 (spn 97 122 ||| spn 65 90))) (w4.alloc (c4 (spn 97 122 ||| spn 65 90)))) := Below.refl _ _
  obtain ⟨l8, c80, c81, c82, c83, f80, f81, f82, f83⟩ := H8.out
  go_wp2_with fail
  refine (unionR_any _ _ _).mono ?_
  rintro e w5 ⟨rfl, hb⟩
  replace HQ := (show Hid _ from HQ.out.trans (hb.mono (by first | exact HQ.out.size | (have h := HQ.out.size; simp at h; omega) | simp)))
  have HR5 := (show Hid _ from (HR4.out.alloc (by omega) (c4 (spn 97 122 ||| spn 65 90))).trans (HQ.out.mono (by omega)))
  obtain ⟨l0, c00, c01, c02, c03, f00, f01, f02, f03⟩ := (H0.out.alloc (c4 (spn 97 122 ||| spn 65 90))).below HQ.out (by have h := H0.out.lt; omega)
  clear hb
  go_wp2
  have HRf := HR5
  refine bodyPost_ret (v := .tuple #[sv ((spn 97 122 ||| spn 65 90) ||| spn 48 57), .int .i64 0]) (by simp [results, Tryz.results31, go_sem, *]) rfl ⟨?_, ?_⟩
  · exact congrArg (fun q => Ending.returned (.tuple #[sv q, .int .i64 0])) (by rw [BitVec.or_comm (spn 97 122)])
  · repeat (first | exact HRf.out | (refine Below.setCell ?_ (by first | omega | (simp <;> omega)) _) | (refine Below.alloc ?_ (by first | omega | (simp <;> omega)) _))
end Go.Proofs.YthffklhojdldkaaGreatDoor

namespace Go.Proofs.YthffklhojdldkaaGreatDoor
open Go.RowKit
set_option maxHeartbeats 2000000 in
theorem smallR112 (w : World) :
    Calls Tryz.prog 31 #[.int .i64 112] w fun e w' => e = .returned (.tuple #[sv (spn 33 126 &&& ~~~ (spn 65 90 ||| spn 97 122 ||| spn 48 57)), .int .i64 0]) ∧ Below w.heap.size w w' := by
  have HH := (show Hid _ from Holds.zero w)
  have HR := (show Hid _ from below1 w z4)
  go_enter Tryz.func31, Tryz.ntmps31
  go_wp2_with fail
  refine (fromTo_any 97 122 _ (by omega) (by omega) (by omega)).mono ?_
  rintro e w1 ⟨rfl, hb1⟩
  go_wp2_with fail
  refine (fromTo_any 65 90 _ (by omega) (by omega) (by omega)).mono ?_
  rintro e w2 ⟨rfl, hb2⟩
  go_wp2_with fail
  refine (fromTo_any 48 57 _ (by omega) (by omega) (by omega)).mono ?_
  rintro e w3 ⟨rfl, hb3⟩
  go_wp2_with fail
  refine (unionR_any _ _ _).mono ?_
  rintro e w4 ⟨rfl, hb4⟩
  have hq := class_pre w w1 w2 w3 w4 (spn 97 122) (spn 65 90) (spn 48 57) hb1 hb2 hb3 hb4
  clear hb1 hb2 hb3 hb4
  obtain ⟨hl3, hl4, HR4, H0, H6, H7, H8⟩ := hq
  have HQ : Hid (Below (w4.heap.size + 1) (w4.alloc (c4 (spn 97 122 ||| spn 65 90))) (w4.alloc (c4 (spn 97 122 ||| spn 65 90)))) := Below.refl _ _
  obtain ⟨l8, c80, c81, c82, c83, f80, f81, f82, f83⟩ := H8.out
  go_wp2
  go_region_with (first | (go_at_call 60; refine (fromTo_any 33 126 _ (by omega) (by omega) (by omega)).mono ?_; rintro e w5 ⟨rfl, hb⟩; have hq2 : Below (w4.heap.size + 1) (w4.alloc (c4 (spn 97 122 ||| spn 65 90))) w5 := (by first | exact HQ.out.trans (hb.mono (by first | exact HQ.out.size | (have h := HQ.out.size; simp at h; omega))) | exact HQ.out.drew.trans (hb.mono (by simp))); replace HQ := (show Hid _ from hq2); obtain ⟨l0, c00, c01, c02, c03, f00, f01, f02, f03⟩ := (H0.out.alloc (c4 (spn 97 122 ||| spn 65 90))).below HQ.out (by have h := H0.out.lt; omega); obtain ⟨l8, c80, c81, c82, c83, f80, f81, f82, f83⟩ := (H8.out.alloc (c4 (spn 97 122 ||| spn 65 90))).below HQ.out (by omega); obtain ⟨l9, c90, c91, c92, c93, f90, f91, f92, f93⟩ := (Holds.new w4 (spn 97 122 ||| spn 65 90)).below HQ.out (by omega)) | (go_at_call 61; refine (unionR_any _ _ _).mono ?_; rintro e w5 ⟨rfl, hb⟩; have hq2 : Below (w4.heap.size + 1) (w4.alloc (c4 (spn 97 122 ||| spn 65 90))) w5 := (by first | exact HQ.out.trans (hb.mono (by first | exact HQ.out.size | (have h := HQ.out.size; simp at h; omega))) | exact HQ.out.drew.trans (hb.mono (by simp))); replace HQ := (show Hid _ from hq2); obtain ⟨l0, c00, c01, c02, c03, f00, f01, f02, f03⟩ := (H0.out.alloc (c4 (spn 97 122 ||| spn 65 90))).below HQ.out (by have h := H0.out.lt; omega); obtain ⟨l8, c80, c81, c82, c83, f80, f81, f82, f83⟩ := (H8.out.alloc (c4 (spn 97 122 ||| spn 65 90))).below HQ.out (by omega); obtain ⟨l9, c90, c91, c92, c93, f90, f91, f92, f93⟩ := (Holds.new w4 (spn 97 122 ||| spn 65 90)).below HQ.out (by omega)) | (go_at_call 63; refine (lessR_any _ _ _).mono ?_; rintro e w5 ⟨rfl, hb⟩; have hq2 : Below (w4.heap.size + 1) (w4.alloc (c4 (spn 97 122 ||| spn 65 90))) w5 := (by first | exact HQ.out.trans (hb.mono (by first | exact HQ.out.size | (have h := HQ.out.size; simp at h; omega))) | exact HQ.out.drew.trans (hb.mono (by simp))); replace HQ := (show Hid _ from hq2); obtain ⟨l0, c00, c01, c02, c03, f00, f01, f02, f03⟩ := (H0.out.alloc (c4 (spn 97 122 ||| spn 65 90))).below HQ.out (by have h := H0.out.lt; omega); obtain ⟨l8, c80, c81, c82, c83, f80, f81, f82, f83⟩ := (H8.out.alloc (c4 (spn 97 122 ||| spn 65 90))).below HQ.out (by omega); obtain ⟨l9, c90, c91, c92, c93, f90, f91, f92, f93⟩ := (Holds.new w4 (spn 97 122 ||| spn 65 90)).below HQ.out (by omega)))
  all_goals
    have HR5 := (show Hid _ from (HR4.out.alloc (by omega) (c4 (spn 97 122 ||| spn 65 90))).trans (HQ.out.mono (by omega)))
    clear hb
    go_wp2
    have HRf := HR5
    refine bodyPost_ret (v := .tuple #[sv (spn 33 126 &&& ~~~ ((spn 97 122 ||| spn 65 90) ||| spn 48 57)), .int .i64 0]) (by simp [results, Tryz.results31, go_sem, *]) rfl ⟨?_, ?_⟩
    · exact congrArg (fun q => Ending.returned (.tuple #[sv q, .int .i64 0])) (by rw [BitVec.or_comm (spn 97 122)])
    · repeat (first | exact HRf.out | (refine Below.setCell ?_ (by first | omega | (simp <;> omega)) _) | (refine Below.alloc ?_ (by first | omega | (simp <;> omega)) _))
end Go.Proofs.YthffklhojdldkaaGreatDoor

namespace Go.Proofs.YthffklhojdldkaaGreatDoor
open Go.RowKit
set_option maxHeartbeats 2000000 in
theorem smallR120 (w : World) :
    Calls Tryz.prog 31 #[.int .i64 120] w fun e w' => e = .returned (.tuple #[sv (spn 48 57 ||| spn 65 70 ||| spn 97 102), .int .i64 0]) ∧ Below w.heap.size w w' := by
  have HH := (show Hid _ from Holds.zero w)
  have HR := (show Hid _ from below1 w z4)
  go_enter Tryz.func31, Tryz.ntmps31
  go_wp2_with fail
  refine (fromTo_any 97 122 _ (by omega) (by omega) (by omega)).mono ?_
  rintro e w1 ⟨rfl, hb1⟩
  go_wp2_with fail
  refine (fromTo_any 65 90 _ (by omega) (by omega) (by omega)).mono ?_
  rintro e w2 ⟨rfl, hb2⟩
  go_wp2_with fail
  refine (fromTo_any 48 57 _ (by omega) (by omega) (by omega)).mono ?_
  rintro e w3 ⟨rfl, hb3⟩
  go_wp2_with fail
  refine (unionR_any _ _ _).mono ?_
  rintro e w4 ⟨rfl, hb4⟩
  have hq := class_pre w w1 w2 w3 w4 (spn 97 122) (spn 65 90) (spn 48 57) hb1 hb2 hb3 hb4
  clear hb1 hb2 hb3 hb4
  obtain ⟨hl3, hl4, HR4, H0, H6, H7, H8⟩ := hq
  have HQ : Hid (Below (w4.heap.size + 1) (w4.alloc (c4 (spn 97 122 ||| spn 65 90))) (w4.alloc (c4 (spn 97 122 ||| spn 65 90)))) := Below.refl _ _
  obtain ⟨l8, c80, c81, c82, c83, f80, f81, f82, f83⟩ := H8.out
  go_wp2
  go_region_with (first | (go_at_call 60; refine (fromTo_any _ _ _ (by omega) (by omega) (by omega)).mono ?_; rintro e w5 ⟨rfl, hb⟩; have hq2 : Below (w4.heap.size + 1) (w4.alloc (c4 (spn 97 122 ||| spn 65 90))) w5 := (by first | exact HQ.out.trans (hb.mono (by first | exact HQ.out.size | (have h := HQ.out.size; simp at h; omega))) | exact HQ.out.drew.trans (hb.mono (by simp))); replace HQ := (show Hid _ from hq2); obtain ⟨l0, c00, c01, c02, c03, f00, f01, f02, f03⟩ := (H0.out.alloc (c4 (spn 97 122 ||| spn 65 90))).below HQ.out (by have h := H0.out.lt; omega); obtain ⟨l8, c80, c81, c82, c83, f80, f81, f82, f83⟩ := (H8.out.alloc (c4 (spn 97 122 ||| spn 65 90))).below HQ.out (by omega)) | (go_at_call 61; refine (unionR_any _ _ _).mono ?_; rintro e w5 ⟨rfl, hb⟩; have hq2 : Below (w4.heap.size + 1) (w4.alloc (c4 (spn 97 122 ||| spn 65 90))) w5 := (by first | exact HQ.out.trans (hb.mono (by first | exact HQ.out.size | (have h := HQ.out.size; simp at h; omega))) | exact HQ.out.drew.trans (hb.mono (by simp))); replace HQ := (show Hid _ from hq2); obtain ⟨l0, c00, c01, c02, c03, f00, f01, f02, f03⟩ := (H0.out.alloc (c4 (spn 97 122 ||| spn 65 90))).below HQ.out (by have h := H0.out.lt; omega); obtain ⟨l8, c80, c81, c82, c83, f80, f81, f82, f83⟩ := (H8.out.alloc (c4 (spn 97 122 ||| spn 65 90))).below HQ.out (by omega)))
  all_goals
    have HR5 := (show Hid _ from (HR4.out.alloc (by omega) (c4 (spn 97 122 ||| spn 65 90))).trans (HQ.out.mono (by omega)))
    clear hb
    go_wp2
    have HRf := HR5
    refine bodyPost_ret (v := .tuple #[sv (spn 48 57 ||| (spn 65 70 ||| spn 97 102)), .int .i64 0]) (by simp [results, Tryz.results31, go_sem, *]) rfl ⟨?_, ?_⟩
    · exact congrArg (fun q => Ending.returned (.tuple #[sv q, .int .i64 0])) ((BitVec.or_assoc _ _ _).symm)
    · repeat (first | exact HRf.out | (refine Below.setCell ?_ (by first | omega | (simp <;> omega)) _) | (refine Below.alloc ?_ (by first | omega | (simp <;> omega)) _))
end Go.Proofs.YthffklhojdldkaaGreatDoor

namespace Go.Proofs.YthffklhojdldkaaGreatDoor
open Go.RowKit
set_option maxHeartbeats 2000000 in
theorem smallNoneR (n : Int) (w : World) (hcap : ¬ (65 ≤ n ∧ n ≤ 90)) (h97 : (n == 97) = false) (h99 : (n == 99) = false) (h100 : (n == 100) = false) (h103 : (n == 103) = false) (h108 : (n == 108) = false) (h112 : (n == 112) = false) (h115 : (n == 115) = false) (h117 : (n == 117) = false) (h119 : (n == 119) = false) (h120 : (n == 120) = false) :
    Calls Tryz.prog 31 #[.int .i64 n] w fun e w' => e = .returned (.tuple #[sv 0#256, .int .i64 10]) ∧ Below w.heap.size w w' := by
  by_cases g0 : 65 ≤ n
  · have g1 : ¬ n ≤ 90 := fun h => hcap ⟨g0, h⟩
    have d0 : decide (65 ≤ n) = true := by simpa using g0
    have d1 : decide (n ≤ 90) = false := by simpa using g1
    clear hcap
    have HH := (show Hid _ from Holds.zero w)
    have HR := (show Hid _ from below1 w z4)
    go_enter Tryz.func31, Tryz.ntmps31
    go_wp2_with fail
    refine (fromTo_any 97 122 _ (by omega) (by omega) (by omega)).mono ?_
    rintro e w1 ⟨rfl, hb1⟩
    go_wp2_with fail
    refine (fromTo_any 65 90 _ (by omega) (by omega) (by omega)).mono ?_
    rintro e w2 ⟨rfl, hb2⟩
    go_wp2_with fail
    refine (fromTo_any 48 57 _ (by omega) (by omega) (by omega)).mono ?_
    rintro e w3 ⟨rfl, hb3⟩
    go_wp2_with fail
    refine (unionR_any _ _ _).mono ?_
    rintro e w4 ⟨rfl, hb4⟩
    have hq := class_pre w w1 w2 w3 w4 (spn 97 122) (spn 65 90) (spn 48 57) hb1 hb2 hb3 hb4
    clear hb1 hb2 hb3 hb4
    obtain ⟨hl3, hl4, HR4, H0, H6, H7, H8⟩ := hq
    obtain ⟨l0, c0, c1, c2, c3, f0, f1, f2, f3⟩ := H0.out
    go_wp2
    have HRf := HR4
    refine bodyPost_ret (v := .tuple #[sv 0#256, .int .i64 10]) (by simp [results, Tryz.results31, go_sem, wd_zero, *]) rfl ⟨rfl, ?_⟩
    repeat (first | exact HRf.out | (refine Below.setCell ?_ (by first | omega | (simp <;> omega)) _) | (refine Below.alloc ?_ (by first | omega | (simp <;> omega)) _))
  · have d0 : decide (65 ≤ n) = false := by simpa using g0
    clear hcap
    have HH := (show Hid _ from Holds.zero w)
    have HR := (show Hid _ from below1 w z4)
    go_enter Tryz.func31, Tryz.ntmps31
    go_wp2_with fail
    refine (fromTo_any 97 122 _ (by omega) (by omega) (by omega)).mono ?_
    rintro e w1 ⟨rfl, hb1⟩
    go_wp2_with fail
    refine (fromTo_any 65 90 _ (by omega) (by omega) (by omega)).mono ?_
    rintro e w2 ⟨rfl, hb2⟩
    go_wp2_with fail
    refine (fromTo_any 48 57 _ (by omega) (by omega) (by omega)).mono ?_
    rintro e w3 ⟨rfl, hb3⟩
    go_wp2_with fail
    refine (unionR_any _ _ _).mono ?_
    rintro e w4 ⟨rfl, hb4⟩
    have hq := class_pre w w1 w2 w3 w4 (spn 97 122) (spn 65 90) (spn 48 57) hb1 hb2 hb3 hb4
    clear hb1 hb2 hb3 hb4
    obtain ⟨hl3, hl4, HR4, H0, H6, H7, H8⟩ := hq
    obtain ⟨l0, c0, c1, c2, c3, f0, f1, f2, f3⟩ := H0.out
    go_wp2
    have HRf := HR4
    refine bodyPost_ret (v := .tuple #[sv 0#256, .int .i64 10]) (by simp [results, Tryz.results31, go_sem, wd_zero, *]) rfl ⟨rfl, ?_⟩
    repeat (first | exact HRf.out | (refine Below.setCell ?_ (by first | omega | (simp <;> omega)) _) | (refine Below.alloc ?_ (by first | omega | (simp <;> omega)) _))

/-- A letter that is no capital. -/
theorem smallR_any (n : Nat) (w : World) (hcap : ¬ (65 ≤ n ∧ n ≤ 90)) :
    Calls Tryz.prog 31 #[.int .i64 n] w fun e w' => e = .returned (.tuple #[sv (sml n).1, .int .i64 (sml n).2]) ∧ Below w.heap.size w w' := by
  by_cases h97 : n = 97
  · subst h97; rw [sml97]; exact smallR97 w
  by_cases h99 : n = 99
  · subst h99; rw [sml99]; exact smallR99 w
  by_cases h100 : n = 100
  · subst h100; rw [sml100]; exact smallR100 w
  by_cases h103 : n = 103
  · subst h103; rw [sml103]; exact smallR103 w
  by_cases h108 : n = 108
  · subst h108; rw [sml108]; exact smallR108 w
  by_cases h112 : n = 112
  · subst h112; rw [sml112]; exact smallR112 w
  by_cases h115 : n = 115
  · subst h115; rw [sml115]; exact smallR115 w
  by_cases h117 : n = 117
  · subst h117; rw [sml117]; exact smallR117 w
  by_cases h119 : n = 119
  · subst h119; rw [sml119]; exact smallR119 w
  by_cases h120 : n = 120
  · subst h120; rw [sml120]; exact smallR120 w
  rw [sml_none n h97 h99 h100 h103 h108 h112 h115 h117 h119 h120]
  exact smallNoneR n w (by omega) (beq_eq_false_iff_ne.2 (by omega)) (beq_eq_false_iff_ne.2 (by omega)) (beq_eq_false_iff_ne.2 (by omega)) (beq_eq_false_iff_ne.2 (by omega)) (beq_eq_false_iff_ne.2 (by omega)) (beq_eq_false_iff_ne.2 (by omega)) (beq_eq_false_iff_ne.2 (by omega)) (beq_eq_false_iff_ne.2 (by omega)) (beq_eq_false_iff_ne.2 (by omega)) (beq_eq_false_iff_ne.2 (by omega))

theorem smallM_any (n : Int) (w : World) (hn : n < 0) :
    Calls Tryz.prog 31 #[.int .i64 n] w fun e w' => e = .returned (.tuple #[sv 0#256, .int .i64 10]) ∧ Below w.heap.size w w' :=
  smallNoneR n w (by omega) (beq_eq_false_iff_ne.2 (by omega)) (beq_eq_false_iff_ne.2 (by omega)) (beq_eq_false_iff_ne.2 (by omega)) (beq_eq_false_iff_ne.2 (by omega)) (beq_eq_false_iff_ne.2 (by omega)) (beq_eq_false_iff_ne.2 (by omega)) (beq_eq_false_iff_ne.2 (by omega)) (beq_eq_false_iff_ne.2 (by omega)) (beq_eq_false_iff_ne.2 (by omega)) (beq_eq_false_iff_ne.2 (by omega))

set_option maxHeartbeats 1000000 in
theorem classR_any (n : Nat) (hn : n < 256) (w : World) :
    Calls Tryz.prog 31 #[.int .i64 n] w fun e w' => e = .returned (.tuple #[sv (cls n).1, .int .i64 (cls n).2]) ∧ Below w.heap.size w w' := by
  by_cases hc : 65 ≤ n ∧ n ≤ 90
  · have HH := (show Hid _ from Holds.zero w)
    have HR := (show Hid _ from below1 w z4)
    have Hc := (show Hid _ from hc)
    have g0 : 65 ≤ (n : Int) := by omega
    have g1 : (n : Int) ≤ 90 := by omega
    have d0 : decide (65 ≤ (n : Int)) = true := by simpa using g0
    have d1 : decide ((n : Int) ≤ 90) = true := by simpa using g1
    clear hc
    rcases sml_err (n + 32) with he | he
    · have HE := (show Hid _ from cls_yes n Hc.out he)
      go_enter Tryz.func31, Tryz.ntmps31
      go_wp2_with fail
      rw [show (n : Int) + 32 = ((n + 32 : Nat) : Int) from by omega]
      refine (smallR_any (n + 32) _ (by have := Hc.out; omega)).mono ?_
      rintro e w1 ⟨rfl, hb⟩
      have hl : w.heap.size < w1.heap.size := by have h := hb.size; simp at h; omega
      have HR1 := (show Hid _ from HR.out.trans (hb.mono (by simp)))
      have HH1 := (show Hid _ from HH.out.below hb (by simp))
      rw [he]
      clear he hb HH HR
      generalize (sml (n + 32)).1 = r at *
      go_wp2_with fail
      refine (notR_any r _).mono ?_
      rintro e w2 ⟨rfl, hb⟩
      have HR2 := (show Hid _ from (HR1.out.alloc (by omega) (c4 r)).trans (hb.mono (by simp; omega)))
      have hl2 : w.heap.size < w2.heap.size := by have h := hb.size; simp at h; omega
      obtain ⟨l0, c0, c1, c2, c3, f0, f1, f2, f3⟩ := (HH1.out.alloc (c4 r)).below hb (by simp; omega)
      generalize hr : ~~~ r = q at *
      clear hr hb
      go_wp2
      rw [HE.out]
      refine bodyPost_ret (v := .tuple #[sv q, .int .i64 0]) (by simp [results, Tryz.results31, go_sem, *]) rfl ⟨rfl, put4_below HR2.out (Nat.le_refl _) _⟩
    · have HE := (show Hid _ from cls_no n Hc.out he)
      go_enter Tryz.func31, Tryz.ntmps31
      go_wp2_with fail
      rw [show (n : Int) + 32 = ((n + 32 : Nat) : Int) from by omega]
      refine (smallR_any (n + 32) _ (by have := Hc.out; omega)).mono ?_
      rintro e w1 ⟨rfl, hb⟩
      have hl : w.heap.size < w1.heap.size := by have h := hb.size; simp at h; omega
      have HR1 := (show Hid _ from HR.out.trans (hb.mono (by simp)))
      obtain ⟨l0, c0, c1, c2, c3, f0, f1, f2, f3⟩ := HH.out.below hb (by simp)
      rw [he]
      clear he hb HH HR
      generalize (sml (n + 32)).1 = r at *
      go_wp2
      rw [HE.out]
      refine bodyPost_ret (v := .tuple #[sv 0#256, .int .i64 10]) (by simp [results, Tryz.results31, go_sem, wd_zero, *]) rfl ⟨rfl, ?_⟩
      repeat (first | exact HR1.out | (refine Below.setCell ?_ (by first | omega | (simp <;> omega)) _) | (refine Below.alloc ?_ (by first | omega | (simp <;> omega)) _))
  · rw [cls_small n hc]
    exact smallR_any n w hc
end Go.Proofs.YthffklhojdldkaaGreatDoor
