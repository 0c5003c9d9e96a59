/- DERIVED. Plain mathematics and walks, laid together (14). -/
import Derived.Deep.RegionLaw
import Derived.Laws.Bits64
import Derived.Test.YtkihfkcmcdiajaaGreatDoorPk13
namespace Go.Proofs.YtkihfkcmcdiajaaGreatDoor
open Go.RowKit
set_option maxHeartbeats 400000 in
theorem small97 (w : World) :
    Calls Tryz.prog 153 #[.int .u8 97] w fun e w' => e = .returned (.tuple #[sv (spn 65 90 ||| spn 97 122), .int .i64 0]) ∧ Below w.heap.size w w' := by
  have HH := (show Hid _ from Holds.zero w)
  have HR := (show Hid _ from below1 w z4)
  have HQ : Hid (Below (w.heap.size + 1) (w.alloc z4) (w.alloc z4)) := Below.refl _ _
  go_enter Tryz.func153, Tryz.ntmps153
  go_wp2_with fail
  refine (letters_any _).mono ?_
  rintro e w1 ⟨rfl, hb⟩
  replace HQ := (show Hid _ from HQ.out.trans (hb.mono (by first | exact HQ.out.size | (have h := HQ.out.size; simp at h; omega) | simp)))
  have HR1 := (show Hid _ from HR.out.trans (HQ.out.mono (by omega)))
  obtain ⟨l0, c0, c1, c2, c3, f0, f1, f2, f3⟩ := HH.out.below HQ.out (by omega)
  generalize hr : spn 65 90 ||| spn 97 122 = r
  have Hr := (show Hid _ from hr)
  clear hr
  go_wp2
  exact bodyPost_ret (v := .tuple #[sv r, .int .i64 0]) (by simp [results, Tryz.results153, go_sem, *]) rfl ⟨by rw [Hr.out], (((HR1.out.setCell (by simp) _).setCell (by simp) _).setCell (by simp) _).setCell (by simp) _⟩

set_option maxHeartbeats 400000 in
theorem small99 (w : World) :
    Calls Tryz.prog 153 #[.int .u8 99] w fun e w' => e = .returned (.tuple #[sv (spn 0 31 ||| bt 127), .int .i64 0]) ∧ Below w.heap.size w w' := by
  have HH := (show Hid _ from Holds.zero w)
  have HR := (show Hid _ from below1 w z4)
  have HQ : Hid (Below (w.heap.size + 1) (w.alloc z4) (w.alloc z4)) := Below.refl _ _
  go_enter Tryz.func153, Tryz.ntmps153
  go_wp2_with fail
  refine (bytesFrom_any 0 31 _ (by omega) (by omega) (by omega)).mono ?_
  rintro e w1 ⟨rfl, hb⟩
  replace HQ := (show Hid _ from HQ.out.trans (hb.mono (by first | exact HQ.out.size | (have h := HQ.out.size; simp at h; omega) | simp)))
  go_wp2_with fail
  refine (with_any _ 127 _ (by omega) (by omega)).mono ?_
  rintro e w1 ⟨rfl, hb⟩
  replace HQ := (show Hid _ from HQ.out.trans (hb.mono (by first | exact HQ.out.size | (have h := HQ.out.size; simp at h; omega) | simp)))
  rw [show (127 : Int).toNat = 127 from rfl]
  have HR1 := (show Hid _ from HR.out.trans (HQ.out.mono (by omega)))
  obtain ⟨l0, c0, c1, c2, c3, f0, f1, f2, f3⟩ := HH.out.below HQ.out (by omega)
  generalize hr : spn 0 31 ||| bt 127 = r
  have Hr := (show Hid _ from hr)
  clear hr
  go_wp2
  exact bodyPost_ret (v := .tuple #[sv r, .int .i64 0]) (by simp [results, Tryz.results153, go_sem, *]) rfl ⟨by rw [Hr.out], (((HR1.out.setCell (by simp) _).setCell (by simp) _).setCell (by simp) _).setCell (by simp) _⟩

set_option maxHeartbeats 400000 in
theorem small100 (w : World) :
    Calls Tryz.prog 153 #[.int .u8 100] w fun e w' => e = .returned (.tuple #[sv (spn 48 57), .int .i64 0]) ∧ Below w.heap.size w w' := by
  have HH := (show Hid _ from Holds.zero w)
  have HR := (show Hid _ from below1 w z4)
  have HQ : Hid (Below (w.heap.size + 1) (w.alloc z4) (w.alloc z4)) := Below.refl _ _
  go_enter Tryz.func153, Tryz.ntmps153
  go_wp2_with fail
  refine (bytesFrom_any 48 57 _ (by omega) (by omega) (by omega)).mono ?_
  rintro e w1 ⟨rfl, hb⟩
  replace HQ := (show Hid _ from HQ.out.trans (hb.mono (by first | exact HQ.out.size | (have h := HQ.out.size; simp at h; omega) | simp)))
  have HR1 := (show Hid _ from HR.out.trans (HQ.out.mono (by omega)))
  obtain ⟨l0, c0, c1, c2, c3, f0, f1, f2, f3⟩ := HH.out.below HQ.out (by omega)
  generalize hr : spn 48 57 = r
  have Hr := (show Hid _ from hr)
  clear hr
  go_wp2
  exact bodyPost_ret (v := .tuple #[sv r, .int .i64 0]) (by simp [results, Tryz.results153, go_sem, *]) rfl ⟨by rw [Hr.out], (((HR1.out.setCell (by simp) _).setCell (by simp) _).setCell (by simp) _).setCell (by simp) _⟩

set_option maxHeartbeats 400000 in
theorem small103 (w : World) :
    Calls Tryz.prog 153 #[.int .u8 103] w fun e w' => e = .returned (.tuple #[sv (spn 33 126), .int .i64 0]) ∧ Below w.heap.size w w' := by
  have HH := (show Hid _ from Holds.zero w)
  have HR := (show Hid _ from below1 w z4)
  have HQ : Hid (Below (w.heap.size + 1) (w.alloc z4) (w.alloc z4)) := Below.refl _ _
  go_enter Tryz.func153, Tryz.ntmps153
  go_wp2_with fail
  refine (bytesFrom_any 33 126 _ (by omega) (by omega) (by omega)).mono ?_
  rintro e w1 ⟨rfl, hb⟩
  replace HQ := (show Hid _ from HQ.out.trans (hb.mono (by first | exact HQ.out.size | (have h := HQ.out.size; simp at h; omega) | simp)))
  have HR1 := (show Hid _ from HR.out.trans (HQ.out.mono (by omega)))
  obtain ⟨l0, c0, c1, c2, c3, f0, f1, f2, f3⟩ := HH.out.below HQ.out (by omega)
  generalize hr : spn 33 126 = r
  have Hr := (show Hid _ from hr)
  clear hr
  go_wp2
  exact bodyPost_ret (v := .tuple #[sv r, .int .i64 0]) (by simp [results, Tryz.results153, go_sem, *]) rfl ⟨by rw [Hr.out], (((HR1.out.setCell (by simp) _).setCell (by simp) _).setCell (by simp) _).setCell (by simp) _⟩

set_option maxHeartbeats 400000 in
theorem small108 (w : World) :
    Calls Tryz.prog 153 #[.int .u8 108] w fun e w' => e = .returned (.tuple #[sv (spn 97 122), .int .i64 0]) ∧ Below w.heap.size w w' := by
  have HH := (show Hid _ from Holds.zero w)
  have HR := (show Hid _ from below1 w z4)
  have HQ : Hid (Below (w.heap.size + 1) (w.alloc z4) (w.alloc z4)) := Below.refl _ _
  go_enter Tryz.func153, Tryz.ntmps153
  go_wp2_with fail
  refine (bytesFrom_any 97 122 _ (by omega) (by omega) (by omega)).mono ?_
  rintro e w1 ⟨rfl, hb⟩
  replace HQ := (show Hid _ from HQ.out.trans (hb.mono (by first | exact HQ.out.size | (have h := HQ.out.size; simp at h; omega) | simp)))
  have HR1 := (show Hid _ from HR.out.trans (HQ.out.mono (by omega)))
  obtain ⟨l0, c0, c1, c2, c3, f0, f1, f2, f3⟩ := HH.out.below HQ.out (by omega)
  generalize hr : spn 97 122 = r
  have Hr := (show Hid _ from hr)
  clear hr
  go_wp2
  exact bodyPost_ret (v := .tuple #[sv r, .int .i64 0]) (by simp [results, Tryz.results153, go_sem, *]) rfl ⟨by rw [Hr.out], (((HR1.out.setCell (by simp) _).setCell (by simp) _).setCell (by simp) _).setCell (by simp) _⟩

set_option maxHeartbeats 400000 in
theorem small112 (w : World) :
    Calls Tryz.prog 153 #[.int .u8 112] w fun e w' => e = .returned (.tuple #[sv (spn 33 126 &&& ~~~ (spn 65 90 ||| spn 97 122 ||| spn 48 57)), .int .i64 0]) ∧ Below w.heap.size w w' := by
  have HH := (show Hid _ from Holds.zero w)
  have HR := (show Hid _ from below1 w z4)
  have HQ : Hid (Below (w.heap.size + 1) (w.alloc z4) (w.alloc z4)) := Below.refl _ _
  go_enter Tryz.func153, Tryz.ntmps153
  go_wp2_with fail
  refine (bytesFrom_any 33 126 _ (by omega) (by omega) (by omega)).mono ?_
  rintro e w1 ⟨rfl, hb⟩
  replace HQ := (show Hid _ from HQ.out.trans (hb.mono (by first | exact HQ.out.size | (have h := HQ.out.size; simp at h; omega) | simp)))
  go_wp2_with fail
  refine (lettersDigits_any _).mono ?_
  rintro e w1 ⟨rfl, hb⟩
  replace HQ := (show Hid _ from HQ.out.trans (hb.mono (by first | exact HQ.out.size | (have h := HQ.out.size; simp at h; omega) | simp)))
  go_wp2_with fail
  refine (less_any _ _ _).mono ?_
  rintro e w1 ⟨rfl, hb⟩
  replace HQ := (show Hid _ from HQ.out.trans (hb.mono (by first | exact HQ.out.size | (have h := HQ.out.size; simp at h; omega) | simp)))
  have HR1 := (show Hid _ from HR.out.trans (HQ.out.mono (by omega)))
  obtain ⟨l0, c0, c1, c2, c3, f0, f1, f2, f3⟩ := HH.out.below HQ.out (by omega)
  generalize hr : spn 33 126 &&& ~~~ (spn 65 90 ||| spn 97 122 ||| spn 48 57) = r
  have Hr := (show Hid _ from hr)
  clear hr
  go_wp2
  exact bodyPost_ret (v := .tuple #[sv r, .int .i64 0]) (by simp [results, Tryz.results153, go_sem, *]) rfl ⟨by rw [Hr.out], (((HR1.out.setCell (by simp) _).setCell (by simp) _).setCell (by simp) _).setCell (by simp) _⟩

set_option maxHeartbeats 400000 in
theorem small115 (w : World) :
    Calls Tryz.prog 153 #[.int .u8 115] w fun e w' => e = .returned (.tuple #[sv (spn 9 13 ||| bt 32), .int .i64 0]) ∧ Below w.heap.size w w' := by
  have HH := (show Hid _ from Holds.zero w)
  have HR := (show Hid _ from below1 w z4)
  have HQ : Hid (Below (w.heap.size + 1) (w.alloc z4) (w.alloc z4)) := Below.refl _ _
  go_enter Tryz.func153, Tryz.ntmps153
  go_wp2_with fail
  refine (bytesFrom_any 9 13 _ (by omega) (by omega) (by omega)).mono ?_
  rintro e w1 ⟨rfl, hb⟩
  replace HQ := (show Hid _ from HQ.out.trans (hb.mono (by first | exact HQ.out.size | (have h := HQ.out.size; simp at h; omega) | simp)))
  go_wp2_with fail
  refine (with_any _ 32 _ (by omega) (by omega)).mono ?_
  rintro e w1 ⟨rfl, hb⟩
  replace HQ := (show Hid _ from HQ.out.trans (hb.mono (by first | exact HQ.out.size | (have h := HQ.out.size; simp at h; omega) | simp)))
  rw [show (32 : Int).toNat = 32 from rfl]
  have HR1 := (show Hid _ from HR.out.trans (HQ.out.mono (by omega)))
  obtain ⟨l0, c0, c1, c2, c3, f0, f1, f2, f3⟩ := HH.out.below HQ.out (by omega)
  generalize hr : spn 9 13 ||| bt 32 = r
  have Hr := (show Hid _ from hr)
  clear hr
  go_wp2
  exact bodyPost_ret (v := .tuple #[sv r, .int .i64 0]) (by simp [results, Tryz.results153, go_sem, *]) rfl ⟨by rw [Hr.out], (((HR1.out.setCell (by simp) _).setCell (by simp) _).setCell (by simp) _).setCell (by simp) _⟩

set_option maxHeartbeats 400000 in
theorem small117 (w : World) :
    Calls Tryz.prog 153 #[.int .u8 117] w fun e w' => e = .returned (.tuple #[sv (spn 65 90), .int .i64 0]) ∧ Below w.heap.size w w' := by
  have HH := (show Hid _ from Holds.zero w)
  have HR := (show Hid _ from below1 w z4)
  have HQ : Hid (Below (w.heap.size + 1) (w.alloc z4) (w.alloc z4)) := Below.refl _ _
  go_enter Tryz.func153, Tryz.ntmps153
  go_wp2_with fail
  refine (bytesFrom_any 65 90 _ (by omega) (by omega) (by omega)).mono ?_
  rintro e w1 ⟨rfl, hb⟩
  replace HQ := (show Hid _ from HQ.out.trans (hb.mono (by first | exact HQ.out.size | (have h := HQ.out.size; simp at h; omega) | simp)))
  have HR1 := (show Hid _ from HR.out.trans (HQ.out.mono (by omega)))
  obtain ⟨l0, c0, c1, c2, c3, f0, f1, f2, f3⟩ := HH.out.below HQ.out (by omega)
  generalize hr : spn 65 90 = r
  have Hr := (show Hid _ from hr)
  clear hr
  go_wp2
  exact bodyPost_ret (v := .tuple #[sv r, .int .i64 0]) (by simp [results, Tryz.results153, go_sem, *]) rfl ⟨by rw [Hr.out], (((HR1.out.setCell (by simp) _).setCell (by simp) _).setCell (by simp) _).setCell (by simp) _⟩

set_option maxHeartbeats 400000 in
theorem small119 (w : World) :
    Calls Tryz.prog 153 #[.int .u8 119] w fun e w' => e = .returned (.tuple #[sv (spn 65 90 ||| spn 97 122 ||| spn 48 57), .int .i64 0]) ∧ Below w.heap.size w w' := by
  have HH := (show Hid _ from Holds.zero w)
  have HR := (show Hid _ from below1 w z4)
  have HQ : Hid (Below (w.heap.size + 1) (w.alloc z4) (w.alloc z4)) := Below.refl _ _
  go_enter Tryz.func153, Tryz.ntmps153
  go_wp2_with fail
  refine (lettersDigits_any _).mono ?_
  rintro e w1 ⟨rfl, hb⟩
  replace HQ := (show Hid _ from HQ.out.trans (hb.mono (by first | exact HQ.out.size | (have h := HQ.out.size; simp at h; omega) | simp)))
  have HR1 := (show Hid _ from HR.out.trans (HQ.out.mono (by omega)))
  obtain ⟨l0, c0, c1, c2, c3, f0, f1, f2, f3⟩ := HH.out.below HQ.out (by omega)
  generalize hr : spn 65 90 ||| spn 97 122 ||| spn 48 57 = r
  have Hr := (show Hid _ from hr)
  clear hr
  go_wp2
  exact bodyPost_ret (v := .tuple #[sv r, .int .i64 0]) (by simp [results, Tryz.results153, go_sem, *]) rfl ⟨by rw [Hr.out], (((HR1.out.setCell (by simp) _).setCell (by simp) _).setCell (by simp) _).setCell (by simp) _⟩

set_option maxHeartbeats 400000 in
theorem small120 (w : World) :
    Calls Tryz.prog 153 #[.int .u8 120] w fun e w' => e = .returned (.tuple #[sv (spn 48 57 ||| spn 65 70 ||| spn 97 102), .int .i64 0]) ∧ Below w.heap.size w w' := by
  have HH := (show Hid _ from Holds.zero w)
  have HR := (show Hid _ from below1 w z4)
  have HQ : Hid (Below (w.heap.size + 1) (w.alloc z4) (w.alloc z4)) := Below.refl _ _
  go_enter Tryz.func153, Tryz.ntmps153
  go_wp2_with fail
  refine (bytesFrom_any 48 57 _ (by omega) (by omega) (by omega)).mono ?_
  rintro e w1 ⟨rfl, hb⟩
  replace HQ := (show Hid _ from HQ.out.trans (hb.mono (by first | exact HQ.out.size | (have h := HQ.out.size; simp at h; omega) | simp)))
  go_wp2_with fail
  refine (fill_any _ 65 70 _ (by omega) (by omega) (by omega)).mono ?_
  rintro e w1 ⟨rfl, hb⟩
  replace HQ := (show Hid _ from HQ.out.trans (hb.mono (by first | exact HQ.out.size | (have h := HQ.out.size; simp at h; omega) | simp)))
  go_wp2_with fail
  refine (fill_any _ 97 102 _ (by omega) (by omega) (by omega)).mono ?_
  rintro e w1 ⟨rfl, hb⟩
  replace HQ := (show Hid _ from HQ.out.trans (hb.mono (by first | exact HQ.out.size | (have h := HQ.out.size; simp at h; omega) | simp)))
  have HR1 := (show Hid _ from HR.out.trans (HQ.out.mono (by omega)))
  obtain ⟨l0, c0, c1, c2, c3, f0, f1, f2, f3⟩ := HH.out.below HQ.out (by omega)
  generalize hr : spn 48 57 ||| spn 65 70 ||| spn 97 102 = r
  have Hr := (show Hid _ from hr)
  clear hr
  go_wp2
  exact bodyPost_ret (v := .tuple #[sv r, .int .i64 0]) (by simp [results, Tryz.results153, go_sem, *]) rfl ⟨by rw [Hr.out], (((HR1.out.setCell (by simp) _).setCell (by simp) _).setCell (by simp) _).setCell (by simp) _⟩

set_option maxHeartbeats 400000 in
theorem smallNone (n : Int) (w : World) (h97 : (n == 97) = false) (h99 : (n == 99) = false) (h100 : (n == 100) = false) (h103 : (n == 103) = false) (h108 : (n == 108) = false) (h112 : (n == 112) = false) (h115 : (n == 115) = false) (h117 : (n == 117) = false) (h119 : (n == 119) = false) (h120 : (n == 120) = false) :
    Calls Tryz.prog 153 #[.int .u8 n] w fun e w' => e = .returned (.tuple #[sv 0#256, .int .i64 10]) ∧ Below w.heap.size w w' := by
  have HR := (show Hid _ from below1 w z4)
  go_enter Tryz.func153, Tryz.ntmps153
  go_wp2
  exact bodyPost_ret (v := .tuple #[sv 0#256, .int .i64 10]) (by simp [results, Tryz.results153, go_sem, wd_zero]) rfl ⟨rfl, HR.out⟩

theorem small_any (n : Nat) (w : World) :
    Calls Tryz.prog 153 #[.int .u8 n] w fun e w' => e = .returned (.tuple #[sv (sml n).1, .int .i64 (sml n).2]) ∧ Below w.heap.size w w' := by
  by_cases h97 : n = 97
  · subst h97; rw [sml97]; exact small97 w
  by_cases h99 : n = 99
  · subst h99; rw [sml99]; exact small99 w
  by_cases h100 : n = 100
  · subst h100; rw [sml100]; exact small100 w
  by_cases h103 : n = 103
  · subst h103; rw [sml103]; exact small103 w
  by_cases h108 : n = 108
  · subst h108; rw [sml108]; exact small108 w
  by_cases h112 : n = 112
  · subst h112; rw [sml112]; exact small112 w
  by_cases h115 : n = 115
  · subst h115; rw [sml115]; exact small115 w
  by_cases h117 : n = 117
  · subst h117; rw [sml117]; exact small117 w
  by_cases h119 : n = 119
  · subst h119; rw [sml119]; exact small119 w
  by_cases h120 : n = 120
  · subst h120; rw [sml120]; exact small120 w
  rw [sml_none n h97 h99 h100 h103 h108 h112 h115 h117 h119 h120]
  exact smallNone n w (beq_eq_false_iff_ne.2 (by omega)) (beq_eq_false_iff_ne.2 (by omega)) (beq_eq_false_iff_ne.2 (by omega)) (beq_eq_false_iff_ne.2 (by omega)) (beq_eq_false_iff_ne.2 (by omega)) (beq_eq_false_iff_ne.2 (by omega)) (beq_eq_false_iff_ne.2 (by omega)) (beq_eq_false_iff_ne.2 (by omega)) (beq_eq_false_iff_ne.2 (by omega)) (beq_eq_false_iff_ne.2 (by omega))
end Go.Proofs.YtkihfkcmcdiajaaGreatDoor

namespace Go.Proofs.YtkihfkcmcdiajaaGreatDoor
open Go.RowKit
theorem cls_small (n : Nat) (h : ¬ (65 ≤ n ∧ n ≤ 90)) : cls n = sml n := by unfold cls; rw [if_neg h]
theorem cls_yes (n : Nat) (h : 65 ≤ n ∧ n ≤ 90) (he : (sml (n + 32)).2 = 0) : cls n = (~~~ (sml (n + 32)).1, 0) := by unfold cls; rw [if_pos h, if_pos he]
theorem cls_no (n : Nat) (h : 65 ≤ n ∧ n ≤ 90) (he : (sml (n + 32)).2 = 10) : cls n = (0#256, 10) := by
  unfold cls; rw [if_pos h, if_neg (by omega), he]
theorem put4_below {B : Nat} {w w' : World} {b : Nat} (h : Below B w w') (hb : B ≤ b) (y : BitVec 256) : Below B w (put4 w' b y) :=
  (((h.setCell hb _).setCell hb _).setCell hb _).setCell hb _

set_option maxHeartbeats 1000000 in
theorem class_any (n : Nat) (hn : n < 256) (w : World) :
    Calls Tryz.prog 136 #[.int .u8 n] w fun e w' => e = .returned (.tuple #[sv (cls n).1, .int .i64 (cls n).2]) ∧ Below w.heap.size w w' := by
  have HH := (show Hid _ from Holds.zero w)
  have HR := (show Hid _ from below1 w z4)
  have hw8 : IntKind.i64.wrap (n : Int) = (n : Int) := by rw [IntKind.wrap_i64]; omega
  by_cases hc : 65 ≤ n ∧ n ≤ 90
  · have hcap : capB (n : Int) = true := by simp [capB]; omega
    have hn1 : (n : Int) ≤ 90 := by omega
    have Hc := (show Hid _ from hc)
    clear hc
    rcases sml_err (n + 32) with he | he
    · have HE := (show Hid _ from cls_yes n Hc.out he)
      go_enter Tryz.func136, Tryz.ntmps136
      go_wp2_with fail
      refine (isCapital_any _ _).mono ?_
      rintro e w1 ⟨rfl, rfl⟩
      go_wp2_with fail
      rw [show (n : Int) + 32 = ((n + 32 : Nat) : Int) from by omega]
      refine (small_any (n + 32) _).mono ?_
      rintro e w1 ⟨rfl, hb⟩
      have hl : w.heap.size < w1.heap.size := by have h := hb.size; simp at h; omega
      have HR1 := (show Hid _ from HR.out.trans (hb.mono (by simp)))
      have HH1 := (show Hid _ from HH.out.below hb (by simp))
      rw [he]
      clear he hb HH HR
      generalize (sml (n + 32)).1 = r at *
      go_wp2_with fail
      refine (not_any r _).mono ?_
      rintro e w2 ⟨rfl, hb⟩
      have HR2 := (show Hid _ from (HR1.out.alloc (by omega) (c4 r)).trans (hb.mono (by simp; omega)))
      have hl2 : w.heap.size < w2.heap.size := by have h := hb.size; simp at h; omega
      obtain ⟨l0, c0, c1, c2, c3, f0, f1, f2, f3⟩ := (HH1.out.alloc (c4 r)).below hb (by simp; omega)
      generalize hr : ~~~ r = q at *
      clear hr hb
      go_wp2
      rw [HE.out]
      refine bodyPost_ret (v := .tuple #[sv q, .int .i64 0]) (by simp [results, Tryz.results136, go_sem, *]) rfl ⟨rfl, put4_below HR2.out (Nat.le_refl _) _⟩
    · have HE := (show Hid _ from cls_no n Hc.out he)
      go_enter Tryz.func136, Tryz.ntmps136
      go_wp2_with fail
      refine (isCapital_any _ _).mono ?_
      rintro e w1 ⟨rfl, rfl⟩
      go_wp2_with fail
      rw [show (n : Int) + 32 = ((n + 32 : Nat) : Int) from by omega]
      refine (small_any (n + 32) _).mono ?_
      rintro e w1 ⟨rfl, hb⟩
      have hl : w.heap.size < w1.heap.size := by have h := hb.size; simp at h; omega
      have HR1 := (show Hid _ from HR.out.trans (hb.mono (by simp)))
      obtain ⟨l0, c0, c1, c2, c3, f0, f1, f2, f3⟩ := HH.out.below hb (by simp)
      rw [he]
      clear he hb HH HR
      generalize (sml (n + 32)).1 = r at *
      go_wp2
      rw [HE.out]
      refine bodyPost_ret (v := .tuple #[sv 0#256, .int .i64 10]) (by simp [results, Tryz.results136, go_sem, wd_zero, *]) rfl ⟨rfl, ?_⟩
      repeat (first | exact HR1.out | (refine Below.setCell ?_ (by first | omega | (simp <;> omega)) _) | (refine Below.alloc ?_ (by first | omega | (simp <;> omega)) _))
  · have hcap : capB (n : Int) = false := by simp [capB]; omega
    have HE := (show Hid _ from cls_small n hc)
    clear hc
    go_enter Tryz.func136, Tryz.ntmps136
    go_wp2_with fail
    refine (isCapital_any _ _).mono ?_
    rintro e w1 ⟨rfl, rfl⟩
    go_wp2_with fail
    refine (small_any n _).mono ?_
    rintro e w1 ⟨rfl, hb⟩
    have hl : w.heap.size < w1.heap.size := by have h := hb.size; simp at h; omega
    have HR1 := (show Hid _ from HR.out.trans (hb.mono (by simp)))
    obtain ⟨l0, c0, c1, c2, c3, f0, f1, f2, f3⟩ := HH.out.below hb (by simp)
    clear hb HH HR
    generalize sml n = rq at *
    obtain ⟨r, q⟩ := rq
    dsimp only
    go_wp2
    refine bodyPost_ret (v := .tuple #[sv r, .int .i64 q]) (by simp [results, Tryz.results136, go_sem, *]) rfl ⟨by rw [HE.out], put4_below HR1.out (Nat.le_refl _) _⟩
end Go.Proofs.YtkihfkcmcdiajaaGreatDoor

namespace Go.Proofs.YtkihfkcmcdiajaaGreatDoor
open Go.RowKit
theorem below_drewN {B : Nat} {a w : World} (h : Below B a w) (n : Nat) : Below B a (w.drewN n) := by
  induction n with
  | zero => exact h
  | succ n ih => exact ih.drew
end Go.Proofs.YtkihfkcmcdiajaaGreatDoor

namespace Go.Proofs.YtkihfkcmcdiajaaGreatDoor
open Go.RowKit
/-- What a reading of members answers. -/
def mbV : Rd (BitVec 256 × Nat) → Value
  | .inl (x, n) => .tuple #[sv x, .int .i64 n, .agg #[.int .i64 0, .int .i64 0]]
  | .inr (a, c) => .tuple #[sv 0#256, .int .i64 0, .agg #[.int .i64 a, .int .i64 c]]

/-- Block b holds a fault, and may be written. -/
structure FHolds (w : World) (b : Nat) (p q : Int) : Prop where
  lt : b < w.heap.size
  c0 : w.cell? ⟨b, 0, none⟩ = some (.int .i64 p)
  c1 : w.cell? ⟨b, 1, none⟩ = some (.int .i64 q)
  f0 : w.frozen? ⟨b, 0, none⟩ = false
  f1 : w.frozen? ⟨b, 1, none⟩ = false
theorem FHolds.below {B : Nat} {w w' : World} {b : Nat} {p q : Int} (h : FHolds w b p q) (hb : Below B w w') (hB : b < B) : FHolds w' b p q :=
  ⟨Nat.lt_of_lt_of_le h.lt hb.size, (hb.cell (p := ⟨b, 0, none⟩) hB).trans h.c0, (hb.cell (p := ⟨b, 1, none⟩) hB).trans h.c1, (hb.frozen (p := ⟨b, 0, none⟩) hB).trans h.f0, (hb.frozen (p := ⟨b, 1, none⟩) hB).trans h.f1⟩
theorem FHolds.new (w : World) (p q : Int) : FHolds (w.alloc (.cells #[.int .i64 p, .int .i64 q] 27)) w.heap.size p q := by
  constructor <;> simp [go_sem]
abbrev fz : Obj := .cells #[.int .i64 0, .int .i64 0] 27
/-- The two boxes of the results: a set and a fault. -/
theorem boxes2 (w : World) : Holds ((w.alloc z4).alloc fz) w.heap.size 0#256 ∧ FHolds ((w.alloc z4).alloc fz) (w.heap.size + 1) 0 0 ∧ Below w.heap.size w ((w.alloc z4).alloc fz) := by
  refine ⟨(Holds.zero w).alloc _, ?_, ((Below.refl _ _).alloc (Nat.le_refl _) _).alloc (by simp) _⟩
  have h := FHolds.new (w.alloc z4) 0 0
  rw [show (w.alloc z4).heap.size = w.heap.size + 1 from by simp] at h
  exact h

theorem put6_below {B : Nat} {w w' : World} {b c : Nat} {x0 x1 x2 x3 y0 y1 : Value} (h : Below B w w') (hb : B ≤ b) (hc : B ≤ c) :
    Below B w ((((((w'.setCell ⟨b, 0, none⟩ x0).setCell ⟨b, 1, none⟩ x1).setCell ⟨b, 2, none⟩ x2).setCell ⟨b, 3, none⟩ x3).setCell ⟨c, 0, none⟩ y0).setCell ⟨c, 1, none⟩ y1) :=
  (((((h.setCell hb _).setCell hb _).setCell hb _).setCell hb _).setCell hc _).setCell hc _
theorem set_size (w : World) (p : Addr) (v : Value) : (w.setCell p v).heap.size = w.heap.size := by simp [World.setCell]
theorem put6_size {w' : World} {b c : Nat} {x0 x1 x2 x3 y0 y1 : Value} :
    ((((((w'.setCell ⟨b, 0, none⟩ x0).setCell ⟨b, 1, none⟩ x1).setCell ⟨b, 2, none⟩ x2).setCell ⟨b, 3, none⟩ x3).setCell ⟨c, 0, none⟩ y0).setCell ⟨c, 1, none⟩ y1).heap.size = w'.heap.size := by
  simp only [set_size]

set_option maxRecDepth 100000 in
set_option maxHeartbeats 1000000 in
theorem readClass_any (s : ByteArray) (i : Nat) (hi : i ≤ s.size) (hs : s.size ≤ 140737488355328) (w : World) :
    Calls Tryz.prog 178 #[.string s, .int .i64 i] w fun e w' => e = .returned (mbV (rdClass s i)) ∧ Below w.heap.size w w' := by
  obtain ⟨q1, q2, q3⟩ := boxes2 w
  have HH := (show Hid _ from q1)
  have HG := (show Hid _ from q2)
  have HR := (show Hid _ from q3)
  clear q1 q2 q3
  by_cases h : i + 1 < s.size
  · have hb : s[i + 1].toNat < 256 := s[i + 1].toNat_lt
    have HX : Hid (∀ w, Calls Tryz.prog 136 #[.int .u8 (s[i + 1].toNat : Int)] w fun e w' => e = .returned (.tuple #[sv (cls s[i + 1].toNat).1, .int .i64 (cls s[i + 1].toNat).2]) ∧ Below w.heap.size w w') := fun w => class_any _ hb w
    by_cases hc : (cls s[i + 1].toNat).2 = 0
    · have HF := (show Hid (rdClass s i = .inl ((cls s[i + 1].toNat).1, i + 2)) from (by show rdClass s i = _; unfold rdClass; rw [chr_in h]; rw [if_pos ⟨h, hc⟩]; rfl))
      go_enter Tryz.func178, Tryz.ntmps178
      go_wp2_with fail
      refine (HX.out _).mono ?_
      rintro e w1 ⟨rfl, hb1⟩
      rw [hc]
      have hl : w.heap.size + 1 < w1.heap.size := by have h := hb1.size; simp at h; omega
      have HR1 := (show Hid _ from HR.out.trans (hb1.mono (by simp; omega)))
      obtain ⟨_, g0, g1, k0, k1⟩ := HG.out.below hb1 (by simp)
      obtain ⟨_, c0, c1, c2, c3, f0, f1, f2, f3⟩ := HH.out.below hb1 (by simp; omega)
      clear hb1 HX hc HH HG HR
      generalize (cls s[i + 1].toNat).1 = r at *
      go_wp2
      rw [HF.out]
      refine bodyPost_ret (v := mbV (.inl (r, i + 2))) (by simp [results, Tryz.results178, go_sem, mbV, wd_zero, *]) rfl ⟨rfl, ?_⟩
      exact (put6_below HR1.out (Nat.le_refl _) (by omega)).alloc (by rw [put6_size]; omega) _
    · have HF := (show Hid (rdClass s i = .inr (i, 10)) from (by show rdClass s i = _; unfold rdClass; rw [chr_in h]; rw [if_neg (fun q => hc q.2)]))
      have hc' : ((cls s[i + 1].toNat).2 == 0) = false := beq_eq_false_iff_ne.2 hc
      clear hc
      go_enter Tryz.func178, Tryz.ntmps178
      go_wp2_with fail
      refine (HX.out _).mono ?_
      rintro e w1 ⟨rfl, hb1⟩
      have hl : w.heap.size + 1 < w1.heap.size := by have h := hb1.size; simp at h; omega
      have HR1 := (show Hid _ from HR.out.trans (hb1.mono (by simp; omega)))
      obtain ⟨_, g0, g1, k0, k1⟩ := HG.out.below hb1 (by simp)
      obtain ⟨_, c0, c1, c2, c3, f0, f1, f2, f3⟩ := HH.out.below hb1 (by simp; omega)
      clear hb1 HX HH HG HR
      generalize cls s[i + 1].toNat = r at *
      go_wp2
      rw [HF.out]
      refine bodyPost_ret (v := mbV (.inr (i, 10))) (by simp [results, Tryz.results178, go_sem, mbV, wd_zero, *]) rfl ⟨rfl, ?_⟩
      exact (put6_below HR1.out (Nat.le_refl _) (by omega)).alloc (by rw [put6_size]; omega) _
  · have HF := (show Hid (rdClass s i = .inr (i, 10)) from (by show rdClass s i = _; unfold rdClass; rw [if_neg (fun q => h q.1)]))
    have h1 : ¬ (i : Int) + 1 < (s.size : Int) := by omega
    go_enter Tryz.func178, Tryz.ntmps178
    go_wp2
    rw [HF.out]
    refine bodyPost_ret (v := mbV (.inr (i, 10))) (by simp [results, Tryz.results178, go_sem, mbV, wd_zero, *]) rfl ⟨rfl, ?_⟩
    exact ((Below.refl _ _).alloc (Nat.le_refl _) _).alloc (by simp) _
end Go.Proofs.YtkihfkcmcdiajaaGreatDoor

namespace Go.Proofs.YtkihfkcmcdiajaaGreatDoor
open Go.RowKit
set_option maxRecDepth 100000 in
set_option maxHeartbeats 1000000 in
theorem member_class (s : ByteArray) (i : Nat) (hi : i ≤ s.size) (hs : s.size ≤ 140737488355328) (w : World) (hc : (chr s i == 37) = true) :
    Calls Tryz.prog 160 #[.string s, .int .i64 i] w fun e w' => e = .returned (mbV (rdMember s i)) ∧ Below w.heap.size w w' := by
  have HF := (show Hid (rdMember s i = rdClass s i) from (by show rdMember s i = _; unfold rdMember; rw [if_pos (beq_iff_eq.1 hc)]))
  obtain ⟨q1, q2, q3⟩ := boxes2 w
  have HH := (show Hid _ from q1)
  have HG := (show Hid _ from q2)
  have HR := (show Hid _ from q3)
  clear q1 q2 q3
  go_enter Tryz.func160, Tryz.ntmps160
  go_wp2_with fail
  refine (standsAt_any s i 37 (by omega) _).mono ?_
  rintro e w1 ⟨rfl, rfl⟩
  rw [hc]
  clear hc
  go_wp2_with fail
  refine (readClass_any s i hi hs _).mono ?_
  rintro e w1 ⟨rfl, hb1⟩
  have hl : w.heap.size + 1 < w1.heap.size := by have h := hb1.size; simp at h; omega
  have HR1 := (show Hid _ from HR.out.trans (hb1.mono (by simp; omega)))
  obtain ⟨_, g0, g1, k0, k1⟩ := HG.out.below hb1 (by simp)
  obtain ⟨_, c0, c1, c2, c3, f0, f1, f2, f3⟩ := HH.out.below hb1 (by simp; omega)
  clear hb1 HH HG HR
  cases hq : rdClass s i with
  | inl p =>
    obtain ⟨y, n⟩ := p
    rw [hq] at HF
    dsimp only [mbV]
    clear hq
    go_wp2
    rw [HF.out]
    refine bodyPost_ret (v := mbV (.inl (y, n))) (by simp [results, Tryz.results160, go_sem, mbV, wd_zero, *]) rfl ⟨rfl, ?_⟩
    exact put6_below HR1.out (Nat.le_refl _) (by omega)
  | inr pq =>
    obtain ⟨a, c⟩ := pq
    rw [hq] at HF
    dsimp only [mbV]
    clear hq
    go_wp2
    rw [HF.out]
    refine bodyPost_ret (v := mbV (.inr (a, c))) (by simp [results, Tryz.results160, go_sem, mbV, wd_zero, *]) rfl ⟨rfl, ?_⟩
    exact put6_below HR1.out (Nat.le_refl _) (by omega)

set_option maxRecDepth 100000 in
set_option maxHeartbeats 1000000 in
theorem member_none (s : ByteArray) (i : Nat) (_hi : i ≤ s.size) (hs : s.size ≤ 140737488355328) (w : World) (hc : (chr s i == 37) = false) (h1 : rdItem s i = none) :
    Calls Tryz.prog 160 #[.string s, .int .i64 i] w fun e w' => e = .returned (mbV (rdMember s i)) ∧ Below w.heap.size w w' := by
  have hn37 : ¬ chr s i = 37 := beq_eq_false_iff_ne.1 hc
  have HF := (show Hid (rdMember s i = .inr (i, 6)) from (by show rdMember s i = _; unfold rdMember; rw [if_neg hn37, h1]))
  clear hn37
  obtain ⟨q1, q2, q3⟩ := boxes2 w
  have HH := (show Hid _ from q1)
  have HG := (show Hid _ from q2)
  have HR := (show Hid _ from q3)
  clear q1 q2 q3
  go_enter Tryz.func160, Tryz.ntmps160
  go_wp2_with fail
  refine (standsAt_any s i 37 (by omega) _).mono ?_
  rintro e w1 ⟨rfl, rfl⟩
  rw [hc]
  clear hc
  go_wp2_with fail
  refine (readItem_any s i hs _).mono ?_
  rintro e w1 ⟨rfl, rfl⟩
  rw [h1]
  dsimp only [itV]
  clear h1
  go_wp2
  rw [HF.out]
  refine bodyPost_ret (v := mbV (.inr (i, 6))) (by simp [results, Tryz.results160, go_sem, mbV, wd_zero, *]) rfl ⟨rfl, ?_⟩
  exact ((Below.refl _ _).alloc (Nat.le_refl _) _).alloc (by simp) _

set_option maxRecDepth 100000 in
set_option maxHeartbeats 1000000 in
theorem member_one (s : ByteArray) (i : Nat) (_hi : i ≤ s.size) (hs : s.size ≤ 140737488355328) (w : World) (hc : (chr s i == 37) = false) (lo n : Nat) (h1 : rdItem s i = some (lo, n)) (h2 : (chr s n == 45) = false) :
    Calls Tryz.prog 160 #[.string s, .int .i64 i] w fun e w' => e = .returned (mbV (rdMember s i)) ∧ Below w.heap.size w w' := by
  have hn37 : ¬ chr s i = 37 := beq_eq_false_iff_ne.1 hc
  have HF := (show Hid (rdMember s i = .inl (spn lo lo, n)) from (by show rdMember s i = _; unfold rdMember; rw [if_neg hn37, h1]; exact if_neg (beq_eq_false_iff_ne.1 h2)))
  obtain ⟨b1, b2, b3⟩ := rdItem_bd h1
  clear hn37
  obtain ⟨q1, q2, q3⟩ := boxes2 w
  have HH := (show Hid _ from q1)
  have HG := (show Hid _ from q2)
  have HR := (show Hid _ from q3)
  clear q1 q2 q3
  go_enter Tryz.func160, Tryz.ntmps160
  go_wp2_with fail
  refine (standsAt_any s i 37 (by omega) _).mono ?_
  rintro e w1 ⟨rfl, rfl⟩
  rw [hc]
  clear hc
  go_wp2_with fail
  refine (readItem_any s i hs _).mono ?_
  rintro e w1 ⟨rfl, rfl⟩
  rw [h1]
  dsimp only [itV]
  clear h1
  go_wp2_with fail
  refine (standsAt_any s n 45 (by omega) _).mono ?_
  rintro e w1 ⟨rfl, rfl⟩
  rw [h2]
  clear h2
  go_wp2_with fail
  refine (bytesFrom_any lo lo _ (by omega) (by omega) (by omega)).mono ?_
  rintro e w1 ⟨rfl, hb1⟩
  have hl : w.heap.size + 1 < w1.heap.size := by have h := hb1.size; simp at h; omega
  have HR1 := (show Hid _ from HR.out.trans (hb1.mono (by simp; omega)))
  obtain ⟨_, g0, g1, k0, k1⟩ := HG.out.below hb1 (by simp)
  obtain ⟨_, c0, c1, c2, c3, f0, f1, f2, f3⟩ := HH.out.below hb1 (by simp; omega)
  clear hb1 HH HG HR
  generalize spn lo lo = y at *
  go_wp2
  rw [HF.out]
  refine bodyPost_ret (v := mbV (.inl (y, n))) (by simp [results, Tryz.results160, go_sem, mbV, wd_zero, *]) rfl ⟨rfl, ?_⟩
  exact put6_below HR1.out (Nat.le_refl _) (by omega)

set_option maxRecDepth 100000 in
set_option maxHeartbeats 1000000 in
theorem member_hole (s : ByteArray) (i : Nat) (_hi : i ≤ s.size) (hs : s.size ≤ 140737488355328) (w : World) (hc : (chr s i == 37) = false) (lo n : Nat) (h1 : rdItem s i = some (lo, n)) (h2 : (chr s n == 45) = true) (h3 : rdItem s (n + 1) = none) :
    Calls Tryz.prog 160 #[.string s, .int .i64 i] w fun e w' => e = .returned (mbV (rdMember s i)) ∧ Below w.heap.size w w' := by
  have hn37 : ¬ chr s i = 37 := beq_eq_false_iff_ne.1 hc
  have HF := (show Hid (rdMember s i = .inr ((n + 1), 6)) from (by show rdMember s i = _; unfold rdMember; rw [if_neg hn37, h1]; exact (if_pos (beq_iff_eq.1 h2)).trans (by rw [h3])))
  obtain ⟨b1, b2, b3⟩ := rdItem_bd h1
  clear hn37
  obtain ⟨q1, q2, q3⟩ := boxes2 w
  have HH := (show Hid _ from q1)
  have HG := (show Hid _ from q2)
  have HR := (show Hid _ from q3)
  clear q1 q2 q3
  go_enter Tryz.func160, Tryz.ntmps160
  go_wp2_with fail
  refine (standsAt_any s i 37 (by omega) _).mono ?_
  rintro e w1 ⟨rfl, rfl⟩
  rw [hc]
  clear hc
  go_wp2_with fail
  refine (readItem_any s i hs _).mono ?_
  rintro e w1 ⟨rfl, rfl⟩
  rw [h1]
  dsimp only [itV]
  clear h1
  go_wp2_with fail
  refine (standsAt_any s n 45 (by omega) _).mono ?_
  rintro e w1 ⟨rfl, rfl⟩
  rw [h2]
  clear h2
  go_wp2_with fail
  rw [show (n : Int) + 1 = ((n + 1 : Nat) : Int) from by omega]
  refine (readItem_any s (n + 1) hs _).mono ?_
  rintro e w1 ⟨rfl, rfl⟩
  rw [h3]
  dsimp only [itV]
  clear h3
  go_wp2
  rw [HF.out]
  refine bodyPost_ret (v := mbV (.inr ((n + 1), 6))) (by simp [results, Tryz.results160, go_sem, mbV, wd_zero, *]) rfl ⟨rfl, ?_⟩
  exact ((Below.refl _ _).alloc (Nat.le_refl _) _).alloc (by simp) _

set_option maxRecDepth 100000 in
set_option maxHeartbeats 1000000 in
theorem member_turned (s : ByteArray) (i : Nat) (_hi : i ≤ s.size) (hs : s.size ≤ 140737488355328) (w : World) (hc : (chr s i == 37) = false) (lo n hi_ e_ : Nat) (h1 : rdItem s i = some (lo, n)) (h2 : (chr s n == 45) = true) (h3 : rdItem s (n + 1) = some (hi_, e_)) (h4 : hi_ < lo) :
    Calls Tryz.prog 160 #[.string s, .int .i64 i] w fun e w' => e = .returned (mbV (rdMember s i)) ∧ Below w.heap.size w w' := by
  have hn37 : ¬ chr s i = 37 := beq_eq_false_iff_ne.1 hc
  have HF := (show Hid (rdMember s i = .inr (i, 1)) from (by show rdMember s i = _; unfold rdMember; rw [if_neg hn37, h1]; exact (if_pos (beq_iff_eq.1 h2)).trans (by rw [h3]; exact if_pos h4)))
  obtain ⟨b1, b2, b3⟩ := rdItem_bd h1
  have h5 : (hi_ : Int) < (lo : Int) := by omega
  clear hn37
  obtain ⟨q1, q2, q3⟩ := boxes2 w
  have HH := (show Hid _ from q1)
  have HG := (show Hid _ from q2)
  have HR := (show Hid _ from q3)
  clear q1 q2 q3
  go_enter Tryz.func160, Tryz.ntmps160
  go_wp2_with fail
  refine (standsAt_any s i 37 (by omega) _).mono ?_
  rintro e w1 ⟨rfl, rfl⟩
  rw [hc]
  clear hc
  go_wp2_with fail
  refine (readItem_any s i hs _).mono ?_
  rintro e w1 ⟨rfl, rfl⟩
  rw [h1]
  dsimp only [itV]
  clear h1
  go_wp2_with fail
  refine (standsAt_any s n 45 (by omega) _).mono ?_
  rintro e w1 ⟨rfl, rfl⟩
  rw [h2]
  clear h2
  go_wp2_with fail
  rw [show (n : Int) + 1 = ((n + 1 : Nat) : Int) from by omega]
  refine (readItem_any s (n + 1) hs _).mono ?_
  rintro e w1 ⟨rfl, rfl⟩
  rw [h3]
  dsimp only [itV]
  clear h3
  go_wp2
  rw [HF.out]
  refine bodyPost_ret (v := mbV (.inr (i, 1))) (by simp [results, Tryz.results160, go_sem, mbV, wd_zero, *]) rfl ⟨rfl, ?_⟩
  exact ((Below.refl _ _).alloc (Nat.le_refl _) _).alloc (by simp) _

set_option maxRecDepth 100000 in
set_option maxHeartbeats 1000000 in
theorem member_span (s : ByteArray) (i : Nat) (_hi : i ≤ s.size) (hs : s.size ≤ 140737488355328) (w : World) (hc : (chr s i == 37) = false) (lo n hi_ e_ : Nat) (h1 : rdItem s i = some (lo, n)) (h2 : (chr s n == 45) = true) (h3 : rdItem s (n + 1) = some (hi_, e_)) (h4 : ¬ hi_ < lo) :
    Calls Tryz.prog 160 #[.string s, .int .i64 i] w fun e w' => e = .returned (mbV (rdMember s i)) ∧ Below w.heap.size w w' := by
  have hn37 : ¬ chr s i = 37 := beq_eq_false_iff_ne.1 hc
  have HF := (show Hid (rdMember s i = .inl (spn lo hi_, e_)) from (by show rdMember s i = _; unfold rdMember; rw [if_neg hn37, h1]; exact (if_pos (beq_iff_eq.1 h2)).trans (by rw [h3]; exact if_neg h4)))
  obtain ⟨b1, b2, b3⟩ := rdItem_bd h1
  obtain ⟨d1, d2, d3⟩ := rdItem_bd h3
  have h5 : ¬ (hi_ : Int) < (lo : Int) := by omega
  clear hn37
  obtain ⟨q1, q2, q3⟩ := boxes2 w
  have HH := (show Hid _ from q1)
  have HG := (show Hid _ from q2)
  have HR := (show Hid _ from q3)
  clear q1 q2 q3
  go_enter Tryz.func160, Tryz.ntmps160
  go_wp2_with fail
  refine (standsAt_any s i 37 (by omega) _).mono ?_
  rintro e w1 ⟨rfl, rfl⟩
  rw [hc]
  clear hc
  go_wp2_with fail
  refine (readItem_any s i hs _).mono ?_
  rintro e w1 ⟨rfl, rfl⟩
  rw [h1]
  dsimp only [itV]
  clear h1
  go_wp2_with fail
  refine (standsAt_any s n 45 (by omega) _).mono ?_
  rintro e w1 ⟨rfl, rfl⟩
  rw [h2]
  clear h2
  go_wp2_with fail
  rw [show (n : Int) + 1 = ((n + 1 : Nat) : Int) from by omega]
  refine (readItem_any s (n + 1) hs _).mono ?_
  rintro e w1 ⟨rfl, rfl⟩
  rw [h3]
  dsimp only [itV]
  clear h3
  go_wp2_with fail
  refine (bytesFrom_any lo hi_ _ (by omega) (by omega) (by omega)).mono ?_
  rintro e w1 ⟨rfl, hb1⟩
  have hl : w.heap.size + 1 < w1.heap.size := by have h := hb1.size; simp at h; omega
  have HR1 := (show Hid _ from HR.out.trans (hb1.mono (by simp; omega)))
  obtain ⟨_, g0, g1, k0, k1⟩ := HG.out.below hb1 (by simp)
  obtain ⟨_, c0, c1, c2, c3, f0, f1, f2, f3⟩ := HH.out.below hb1 (by simp; omega)
  clear hb1 HH HG HR
  generalize spn lo hi_ = y at *
  go_wp2
  rw [HF.out]
  refine bodyPost_ret (v := mbV (.inl (y, e_))) (by simp [results, Tryz.results160, go_sem, mbV, wd_zero, *]) rfl ⟨rfl, ?_⟩
  exact put6_below HR1.out (Nat.le_refl _) (by omega)

theorem readMember_any (s : ByteArray) (i : Nat) (hi : i ≤ s.size) (hs : s.size ≤ 140737488355328) (w : World) :
    Calls Tryz.prog 160 #[.string s, .int .i64 i] w fun e w' => e = .returned (mbV (rdMember s i)) ∧ Below w.heap.size w w' := by
  cases hc : (chr s i == 37)
  · cases h1 : rdItem s i with
    | none => exact member_none s i hi hs w hc h1
    | some p =>
      obtain ⟨lo, n⟩ := p
      cases h2 : (chr s n == 45)
      · exact member_one s i hi hs w hc lo n h1 h2
      · cases h3 : rdItem s (n + 1) with
        | none => exact member_hole s i hi hs w hc lo n h1 h2 h3
        | some p =>
          obtain ⟨hi_, e_⟩ := p
          by_cases h4 : hi_ < lo
          · exact member_turned s i hi hs w hc lo n hi_ e_ h1 h2 h3 h4
          · exact member_span s i hi hs w hc lo n hi_ e_ h1 h2 h3 h4
  · exact member_class s i hi hs w hc
end Go.Proofs.YtkihfkcmcdiajaaGreatDoor

namespace Go.Proofs.YtkihfkcmcdiajaaGreatDoor
open Go.RowKit
theorem rdMembers_end {s : ByteArray} {f : Nat} {x : BitVec 256} {k : Nat} (h : chr s k = 93) : rdMembers s (f + 1) x k = .inl (x, k) := by
  unfold rdMembers; rw [if_pos h]
theorem rdMembers_err {s : ByteArray} {f : Nat} {x : BitVec 256} {k a : Nat} {c : Int} (h : ¬ chr s k = 93) (h1 : rdMember s k = .inr (a, c)) : rdMembers s (f + 1) x k = .inr (a, c) := by
  rw [rdMembers, if_neg h, h1]
theorem rdMembers_step {s : ByteArray} {f : Nat} {x y : BitVec 256} {k n : Nat} (h : ¬ chr s k = 93) (h1 : rdMember s k = .inl (y, n)) : rdMembers s (f + 1) x k = rdMembers s f (x ||| y) n := by
  rw [rdMembers, if_neg h, h1]

theorem rdMember_code {s : ByteArray} {i a : Nat} {c : Int} (h : rdMember s i = .inr (a, c)) : (c != 0) = true ∧ a ≤ s.size + i + 1 := by
  unfold rdMember at h
  split at h
  · unfold rdClass at h
    split at h
    · simp at h
    · simp only [Sum.inr.injEq, Prod.mk.injEq] at h; obtain ⟨rfl, rfl⟩ := h; exact ⟨rfl, by omega⟩
  · split at h
    · simp only [Sum.inr.injEq, Prod.mk.injEq] at h; obtain ⟨rfl, rfl⟩ := h; exact ⟨rfl, by omega⟩
    · rename_i lo m hm
      have b1 := rdItem_bd hm
      split at h
      · split at h
        · simp only [Sum.inr.injEq, Prod.mk.injEq] at h; obtain ⟨rfl, rfl⟩ := h; exact ⟨rfl, by omega⟩
        · split at h
          · simp only [Sum.inr.injEq, Prod.mk.injEq] at h; obtain ⟨rfl, rfl⟩ := h; exact ⟨rfl, by omega⟩
          · simp at h
      · simp at h
theorem rdMembers_code {s : ByteArray} : ∀ {f : Nat} {x : BitVec 256} {i a : Nat} {c : Int}, rdMembers s f x i = .inr (a, c) → (c != 0) = true := by
  intro f
  induction f with
  | zero => intro x i a c h; simp only [rdMembers, Sum.inr.injEq, Prod.mk.injEq] at h; obtain ⟨rfl, rfl⟩ := h; rfl
  | succ f ih =>
    intro x i a c h
    by_cases hc : chr s i = 93
    · rw [rdMembers_end hc] at h; simp at h
    · cases hm : rdMember s i with
      | inr pq =>
        obtain ⟨a', c'⟩ := pq
        rw [rdMembers_err hc hm] at h; simp only [Sum.inr.injEq, Prod.mk.injEq] at h; obtain ⟨rfl, rfl⟩ := h; exact (rdMember_code hm).1
      | inl p => obtain ⟨y, n⟩ := p; rw [rdMembers_step hc hm] at h; exact ih h
theorem rdMembers_ok {s : ByteArray} : ∀ {f : Nat} {x y : BitVec 256} {i n : Nat}, rdMembers s f x i = .inl (y, n) → i ≤ n ∧ n < s.size ∧ chr s n = 93 := by
  intro f
  induction f with
  | zero => intro x y i n h; simp [rdMembers] at h
  | succ f ih =>
    intro x y i n h
    by_cases hc : chr s i = 93
    · rw [rdMembers_end hc] at h; simp only [Sum.inl.injEq, Prod.mk.injEq] at h; obtain ⟨rfl, rfl⟩ := h; exact ⟨by omega, chr_lt (by omega), hc⟩
    · cases hm : rdMember s i with
      | inr pq =>
        obtain ⟨a', c'⟩ := pq
        rw [rdMembers_err hc hm] at h; simp at h
      | inl p => obtain ⟨y, n⟩ := p; have b := rdMember_bd hm; rw [rdMembers_step hc hm] at h; have b2 := ih h; exact ⟨by omega, b2.2⟩

/-- The three boxes: a set, a fault, the set that is gathered. -/
theorem boxes3 (w : World) : Holds (((w.alloc z4).alloc fz).alloc z4) w.heap.size 0#256 ∧ FHolds (((w.alloc z4).alloc fz).alloc z4) (w.heap.size + 1) 0 0 ∧ Holds (((w.alloc z4).alloc fz).alloc z4) (w.heap.size + 1 + 1) 0#256 ∧ Below w.heap.size w (((w.alloc z4).alloc fz).alloc z4) := by
  obtain ⟨h1, h2, h3⟩ := boxes2 w
  have hs : ((w.alloc z4).alloc fz).heap.size = w.heap.size + 1 + 1 := by simp
  refine ⟨h1.alloc _, h2.below (B := w.heap.size + 1 + 1) ((Below.refl _ _).alloc (by rw [hs]; exact Nat.le_refl _) _) (by omega), ?_, h3.alloc (by rw [hs]; omega) _⟩
  have h := Holds.zero ((w.alloc z4).alloc fz)
  rw [hs] at h
  exact h
/-- What holds of the boxes while members are read. -/
structure AtM (w wr : World) (x : BitVec 256) : Prop where
  h1 : Holds wr w.heap.size 0#256
  h2 : FHolds wr (w.heap.size + 1) 0 0
  h3 : Holds wr (w.heap.size + 1 + 1) x
  hb : Below w.heap.size w wr
theorem AtM.below {B : Nat} {w wr w1 : World} {x : BitVec 256} (h : AtM w wr x) (hb : Below B wr w1) (hB : w.heap.size + 1 + 1 < B) : AtM w w1 x :=
  ⟨h.h1.below hb (by omega), h.h2.below hb (by omega), h.h3.below hb hB, h.hb.trans (hb.mono (by omega))⟩

theorem FHolds.put_other {w : World} {b c : Nat} {p q : Int} (h : FHolds w c p q) (hne : c ≠ b) (y : BitVec 256) : FHolds (put4 w b y) c p q := by
  obtain ⟨lt, c0, c1, f0, f1⟩ := h
  constructor <;> simp [go_sem, *]
theorem AtM.put {w wr : World} {x : BitVec 256} (h : AtM w wr x) (y : BitVec 256) : AtM w (put4 wr (w.heap.size + 1 + 1) y) y :=
  ⟨h.h1.put_other (by omega) y, h.h2.put_other (by omega) y, h.h3.put y, put4_below h.hb (by omega) y⟩

set_option maxRecDepth 100000 in
set_option maxHeartbeats 2000000 in
theorem readMembers_any (s : ByteArray) (i : Nat) (hi : i ≤ s.size) (hs : s.size ≤ 140737488355328) (w : World) :
    Calls Tryz.prog 149 #[.string s, .int .i64 i] w fun e w' => e = .returned (mbV (rdMembers s (s.size + 1) 0#256 i)) ∧ Below w.heap.size w w' := by
  obtain ⟨q1, q2, q3, q4⟩ := boxes3 w
  have HA := (show Hid (AtM w (((w.alloc z4).alloc fz).alloc z4) 0#256) from ⟨q1, q2, q3, q4⟩)
  clear q1 q2 q3 q4
  generalize hR : rdMembers s (s.size + 1) 0#256 i = R
  have HR := (show Hid _ from hR)
  clear hR
  go_enter Tryz.func149, Tryz.ntmps149
  go_wp2_with fail
  go_loopw [1] (fun t wr => ∃ k : Nat, ∃ f : Nat, ∃ x : BitVec 256, k ≤ s.size ∧ t = .int .i64 k ∧ Hid (s.size + 1 ≤ f + k) ∧ Hid (rdMembers s f x k = R) ∧ Hid (AtM w wr x)) (fun t _ => s.size - (intOf t).toNat)
  case atStart => exact ⟨i, s.size + 1, 0#256, hi, rfl, show _ ≤ _ by omega, HR, HA⟩
  case round =>
    obtain ⟨k, f, x, hk, rfl, hf, hr, ha⟩ := hrel
    obtain ⟨g, rfl⟩ : ∃ g, f = g + 1 := ⟨f - 1, by have h := hf.out; omega⟩
    clear HA HR
    go_wp2_with fail
    refine (standsAt_any s k 93 (by omega) _).mono ?_
    rintro e w1 ⟨rfl, rfl⟩
    cases hc : (chr s k == 93)
    · have hn : ¬ chr s k = 93 := beq_eq_false_iff_ne.1 hc
      cases hm : rdMember s k with
      | inl p =>
        obtain ⟨y, n⟩ := p
        obtain ⟨b1, b2⟩ := rdMember_bd hm
        have hr' := (show Hid (rdMembers s g (x ||| y) n = R) from ((rdMembers_step hn hm).symm.trans hr.out))
        have hf' := (show Hid (s.size + 1 ≤ g + n) from (by have h := hf.out; show _ ≤ _; omega))
        have HM := (show Hid _ from hm)
        clear hn hm hc hr hf
        go_wp2_with fail
        refine (readMember_any s k hk hs _).mono ?_
        rintro e w1 ⟨rfl, hb1⟩
        rw [HM.out]
        dsimp only [mbV]
        have HA1 := (show Hid _ from ha.out.below hb1 ha.out.h3.lt)
        clear hb1 ha HM
        have hl : w.heap.size + 1 + 1 < w1.heap.size := HA1.out.h3.lt
        have HA2 := (show Hid (AtM w ((w1.alloc (c4 y)).alloc fz) x) from HA1.out.below (B := w1.heap.size) (((Below.refl _ _).alloc (Nat.le_refl _) _).alloc (by simp) _) hl)
        clear HA1
        obtain ⟨_, c0, c1, c2, c3, f0, f1, f2, f3⟩ := HA2.out.h3
        go_wp2_with fail
        refine (union_any x y _).mono ?_
        rintro e w2 ⟨rfl, hb2⟩
        have HA3 := (show Hid _ from HA2.out.below hb2 HA2.out.h3.lt)
        clear HA2 hb2 c0 c1 c2 c3 f0 f1 f2 f3
        obtain ⟨_, c0, c1, c2, c3, f0, f1, f2, f3⟩ := HA3.out.h3
        go_wp2_with fail
        go_roundw
        case rel =>
          exact ⟨n, g, x ||| y, b2, rfl, hf', hr', HA3.out.put (x ||| y)⟩
        case measure => simp [intOf]; omega
      | inr pq =>
        obtain ⟨a, c⟩ := pq
        have hr' := (show Hid (R = .inr (a, c)) from (hr.out.symm.trans (rdMembers_err hn hm)))
        have HM := (show Hid _ from hm)
        have hcn := (rdMember_code hm).1
        clear hn hm hc hr hf
        go_wp2_with fail
        refine (readMember_any s k hk hs _).mono ?_
        rintro e w1 ⟨rfl, hb1⟩
        rw [HM.out]
        dsimp only [mbV]
        have HA1 := (show Hid _ from ha.out.below hb1 ha.out.h3.lt)
        clear hb1 ha HM
        have hl : w.heap.size + 1 + 1 < w1.heap.size := HA1.out.h3.lt
        have HA2 := (show Hid (AtM w ((w1.alloc (c4 0#256)).alloc (.cells #[.int .i64 (a : Int), .int .i64 c] 27)) x) from HA1.out.below (B := w1.heap.size) (((Below.refl _ _).alloc (Nat.le_refl _) _).alloc (by simp) _) hl)
        clear HA1
        obtain ⟨_, c0, c1, c2, c3, f0, f1, f2, f3⟩ := HA2.out.h1
        obtain ⟨_, d0, d1, g0, g1⟩ := HA2.out.h2
        go_wp2_with fail
        go_region
        all_goals
          go_wp2
          rw [hr'.out]
          have HB2 := HA2.out.hb
          simp only [c4, wd_zero] at c0 c1 c2 c3 f0 f1 f2 f3 d0 d1 g0 g1 HB2 ⊢
          refine bodyPost_ret (v := mbV (.inr (a, c))) (by simp [results, Tryz.results149, go_sem, mbV, wd_zero, *]) rfl ⟨rfl, ?_⟩
          first | exact (put6_below HB2 (Nat.le_refl _) (by omega)).drew | exact put6_below HB2 (Nat.le_refl _) (by omega)
    · have he : chr s k = 93 := beq_iff_eq.1 hc
      have hr' := (show Hid (R = .inl (x, k)) from (hr.out.symm.trans (rdMembers_end he)))
      clear he hr hf hc
      have hl : w.heap.size + 1 + 1 < w1.heap.size := ha.out.h3.lt
      obtain ⟨_, c0, c1, c2, c3, f0, f1, f2, f3⟩ := ha.out.h1
      obtain ⟨_, d0, d1, g0, g1⟩ := ha.out.h2
      obtain ⟨_, e0, e1, e2, e3, k0, k1, k2, k3⟩ := ha.out.h3
      go_wp2_with fail
      rw [hr'.out]
      refine bodyPost_ret (v := mbV (.inl (x, k))) (by simp [results, Tryz.results149, go_sem, mbV, wd_zero, *]) rfl ⟨rfl, ?_⟩
      exact put6_below ha.out.hb (Nat.le_refl _) (by omega)
end Go.Proofs.YtkihfkcmcdiajaaGreatDoor
