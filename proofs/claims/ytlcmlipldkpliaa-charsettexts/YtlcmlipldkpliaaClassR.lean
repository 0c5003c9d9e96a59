/- DERIVED. Walks: Class, by the document. -/
import Derived.Test.YtlcmlipldkpliaaSmallR
import Derived.Test.YtlcmlipldkpliaaSmallS
import Derived.Test.YtlcmlipldkpliaaSmallT
import Derived.Test.YtlcmlipldkpliaaClassA
namespace Go.Proofs.Ytlcmlipldkpliaa
open Go.RowKit

set_option maxHeartbeats 2000000 in
theorem smallNoneR (n : Int) (w : World) (hcap : ¬ (65 ≤ n ∧ n ≤ 90)) (h97 : (n == 97) = false) (h99 : (n == 99) = false) (h100 : (n == 100) = false) (h103 : (n == 103) = false) (h108 : (n == 108) = false) (h112 : (n == 112) = false) (h115 : (n == 115) = false) (h117 : (n == 117) = false) (h119 : (n == 119) = false) (h120 : (n == 120) = false) :
    Calls Try.prog 25 #[.int .i64 n] w fun e w' => e = .returned (.tuple #[sv 0#256, .int .i64 10]) ∧ Below w.heap.size w w' := by
  by_cases g0 : 65 ≤ n
  · have g1 : ¬ n ≤ 90 := fun h => hcap ⟨g0, h⟩
    have d0 : decide (65 ≤ n) = true := by simpa using g0
    have d1 : decide (n ≤ 90) = false := by simpa using g1
    clear hcap
    have HH := (show Hid _ from Holds.zero w)
    have HR := (show Hid _ from below1 w z4)
    go_enter Try.func25, Try.ntmps25
    go_wp2_with fail
    refine (fromTo_any 97 122 _ (by omega) (by omega) (by omega)).mono ?_
    rintro e w1 ⟨rfl, hb1⟩
    go_wp2_with fail
    refine (fromTo_any 65 90 _ (by omega) (by omega) (by omega)).mono ?_
    rintro e w2 ⟨rfl, hb2⟩
    go_wp2_with fail
    refine (fromTo_any 48 57 _ (by omega) (by omega) (by omega)).mono ?_
    rintro e w3 ⟨rfl, hb3⟩
    go_wp2_with fail
    refine (unionR_any _ _ _).mono ?_
    rintro e w4 ⟨rfl, hb4⟩
    have hq := class_pre w w1 w2 w3 w4 (spn 97 122) (spn 65 90) (spn 48 57) hb1 hb2 hb3 hb4
    clear hb1 hb2 hb3 hb4
    obtain ⟨hl3, hl4, HR4, H0, H6, H7, H8⟩ := hq
    obtain ⟨l0, c0, c1, c2, c3, f0, f1, f2, f3⟩ := H0.out
    go_wp2
    have HRf := HR4
    refine bodyPost_ret (v := .tuple #[sv 0#256, .int .i64 10]) (by simp [results, Try.results25, go_sem, wd_zero, *]) rfl ⟨rfl, ?_⟩
    repeat (first | exact HRf.out | (refine Below.setCell ?_ (by first | omega | (simp <;> omega)) _) | (refine Below.alloc ?_ (by first | omega | (simp <;> omega)) _))
  · have d0 : decide (65 ≤ n) = false := by simpa using g0
    clear hcap
    have HH := (show Hid _ from Holds.zero w)
    have HR := (show Hid _ from below1 w z4)
    go_enter Try.func25, Try.ntmps25
    go_wp2_with fail
    refine (fromTo_any 97 122 _ (by omega) (by omega) (by omega)).mono ?_
    rintro e w1 ⟨rfl, hb1⟩
    go_wp2_with fail
    refine (fromTo_any 65 90 _ (by omega) (by omega) (by omega)).mono ?_
    rintro e w2 ⟨rfl, hb2⟩
    go_wp2_with fail
    refine (fromTo_any 48 57 _ (by omega) (by omega) (by omega)).mono ?_
    rintro e w3 ⟨rfl, hb3⟩
    go_wp2_with fail
    refine (unionR_any _ _ _).mono ?_
    rintro e w4 ⟨rfl, hb4⟩
    have hq := class_pre w w1 w2 w3 w4 (spn 97 122) (spn 65 90) (spn 48 57) hb1 hb2 hb3 hb4
    clear hb1 hb2 hb3 hb4
    obtain ⟨hl3, hl4, HR4, H0, H6, H7, H8⟩ := hq
    obtain ⟨l0, c0, c1, c2, c3, f0, f1, f2, f3⟩ := H0.out
    go_wp2
    have HRf := HR4
    refine bodyPost_ret (v := .tuple #[sv 0#256, .int .i64 10]) (by simp [results, Try.results25, go_sem, wd_zero, *]) rfl ⟨rfl, ?_⟩
    repeat (first | exact HRf.out | (refine Below.setCell ?_ (by first | omega | (simp <;> omega)) _) | (refine Below.alloc ?_ (by first | omega | (simp <;> omega)) _))

/-- A letter that is no capital. -/
theorem smallR_any (n : Nat) (w : World) (hcap : ¬ (65 ≤ n ∧ n ≤ 90)) :
    Calls Try.prog 25 #[.int .i64 n] w fun e w' => e = .returned (.tuple #[sv (sml n).1, .int .i64 (sml n).2]) ∧ Below w.heap.size w w' := by
  by_cases h97 : n = 97
  · subst h97; rw [sml97]; exact smallR97 w
  by_cases h99 : n = 99
  · subst h99; rw [sml99]; exact smallR99 w
  by_cases h100 : n = 100
  · subst h100; rw [sml100]; exact smallR100 w
  by_cases h103 : n = 103
  · subst h103; rw [sml103]; exact smallR103 w
  by_cases h108 : n = 108
  · subst h108; rw [sml108]; exact smallR108 w
  by_cases h112 : n = 112
  · subst h112; rw [sml112]; exact smallR112 w
  by_cases h115 : n = 115
  · subst h115; rw [sml115]; exact smallR115 w
  by_cases h117 : n = 117
  · subst h117; rw [sml117]; exact smallR117 w
  by_cases h119 : n = 119
  · subst h119; rw [sml119]; exact smallR119 w
  by_cases h120 : n = 120
  · subst h120; rw [sml120]; exact smallR120 w
  rw [sml_none n h97 h99 h100 h103 h108 h112 h115 h117 h119 h120]
  exact smallNoneR n w (by omega) (beq_eq_false_iff_ne.2 (by omega)) (beq_eq_false_iff_ne.2 (by omega)) (beq_eq_false_iff_ne.2 (by omega)) (beq_eq_false_iff_ne.2 (by omega)) (beq_eq_false_iff_ne.2 (by omega)) (beq_eq_false_iff_ne.2 (by omega)) (beq_eq_false_iff_ne.2 (by omega)) (beq_eq_false_iff_ne.2 (by omega)) (beq_eq_false_iff_ne.2 (by omega)) (beq_eq_false_iff_ne.2 (by omega))

theorem smallM_any (n : Int) (w : World) (hn : n < 0) :
    Calls Try.prog 25 #[.int .i64 n] w fun e w' => e = .returned (.tuple #[sv 0#256, .int .i64 10]) ∧ Below w.heap.size w w' :=
  smallNoneR n w (by omega) (beq_eq_false_iff_ne.2 (by omega)) (beq_eq_false_iff_ne.2 (by omega)) (beq_eq_false_iff_ne.2 (by omega)) (beq_eq_false_iff_ne.2 (by omega)) (beq_eq_false_iff_ne.2 (by omega)) (beq_eq_false_iff_ne.2 (by omega)) (beq_eq_false_iff_ne.2 (by omega)) (beq_eq_false_iff_ne.2 (by omega)) (beq_eq_false_iff_ne.2 (by omega)) (beq_eq_false_iff_ne.2 (by omega))

set_option maxHeartbeats 1000000 in
theorem classR_any (n : Nat) (hn : n < 256) (w : World) :
    Calls Try.prog 25 #[.int .i64 n] w fun e w' => e = .returned (.tuple #[sv (cls n).1, .int .i64 (cls n).2]) ∧ Below w.heap.size w w' := by
  by_cases hc : 65 ≤ n ∧ n ≤ 90
  · have HH := (show Hid _ from Holds.zero w)
    have HR := (show Hid _ from below1 w z4)
    have Hc := (show Hid _ from hc)
    have g0 : 65 ≤ (n : Int) := by omega
    have g1 : (n : Int) ≤ 90 := by omega
    have d0 : decide (65 ≤ (n : Int)) = true := by simpa using g0
    have d1 : decide ((n : Int) ≤ 90) = true := by simpa using g1
    clear hc
    rcases sml_err (n + 32) with he | he
    · have HE := (show Hid _ from cls_yes n Hc.out he)
      go_enter Try.func25, Try.ntmps25
      go_wp2_with fail
      rw [show (n : Int) + 32 = ((n + 32 : Nat) : Int) from by omega]
      refine (smallR_any (n + 32) _ (by have := Hc.out; omega)).mono ?_
      rintro e w1 ⟨rfl, hb⟩
      have hl : w.heap.size < w1.heap.size := by have h := hb.size; simp at h; omega
      have HR1 := (show Hid _ from HR.out.trans (hb.mono (by simp)))
      have HH1 := (show Hid _ from HH.out.below hb (by simp))
      rw [he]
      clear he hb HH HR
      generalize (sml (n + 32)).1 = r at *
      go_wp2_with fail
      refine (notR_any r _).mono ?_
      rintro e w2 ⟨rfl, hb⟩
      have HR2 := (show Hid _ from (HR1.out.alloc (by omega) (c4 r)).trans (hb.mono (by simp; omega)))
      have hl2 : w.heap.size < w2.heap.size := by have h := hb.size; simp at h; omega
      obtain ⟨l0, c0, c1, c2, c3, f0, f1, f2, f3⟩ := (HH1.out.alloc (c4 r)).below hb (by simp; omega)
      generalize hr : ~~~ r = q at *
      clear hr hb
      go_wp2
      rw [HE.out]
      refine bodyPost_ret (v := .tuple #[sv q, .int .i64 0]) (by simp [results, Try.results25, go_sem, *]) rfl ⟨rfl, put4_below HR2.out (Nat.le_refl _) _⟩
    · have HE := (show Hid _ from cls_no n Hc.out he)
      go_enter Try.func25, Try.ntmps25
      go_wp2_with fail
      rw [show (n : Int) + 32 = ((n + 32 : Nat) : Int) from by omega]
      refine (smallR_any (n + 32) _ (by have := Hc.out; omega)).mono ?_
      rintro e w1 ⟨rfl, hb⟩
      have hl : w.heap.size < w1.heap.size := by have h := hb.size; simp at h; omega
      have HR1 := (show Hid _ from HR.out.trans (hb.mono (by simp)))
      obtain ⟨l0, c0, c1, c2, c3, f0, f1, f2, f3⟩ := HH.out.below hb (by simp)
      rw [he]
      clear he hb HH HR
      generalize (sml (n + 32)).1 = r at *
      go_wp2
      rw [HE.out]
      refine bodyPost_ret (v := .tuple #[sv 0#256, .int .i64 10]) (by simp [results, Try.results25, go_sem, wd_zero, *]) rfl ⟨rfl, ?_⟩
      repeat (first | exact HR1.out | (refine Below.setCell ?_ (by first | omega | (simp <;> omega)) _) | (refine Below.alloc ?_ (by first | omega | (simp <;> omega)) _))
  · rw [cls_small n hc]
    exact smallR_any n w hc
end Go.Proofs.Ytlcmlipldkpliaa
