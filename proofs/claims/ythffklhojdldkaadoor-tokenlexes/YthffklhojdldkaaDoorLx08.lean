/- DERIVED. Plain mathematics and walks, laid together (8). -/
import Derived.Test.YthffklhojdldkaaDoorLx07
namespace Go.Proofs.YthffklhojdldkaaDoor
open Go.RowKit
set_option maxHeartbeats 2000000 in
theorem smallR112 (w : World) :
    Calls Tryd.prog 57 #[.int .i64 112] w fun e w' => e = .returned (.tuple #[sv (spn 33 126 &&& ~~~ (spn 65 90 ||| spn 97 122 ||| spn 48 57)), .int .i64 0]) ∧ Below w.heap.size w w' := by
  have HH := (show Hid _ from Holds.zero w)
  have HR := (show Hid _ from below1 w z4)
  go_enter Tryd.func57, Tryd.ntmps57
  go_wp2_with fail
  refine (fromTo_any 97 122 _ (by omega) (by omega) (by omega)).mono ?_
  rintro e w1 ⟨rfl, hb1⟩
  go_wp2_with fail
  refine (fromTo_any 65 90 _ (by omega) (by omega) (by omega)).mono ?_
  rintro e w2 ⟨rfl, hb2⟩
  go_wp2_with fail
  refine (fromTo_any 48 57 _ (by omega) (by omega) (by omega)).mono ?_
  rintro e w3 ⟨rfl, hb3⟩
  go_wp2_with fail
  refine (unionR_any _ _ _).mono ?_
  rintro e w4 ⟨rfl, hb4⟩
  have hq := class_pre w w1 w2 w3 w4 (spn 97 122) (spn 65 90) (spn 48 57) hb1 hb2 hb3 hb4
  clear hb1 hb2 hb3 hb4
  obtain ⟨hl3, hl4, HR4, H0, H6, H7, H8⟩ := hq
  have HQ : Hid (Below (w4.heap.size + 1) (w4.alloc (c4 (spn 97 122 ||| spn 65 90))) (w4.alloc (c4 (spn 97 122 ||| spn 65 90)))) := Below.refl _ _
  obtain ⟨l8, c80, c81, c82, c83, f80, f81, f82, f83⟩ := H8.out
  go_wp2
  go_region_with (first | (go_at_call 60; refine (fromTo_any 33 126 _ (by omega) (by omega) (by omega)).mono ?_; rintro e w5 ⟨rfl, hb⟩; have hq2 : Below (w4.heap.size + 1) (w4.alloc (c4 (spn 97 122 ||| spn 65 90))) w5 := (by first | exact HQ.out.trans (hb.mono (by first | exact HQ.out.size | (have h := HQ.out.size; simp at h; omega))) | exact HQ.out.drew.trans (hb.mono (by simp))); replace HQ := (show Hid _ from hq2); obtain ⟨l0, c00, c01, c02, c03, f00, f01, f02, f03⟩ := (H0.out.alloc (c4 (spn 97 122 ||| spn 65 90))).below HQ.out (by have h := H0.out.lt; omega); obtain ⟨l8, c80, c81, c82, c83, f80, f81, f82, f83⟩ := (H8.out.alloc (c4 (spn 97 122 ||| spn 65 90))).below HQ.out (by omega); obtain ⟨l9, c90, c91, c92, c93, f90, f91, f92, f93⟩ := (Holds.new w4 (spn 97 122 ||| spn 65 90)).below HQ.out (by omega)) | (go_at_call 58; refine (unionR_any _ _ _).mono ?_; rintro e w5 ⟨rfl, hb⟩; have hq2 : Below (w4.heap.size + 1) (w4.alloc (c4 (spn 97 122 ||| spn 65 90))) w5 := (by first | exact HQ.out.trans (hb.mono (by first | exact HQ.out.size | (have h := HQ.out.size; simp at h; omega))) | exact HQ.out.drew.trans (hb.mono (by simp))); replace HQ := (show Hid _ from hq2); obtain ⟨l0, c00, c01, c02, c03, f00, f01, f02, f03⟩ := (H0.out.alloc (c4 (spn 97 122 ||| spn 65 90))).below HQ.out (by have h := H0.out.lt; omega); obtain ⟨l8, c80, c81, c82, c83, f80, f81, f82, f83⟩ := (H8.out.alloc (c4 (spn 97 122 ||| spn 65 90))).below HQ.out (by omega); obtain ⟨l9, c90, c91, c92, c93, f90, f91, f92, f93⟩ := (Holds.new w4 (spn 97 122 ||| spn 65 90)).below HQ.out (by omega)) | (go_at_call 76; refine (lessR_any _ _ _).mono ?_; rintro e w5 ⟨rfl, hb⟩; have hq2 : Below (w4.heap.size + 1) (w4.alloc (c4 (spn 97 122 ||| spn 65 90))) w5 := (by first | exact HQ.out.trans (hb.mono (by first | exact HQ.out.size | (have h := HQ.out.size; simp at h; omega))) | exact HQ.out.drew.trans (hb.mono (by simp))); replace HQ := (show Hid _ from hq2); obtain ⟨l0, c00, c01, c02, c03, f00, f01, f02, f03⟩ := (H0.out.alloc (c4 (spn 97 122 ||| spn 65 90))).below HQ.out (by have h := H0.out.lt; omega); obtain ⟨l8, c80, c81, c82, c83, f80, f81, f82, f83⟩ := (H8.out.alloc (c4 (spn 97 122 ||| spn 65 90))).below HQ.out (by omega); obtain ⟨l9, c90, c91, c92, c93, f90, f91, f92, f93⟩ := (Holds.new w4 (spn 97 122 ||| spn 65 90)).below HQ.out (by omega)))
  all_goals
    have HR5 := (show Hid _ from (HR4.out.alloc (by omega) (c4 (spn 97 122 ||| spn 65 90))).trans (HQ.out.mono (by omega)))
    clear hb
    go_wp2
    have HRf := HR5
    refine bodyPost_ret (v := .tuple #[sv (spn 33 126 &&& ~~~ ((spn 97 122 ||| spn 65 90) ||| spn 48 57)), .int .i64 0]) (by simp [results, Tryd.results57, go_sem, *]) rfl ⟨?_, ?_⟩
    · exact congrArg (fun q => Ending.returned (.tuple #[sv q, .int .i64 0])) (by rw [BitVec.or_comm (spn 97 122)])
    · repeat (first | exact HRf.out | (refine Below.setCell ?_ (by first | omega | (simp <;> omega)) _) | (refine Below.alloc ?_ (by first | omega | (simp <;> omega)) _))
end Go.Proofs.YthffklhojdldkaaDoor

namespace Go.Proofs.YthffklhojdldkaaDoor
open Go.RowKit
set_option maxHeartbeats 2000000 in
theorem smallR120 (w : World) :
    Calls Tryd.prog 57 #[.int .i64 120] w fun e w' => e = .returned (.tuple #[sv (spn 48 57 ||| spn 65 70 ||| spn 97 102), .int .i64 0]) ∧ Below w.heap.size w w' := by
  have HH := (show Hid _ from Holds.zero w)
  have HR := (show Hid _ from below1 w z4)
  go_enter Tryd.func57, Tryd.ntmps57
  go_wp2_with fail
  refine (fromTo_any 97 122 _ (by omega) (by omega) (by omega)).mono ?_
  rintro e w1 ⟨rfl, hb1⟩
  go_wp2_with fail
  refine (fromTo_any 65 90 _ (by omega) (by omega) (by omega)).mono ?_
  rintro e w2 ⟨rfl, hb2⟩
  go_wp2_with fail
  refine (fromTo_any 48 57 _ (by omega) (by omega) (by omega)).mono ?_
  rintro e w3 ⟨rfl, hb3⟩
  go_wp2_with fail
  refine (unionR_any _ _ _).mono ?_
  rintro e w4 ⟨rfl, hb4⟩
  have hq := class_pre w w1 w2 w3 w4 (spn 97 122) (spn 65 90) (spn 48 57) hb1 hb2 hb3 hb4
  clear hb1 hb2 hb3 hb4
  obtain ⟨hl3, hl4, HR4, H0, H6, H7, H8⟩ := hq
  have HQ : Hid (Below (w4.heap.size + 1) (w4.alloc (c4 (spn 97 122 ||| spn 65 90))) (w4.alloc (c4 (spn 97 122 ||| spn 65 90)))) := Below.refl _ _
  obtain ⟨l8, c80, c81, c82, c83, f80, f81, f82, f83⟩ := H8.out
  go_wp2
  go_region_with (first | (go_at_call 60; refine (fromTo_any _ _ _ (by omega) (by omega) (by omega)).mono ?_; rintro e w5 ⟨rfl, hb⟩; have hq2 : Below (w4.heap.size + 1) (w4.alloc (c4 (spn 97 122 ||| spn 65 90))) w5 := (by first | exact HQ.out.trans (hb.mono (by first | exact HQ.out.size | (have h := HQ.out.size; simp at h; omega))) | exact HQ.out.drew.trans (hb.mono (by simp))); replace HQ := (show Hid _ from hq2); obtain ⟨l0, c00, c01, c02, c03, f00, f01, f02, f03⟩ := (H0.out.alloc (c4 (spn 97 122 ||| spn 65 90))).below HQ.out (by have h := H0.out.lt; omega); obtain ⟨l8, c80, c81, c82, c83, f80, f81, f82, f83⟩ := (H8.out.alloc (c4 (spn 97 122 ||| spn 65 90))).below HQ.out (by omega)) | (go_at_call 58; refine (unionR_any _ _ _).mono ?_; rintro e w5 ⟨rfl, hb⟩; have hq2 : Below (w4.heap.size + 1) (w4.alloc (c4 (spn 97 122 ||| spn 65 90))) w5 := (by first | exact HQ.out.trans (hb.mono (by first | exact HQ.out.size | (have h := HQ.out.size; simp at h; omega))) | exact HQ.out.drew.trans (hb.mono (by simp))); replace HQ := (show Hid _ from hq2); obtain ⟨l0, c00, c01, c02, c03, f00, f01, f02, f03⟩ := (H0.out.alloc (c4 (spn 97 122 ||| spn 65 90))).below HQ.out (by have h := H0.out.lt; omega); obtain ⟨l8, c80, c81, c82, c83, f80, f81, f82, f83⟩ := (H8.out.alloc (c4 (spn 97 122 ||| spn 65 90))).below HQ.out (by omega)))
  all_goals
    have HR5 := (show Hid _ from (HR4.out.alloc (by omega) (c4 (spn 97 122 ||| spn 65 90))).trans (HQ.out.mono (by omega)))
    clear hb
    go_wp2
    have HRf := HR5
    refine bodyPost_ret (v := .tuple #[sv (spn 48 57 ||| (spn 65 70 ||| spn 97 102)), .int .i64 0]) (by simp [results, Tryd.results57, go_sem, *]) rfl ⟨?_, ?_⟩
    · exact congrArg (fun q => Ending.returned (.tuple #[sv q, .int .i64 0])) ((BitVec.or_assoc _ _ _).symm)
    · repeat (first | exact HRf.out | (refine Below.setCell ?_ (by first | omega | (simp <;> omega)) _) | (refine Below.alloc ?_ (by first | omega | (simp <;> omega)) _))
end Go.Proofs.YthffklhojdldkaaDoor

namespace Go.Proofs.YthffklhojdldkaaDoor
open Go.RowKit
set_option maxHeartbeats 2000000 in
theorem smallNoneR (n : Int) (w : World) (hcap : ¬ (65 ≤ n ∧ n ≤ 90)) (h97 : (n == 97) = false) (h99 : (n == 99) = false) (h100 : (n == 100) = false) (h103 : (n == 103) = false) (h108 : (n == 108) = false) (h112 : (n == 112) = false) (h115 : (n == 115) = false) (h117 : (n == 117) = false) (h119 : (n == 119) = false) (h120 : (n == 120) = false) :
    Calls Tryd.prog 57 #[.int .i64 n] w fun e w' => e = .returned (.tuple #[sv 0#256, .int .i64 10]) ∧ Below w.heap.size w w' := by
  by_cases g0 : 65 ≤ n
  · have g1 : ¬ n ≤ 90 := fun h => hcap ⟨g0, h⟩
    have d0 : decide (65 ≤ n) = true := by simpa using g0
    have d1 : decide (n ≤ 90) = false := by simpa using g1
    clear hcap
    have HH := (show Hid _ from Holds.zero w)
    have HR := (show Hid _ from below1 w z4)
    go_enter Tryd.func57, Tryd.ntmps57
    go_wp2_with fail
    refine (fromTo_any 97 122 _ (by omega) (by omega) (by omega)).mono ?_
    rintro e w1 ⟨rfl, hb1⟩
    go_wp2_with fail
    refine (fromTo_any 65 90 _ (by omega) (by omega) (by omega)).mono ?_
    rintro e w2 ⟨rfl, hb2⟩
    go_wp2_with fail
    refine (fromTo_any 48 57 _ (by omega) (by omega) (by omega)).mono ?_
    rintro e w3 ⟨rfl, hb3⟩
    go_wp2_with fail
    refine (unionR_any _ _ _).mono ?_
    rintro e w4 ⟨rfl, hb4⟩
    have hq := class_pre w w1 w2 w3 w4 (spn 97 122) (spn 65 90) (spn 48 57) hb1 hb2 hb3 hb4
    clear hb1 hb2 hb3 hb4
    obtain ⟨hl3, hl4, HR4, H0, H6, H7, H8⟩ := hq
    obtain ⟨l0, c0, c1, c2, c3, f0, f1, f2, f3⟩ := H0.out
    go_wp2
    have HRf := HR4
    refine bodyPost_ret (v := .tuple #[sv 0#256, .int .i64 10]) (by simp [results, Tryd.results57, go_sem, wd_zero, *]) rfl ⟨rfl, ?_⟩
    repeat (first | exact HRf.out | (refine Below.setCell ?_ (by first | omega | (simp <;> omega)) _) | (refine Below.alloc ?_ (by first | omega | (simp <;> omega)) _))
  · have d0 : decide (65 ≤ n) = false := by simpa using g0
    clear hcap
    have HH := (show Hid _ from Holds.zero w)
    have HR := (show Hid _ from below1 w z4)
    go_enter Tryd.func57, Tryd.ntmps57
    go_wp2_with fail
    refine (fromTo_any 97 122 _ (by omega) (by omega) (by omega)).mono ?_
    rintro e w1 ⟨rfl, hb1⟩
    go_wp2_with fail
    refine (fromTo_any 65 90 _ (by omega) (by omega) (by omega)).mono ?_
    rintro e w2 ⟨rfl, hb2⟩
    go_wp2_with fail
    refine (fromTo_any 48 57 _ (by omega) (by omega) (by omega)).mono ?_
    rintro e w3 ⟨rfl, hb3⟩
    go_wp2_with fail
    refine (unionR_any _ _ _).mono ?_
    rintro e w4 ⟨rfl, hb4⟩
    have hq := class_pre w w1 w2 w3 w4 (spn 97 122) (spn 65 90) (spn 48 57) hb1 hb2 hb3 hb4
    clear hb1 hb2 hb3 hb4
    obtain ⟨hl3, hl4, HR4, H0, H6, H7, H8⟩ := hq
    obtain ⟨l0, c0, c1, c2, c3, f0, f1, f2, f3⟩ := H0.out
    go_wp2
    have HRf := HR4
    refine bodyPost_ret (v := .tuple #[sv 0#256, .int .i64 10]) (by simp [results, Tryd.results57, go_sem, wd_zero, *]) rfl ⟨rfl, ?_⟩
    repeat (first | exact HRf.out | (refine Below.setCell ?_ (by first | omega | (simp <;> omega)) _) | (refine Below.alloc ?_ (by first | omega | (simp <;> omega)) _))

/-- A letter that is no capital. -/
theorem smallR_any (n : Nat) (w : World) (hcap : ¬ (65 ≤ n ∧ n ≤ 90)) :
    Calls Tryd.prog 57 #[.int .i64 n] w fun e w' => e = .returned (.tuple #[sv (sml n).1, .int .i64 (sml n).2]) ∧ Below w.heap.size w w' := by
  by_cases h97 : n = 97
  · subst h97; rw [sml97]; exact smallR97 w
  by_cases h99 : n = 99
  · subst h99; rw [sml99]; exact smallR99 w
  by_cases h100 : n = 100
  · subst h100; rw [sml100]; exact smallR100 w
  by_cases h103 : n = 103
  · subst h103; rw [sml103]; exact smallR103 w
  by_cases h108 : n = 108
  · subst h108; rw [sml108]; exact smallR108 w
  by_cases h112 : n = 112
  · subst h112; rw [sml112]; exact smallR112 w
  by_cases h115 : n = 115
  · subst h115; rw [sml115]; exact smallR115 w
  by_cases h117 : n = 117
  · subst h117; rw [sml117]; exact smallR117 w
  by_cases h119 : n = 119
  · subst h119; rw [sml119]; exact smallR119 w
  by_cases h120 : n = 120
  · subst h120; rw [sml120]; exact smallR120 w
  rw [sml_none n h97 h99 h100 h103 h108 h112 h115 h117 h119 h120]
  exact smallNoneR n w (by omega) (beq_eq_false_iff_ne.2 (by omega)) (beq_eq_false_iff_ne.2 (by omega)) (beq_eq_false_iff_ne.2 (by omega)) (beq_eq_false_iff_ne.2 (by omega)) (beq_eq_false_iff_ne.2 (by omega)) (beq_eq_false_iff_ne.2 (by omega)) (beq_eq_false_iff_ne.2 (by omega)) (beq_eq_false_iff_ne.2 (by omega)) (beq_eq_false_iff_ne.2 (by omega)) (beq_eq_false_iff_ne.2 (by omega))

theorem smallM_any (n : Int) (w : World) (hn : n < 0) :
    Calls Tryd.prog 57 #[.int .i64 n] w fun e w' => e = .returned (.tuple #[sv 0#256, .int .i64 10]) ∧ Below w.heap.size w w' :=
  smallNoneR n w (by omega) (beq_eq_false_iff_ne.2 (by omega)) (beq_eq_false_iff_ne.2 (by omega)) (beq_eq_false_iff_ne.2 (by omega)) (beq_eq_false_iff_ne.2 (by omega)) (beq_eq_false_iff_ne.2 (by omega)) (beq_eq_false_iff_ne.2 (by omega)) (beq_eq_false_iff_ne.2 (by omega)) (beq_eq_false_iff_ne.2 (by omega)) (beq_eq_false_iff_ne.2 (by omega)) (beq_eq_false_iff_ne.2 (by omega))

set_option maxHeartbeats 1000000 in
theorem classR_any (n : Nat) (hn : n < 256) (w : World) :
    Calls Tryd.prog 57 #[.int .i64 n] w fun e w' => e = .returned (.tuple #[sv (cls n).1, .int .i64 (cls n).2]) ∧ Below w.heap.size w w' := by
  by_cases hc : 65 ≤ n ∧ n ≤ 90
  · have HH := (show Hid _ from Holds.zero w)
    have HR := (show Hid _ from below1 w z4)
    have Hc := (show Hid _ from hc)
    have g0 : 65 ≤ (n : Int) := by omega
    have g1 : (n : Int) ≤ 90 := by omega
    have d0 : decide (65 ≤ (n : Int)) = true := by simpa using g0
    have d1 : decide ((n : Int) ≤ 90) = true := by simpa using g1
    clear hc
    rcases sml_err (n + 32) with he | he
    · have HE := (show Hid _ from cls_yes n Hc.out he)
      go_enter Tryd.func57, Tryd.ntmps57
      go_wp2_with fail
      rw [show (n : Int) + 32 = ((n + 32 : Nat) : Int) from by omega]
      refine (smallR_any (n + 32) _ (by have := Hc.out; omega)).mono ?_
      rintro e w1 ⟨rfl, hb⟩
      have hl : w.heap.size < w1.heap.size := by have h := hb.size; simp at h; omega
      have HR1 := (show Hid _ from HR.out.trans (hb.mono (by simp)))
      have HH1 := (show Hid _ from HH.out.below hb (by simp))
      rw [he]
      clear he hb HH HR
      generalize (sml (n + 32)).1 = r at *
      go_wp2_with fail
      refine (notR_any r _).mono ?_
      rintro e w2 ⟨rfl, hb⟩
      have HR2 := (show Hid _ from (HR1.out.alloc (by omega) (c4 r)).trans (hb.mono (by simp; omega)))
      have hl2 : w.heap.size < w2.heap.size := by have h := hb.size; simp at h; omega
      obtain ⟨l0, c0, c1, c2, c3, f0, f1, f2, f3⟩ := (HH1.out.alloc (c4 r)).below hb (by simp; omega)
      generalize hr : ~~~ r = q at *
      clear hr hb
      go_wp2
      rw [HE.out]
      refine bodyPost_ret (v := .tuple #[sv q, .int .i64 0]) (by simp [results, Tryd.results57, go_sem, *]) rfl ⟨rfl, put4_below HR2.out (Nat.le_refl _) _⟩
    · have HE := (show Hid _ from cls_no n Hc.out he)
      go_enter Tryd.func57, Tryd.ntmps57
      go_wp2_with fail
      rw [show (n : Int) + 32 = ((n + 32 : Nat) : Int) from by omega]
      refine (smallR_any (n + 32) _ (by have := Hc.out; omega)).mono ?_
      rintro e w1 ⟨rfl, hb⟩
      have hl : w.heap.size < w1.heap.size := by have h := hb.size; simp at h; omega
      have HR1 := (show Hid _ from HR.out.trans (hb.mono (by simp)))
      obtain ⟨l0, c0, c1, c2, c3, f0, f1, f2, f3⟩ := HH.out.below hb (by simp)
      rw [he]
      clear he hb HH HR
      generalize (sml (n + 32)).1 = r at *
      go_wp2
      rw [HE.out]
      refine bodyPost_ret (v := .tuple #[sv 0#256, .int .i64 10]) (by simp [results, Tryd.results57, go_sem, wd_zero, *]) rfl ⟨rfl, ?_⟩
      repeat (first | exact HR1.out | (refine Below.setCell ?_ (by first | omega | (simp <;> omega)) _) | (refine Below.alloc ?_ (by first | omega | (simp <;> omega)) _))
  · rw [cls_small n hc]
    exact smallR_any n w hc
end Go.Proofs.YthffklhojdldkaaDoor

namespace Go.Proofs.YthffklhojdldkaaDoor
open Go.RowKit
/-- A class, a kind and a text laid into a token. -/
abbrev p6 (W : World) (g : Nat) (x : BitVec 256) (tx : ByteArray) : World := (((((W.setCell ⟨g, 0, none⟩ (.int .i64 28)).setCell ⟨g, 5, none⟩ (.int .u64 (wd x 0))).setCell ⟨g, 6, none⟩ (.int .u64 (wd x 1))).setCell ⟨g, 7, none⟩ (.int .u64 (wd x 2))).setCell ⟨g, 8, none⟩ (.int .u64 (wd x 3))).setCell ⟨g, 4, none⟩ (.string tx)
set_option maxHeartbeats 2000000 in
theorem p6_tx {W : World} {g : Nat} {fr en : Int} (h : TX W g ⟨0, 0, fr, en, ⟨#[]⟩, 0, 0, 0, 0⟩) (x : BitVec 256) (tx : ByteArray) : TX (p6 W g x tx) g ⟨28, 0, fr, en, tx, wd x 0, wd x 1, wd x 2, wd x 3⟩ := by
  have h := h.heap
  have h0 := heap_setCell_same _ g 0 _ 36 (.int .i64 28) h
  have h1 := heap_setCell_same _ g 5 _ 36 (.int .u64 (wd x 0)) h0
  have h2 := heap_setCell_same _ g 6 _ 36 (.int .u64 (wd x 1)) h1
  have h3 := heap_setCell_same _ g 7 _ 36 (.int .u64 (wd x 2)) h2
  have h4 := heap_setCell_same _ g 8 _ 36 (.int .u64 (wd x 3)) h3
  have h5 := heap_setCell_same _ g 4 _ 36 (.string tx) h4
  refine ⟨?_⟩
  rw [h5]
  simp
theorem p6_other {W : World} {g b : Nat} (h : b ≠ g) (x : BitVec 256) (tx : ByteArray) : (p6 W g x tx).heap[b]? = W.heap[b]? := by
  rw [heap_setCell_other _ _ _ _ h, heap_setCell_other _ _ _ _ h, heap_setCell_other _ _ _ _ h, heap_setCell_other _ _ _ _ h, heap_setCell_other _ _ _ _ h, heap_setCell_other _ _ _ _ h]
theorem p6_below {B : Nat} {w W : World} {g : Nat} (h : Below B w W) (hb : B ≤ g) (x : BitVec 256) (tx : ByteArray) : Below B w (p6 W g x tx) := (((((h.setCell (p := ⟨g, 0, none⟩) hb _).setCell (p := ⟨g, 5, none⟩) hb _).setCell (p := ⟨g, 6, none⟩) hb _).setCell (p := ⟨g, 7, none⟩) hb _).setCell (p := ⟨g, 8, none⟩) hb _).setCell (p := ⟨g, 4, none⟩) hb _
theorem cls_err (n : Nat) : (cls n).2 = 0 ∨ (cls n).2 = 10 := by
  unfold cls
  split
  · split
    · exact .inl rfl
    · exact sml_err (n + 32)
  · exact sml_err n
set_option maxRecDepth 100000 in
set_option maxHeartbeats 16000000 in
theorem percent_any (s : ByteArray) (b : Nat) (hs : s.size ≤ 140737488355000) (hb : b < s.size) (w : World) : Calls Tryd.prog 38 #[.string s, .int .i64 b] w fun e w' => e = .returned (tokV (pctR s b)) ∧ Below w.heap.size w w' := by
  have HWr : Hid (∀ i e w, Calls Tryd.prog 32 #[.int .i64 i, .int .i64 e] w fun e' w' => e' = .returned (.tuple #[tkG tk0, .int .i64 i, .int .i64 e]) ∧ Below w.heap.size w w') := fun i e w => wrong_any i e w
  have HA1 : Hid (∀ w, Calls Tryd.prog 29 #[.string s, .int .i64 ((b : Int) + 1)] w fun e w' => e = .returned (.int .i64 (chr s (b + 1))) ∧ w' = w) := fun w => at_any s (b + 1) w
  have HA2 : Hid (∀ w, Calls Tryd.prog 29 #[.string s, .int .i64 ((b : Int) + 2)] w fun e w' => e = .returned (.int .i64 (chr s (b + 2))) ∧ w' = w) := fun w => at_any s (b + 2) w
  have HX := (show Hid (TX ((w.alloc (tkO tk0)).alloc (tkO ⟨0, 0, b, b + 2, ⟨#[]⟩, 0, 0, 0, 0⟩)) w.heap.size tk0 ∧ TX ((w.alloc (tkO tk0)).alloc (tkO ⟨0, 0, b, b + 2, ⟨#[]⟩, 0, 0, 0, 0⟩)) (w.heap.size + 1) ⟨0, 0, b, b + 2, ⟨#[]⟩, 0, 0, 0, 0⟩) from ⟨(TX.new w _).below (below_box _ _), by have h := TX.new (w.alloc (tkO tk0)) ⟨0, 0, b, b + 2, ⟨#[]⟩, 0, 0, 0, 0⟩; rw [World.size_alloc] at h; exact h⟩)
  have HB := (show Hid (Below w.heap.size w ((w.alloc (tkO tk0)).alloc (tkO ⟨0, 0, b, b + 2, ⟨#[]⟩, 0, 0, 0, 0⟩))) from (below_box w _).alloc (below_box w _).size _)
  by_cases hu : chr s (b + 1) = 117 ∧ chr s (b + 2) = 123
  · have t1 : (chr s (b + 1) == 117) = true := by rw [hu.1]; rfl
    have t2 : (chr s (b + 2) == 123) = true := by rw [hu.2]; rfl
    have h2 : b + 2 < s.size := chr_lt (by omega)
    have HU : Hid (pctR s b = ptsR s b) := by show pctR s b = _; unfold pctR; rw [if_pos hu]
    have HP : Hid (∀ w, Calls Tryd.prog 62 #[.string s, .int .i64 b] w fun e w' => e = .returned (tokV (ptsR s b)) ∧ Below w.heap.size w w') := fun w => points_any s b hs (by omega) w
    clear hu
    cases hp : ptsR s b with
    | inl t =>
      rw [hp] at HU HP
      go_enter Tryd.func38, Tryd.ntmps38
      go_wp2_with fail
      refine (HA1.out _).mono ?_
      rintro e w2 ⟨rfl, rfl⟩
      go_wp2_with fail
      refine (HA2.out _).mono ?_
      rintro e w2 ⟨rfl, rfl⟩
      clear HA1 HA2
      go_wp2_with fail
      refine (HP.out _).mono ?_
      rintro e w3 ⟨rfl, b3⟩
      have HX3 := (show Hid (TX w3 w.heap.size tk0) from HX.out.1.below b3)
      have HB3 := (show Hid (Below w.heap.size w w3) from HB.out.trans (b3.mono HB.out.size))
      clear b3 HWr HP
      obtain ⟨c0, c1, c2, c3, c4, c5, c6, c7, c8⟩ := HX3.out.cells
      obtain ⟨f0, f1', f2', f3, f4, f5, f6, f7, f8⟩ := HX3.out.fz
      unfold tokV
      go_wp2_with fail
      exact ret_tok rfl rfl rfl rfl rfl (st9_tx HX3.out t) ⟨by rw [HU.out]; rfl, st9_below HB3.out (Nat.le_refl _) t⟩
    | inr q =>
      rw [hp] at HU HP
      go_enter Tryd.func38, Tryd.ntmps38
      go_wp2_with fail
      refine (HA1.out _).mono ?_
      rintro e w2 ⟨rfl, rfl⟩
      go_wp2_with fail
      refine (HA2.out _).mono ?_
      rintro e w2 ⟨rfl, rfl⟩
      clear HA1 HA2
      go_wp2_with fail
      refine (HP.out _).mono ?_
      rintro e w3 ⟨rfl, b3⟩
      have HX3 := (show Hid (TX w3 w.heap.size tk0) from HX.out.1.below b3)
      have HB3 := (show Hid (Below w.heap.size w w3) from HB.out.trans (b3.mono HB.out.size))
      clear b3 HWr HP
      obtain ⟨c0, c1, c2, c3, c4, c5, c6, c7, c8⟩ := HX3.out.cells
      obtain ⟨f0, f1', f2', f3, f4, f5, f6, f7, f8⟩ := HX3.out.fz
      unfold tokV
      go_wp2_with fail
      exact ret_tok rfl rfl rfl rfl rfl (st9_tx HX3.out tk0) ⟨by rw [HU.out]; rfl, st9_below HB3.out (Nat.le_refl _) tk0⟩
  · by_cases h117 : chr s (b + 1) = 117
    · have t1 : (chr s (b + 1) == 117) = true := by rw [h117]; rfl
      have t2 : (chr s (b + 2) == 123) = false := beq_eq_false_iff_ne.2 (fun q => hu ⟨h117, q⟩)
      have t3 : (chr s (b + 1) == 101) = false := by rw [h117]; rfl
      have t4 : (chr s (b + 1) == 102) = false := by rw [h117]; rfl
      have n1 : ¬ chr s (b + 1) = 101 := by omega
      have n2 : ¬ chr s (b + 1) = 102 := by omega
      clear h117
      by_cases hc : 0 ≤ chr s (b + 1) ∧ (cls (chr s (b + 1)).toNat).2 = 0
      · have hcl := chr_le s (b + 1)
        have hb1 : b + 1 < s.size := chr_lt hc.1
        have HE : Hid (pctR s b = .inl ⟨28, 0, b, b + 2, s.extract (b + 1) (b + 2), wd (cls (chr s (b + 1)).toNat).1 0, wd (cls (chr s (b + 1)).toNat).1 1, wd (cls (chr s (b + 1)).toNat).1 2, wd (cls (chr s (b + 1)).toNat).1 3⟩) := by show pctR s b = _; unfold pctR; rw [if_neg hu, if_neg n1, if_neg n2, if_pos hc]
        have HC : Hid (∀ w, Calls Tryd.prog 57 #[.int .i64 (chr s (b + 1))] w fun e w' => e = .returned (.tuple #[sv (cls (chr s (b + 1)).toNat).1, .int .i64 0]) ∧ Below w.heap.size w w') := fun w => by
          have h := classR_any (chr s (b + 1)).toNat (by omega) w
          rw [hc.2, show (((chr s (b + 1)).toNat : Nat) : Int) = chr s (b + 1) from by omega] at h
          exact h
        clear hc hu
        generalize (cls (chr s (b + 1)).toNat).1 = x at *
        go_enter Tryd.func38, Tryd.ntmps38
        go_wp2_with fail
        refine (HA1.out _).mono ?_
        rintro e w2 ⟨rfl, rfl⟩
        go_wp2_with fail
        refine (HA2.out _).mono ?_
        rintro e w2 ⟨rfl, rfl⟩
        go_wp2_with fail
        refine (HC.out _).mono ?_
        rintro e w3 ⟨rfl, b3⟩
        have HX3 := (show Hid (TX w3 w.heap.size tk0 ∧ TX w3 (w.heap.size + 1) ⟨0, 0, b, b + 2, ⟨#[]⟩, 0, 0, 0, 0⟩) from ⟨HX.out.1.below b3, HX.out.2.below b3⟩)
        have HB3 := (show Hid (Below w.heap.size w w3) from HB.out.trans (b3.mono HB.out.size))
        clear b3 HC HX HB
        go_wp2_with fail
        have HW4 := (show Hid (TX (w3.alloc (.cells #[.int .u64 (wd x 0), .int .u64 (wd x 1), .int .u64 (wd x 2), .int .u64 (wd x 3)] 34)) w.heap.size tk0 ∧ TX (w3.alloc (.cells #[.int .u64 (wd x 0), .int .u64 (wd x 1), .int .u64 (wd x 2), .int .u64 (wd x 3)] 34)) (w.heap.size + 1) ⟨0, 0, b, b + 2, ⟨#[]⟩, 0, 0, 0, 0⟩ ∧ Holds (w3.alloc (.cells #[.int .u64 (wd x 0), .int .u64 (wd x 1), .int .u64 (wd x 2), .int .u64 (wd x 3)] 34)) w3.heap.size x ∧ Below w.heap.size w (w3.alloc (.cells #[.int .u64 (wd x 0), .int .u64 (wd x 1), .int .u64 (wd x 2), .int .u64 (wd x 3)] 34))) from ⟨HX3.out.1.below (below_box _ _), HX3.out.2.below (below_box _ _), Holds.new w3 x, HB3.out.alloc HB3.out.size _⟩)
        generalize w3.alloc (.cells #[.int .u64 (wd x 0), .int .u64 (wd x 1), .int .u64 (wd x 2), .int .u64 (wd x 3)] 34) = w4 at *
        have HP := (show Hid (TX (p6 w4 (w.heap.size + 1) x (s.extract (b + 1) (b + 2))).drew w.heap.size tk0 ∧ TX (p6 w4 (w.heap.size + 1) x (s.extract (b + 1) (b + 2))).drew (w.heap.size + 1) ⟨28, 0, b, b + 2, s.extract (b + 1) (b + 2), wd x 0, wd x 1, wd x 2, wd x 3⟩ ∧ Below w.heap.size w (p6 w4 (w.heap.size + 1) x (s.extract (b + 1) (b + 2))).drew) from ⟨(HW4.out.1.same (p6_other (by omega) x (s.extract (b + 1) (b + 2)))).below (below_drewN (Below.refl _ _) 1), (p6_tx HW4.out.2.1 x (s.extract (b + 1) (b + 2))).below (below_drewN (Below.refl _ _) 1), below_drewN (p6_below HW4.out.2.2.2 (by omega) x (s.extract (b + 1) (b + 2))) 1⟩)
        obtain ⟨l0, e0, e1, e2, e3, g0, g1, g2, g3⟩ := HW4.out.2.2.1
        obtain ⟨c0, c1, c2, c3, c4, c5, c6, c7, c8⟩ := HW4.out.2.1.cells
        obtain ⟨f0, f1', f2', f3, f4, f5, f6, f7, f8⟩ := HW4.out.2.1.fz
        have ne1 : ¬ w3.heap.size = w.heap.size + 1 := by have := HX3.out.2.lt; omega
        have ne2 : ¬ w.heap.size + 1 = w3.heap.size := by omega
        obtain ⟨j1, hj1⟩ : ∃ j, j = b + 1 := ⟨_, rfl⟩
        obtain ⟨j2, hj2⟩ : ∃ j, j = b + 2 := ⟨_, rfl⟩
        have u1 : IntKind.i64.wrap ((b : Int) + 1) = (j1 : Int) := by rw [hj1, IntKind.wrap_i64]; omega
        have u2 : IntKind.i64.wrap ((b : Int) + 2) = (j2 : Int) := by rw [hj2, IntKind.wrap_i64]; omega
        have y0 : (0 : Int) ≤ (j1 : Int) := by omega
        have y1 : (j1 : Int) ≤ (j2 : Int) := by omega
        have y2 : (j2 : Int) ≤ (s.size : Int) := by omega
        rw [← hj1, ← hj2] at HP HE
        clear hj1 hj2
        clear HW4 HX3 HB3 HWr
        go_region
        all_goals
          generalize (((((((w4.setCell ⟨w.heap.size + 1, 0, none⟩ (.int .i64 28)).setCell ⟨w.heap.size + 1, 5, none⟩ (.int .u64 (wd x 0))).setCell ⟨w.heap.size + 1, 6, none⟩ (.int .u64 (wd x 1))).setCell ⟨w.heap.size + 1, 7, none⟩ (.int .u64 (wd x 2))).setCell ⟨w.heap.size + 1, 8, none⟩ (.int .u64 (wd x 3))).setCell ⟨w.heap.size + 1, 4, none⟩ (.string (s.extract j1 j2)))).drew = w6 at *
          clear e0 e1 e2 e3 g0 g1 g2 g3 c0 c1 c2 c3 c4 c5 c6 c7 c8 f0 f1' f2' f3 f4 f5 f6 f7 f8
          obtain ⟨c0, c1, c2, c3, c4, c5, c6, c7, c8⟩ := HP.out.2.1.cells
          obtain ⟨d0, d1, d2, d3, d4, d5, d6, d7, d8⟩ := HP.out.1.cells
          obtain ⟨f0, f1', f2', f3, f4, f5, f6, f7, f8⟩ := HP.out.1.fz
          go_wp2_with fail
          exact ret_tok (t := ⟨28, 0, b, b + 2, s.extract j1 j2, wd x 0, wd x 1, wd x 2, wd x 3⟩) (p := 0) (e := 0) rfl rfl rfl rfl rfl (st9_tx HP.out.1 ⟨28, 0, b, b + 2, s.extract j1 j2, wd x 0, wd x 1, wd x 2, wd x 3⟩) ⟨by rw [HE.out]; rfl, st9_below HP.out.2.2 (Nat.le_refl _) ⟨28, 0, b, b + 2, s.extract j1 j2, wd x 0, wd x 1, wd x 2, wd x 3⟩⟩
      · have HE : Hid (pctR s b = .inr (b, 10)) := by show pctR s b = _; unfold pctR; rw [if_neg hu, if_neg n1, if_neg n2, if_neg hc]
        have hcl := chr_le s (b + 1)
        have HC : Hid (∀ w, Calls Tryd.prog 57 #[.int .i64 (chr s (b + 1))] w fun e w' => (∃ x, e = .returned (.tuple #[sv x, .int .i64 10])) ∧ Below w.heap.size w w') := fun w => by
          by_cases h0 : chr s (b + 1) < 0
          · exact (smallM_any _ w h0).mono fun e w' ⟨h1, h2⟩ => ⟨⟨_, h1⟩, h2⟩
          · have h := classR_any (chr s (b + 1)).toNat (by omega) w
            rw [show (((chr s (b + 1)).toNat : Nat) : Int) = chr s (b + 1) from by omega] at h
            have h10 : (cls (chr s (b + 1)).toNat).2 = 10 := (cls_err _).resolve_left (fun q => hc ⟨by omega, q⟩)
            rw [h10] at h
            exact h.mono fun e w' ⟨h1, h2⟩ => ⟨⟨_, h1⟩, h2⟩
        clear hc hu
        go_enter Tryd.func38, Tryd.ntmps38
        go_wp2_with fail
        refine (HA1.out _).mono ?_
        rintro e w2 ⟨rfl, rfl⟩
        go_wp2_with fail
        refine (HA2.out _).mono ?_
        rintro e w2 ⟨rfl, rfl⟩
        go_wp2_with fail
        refine (HC.out _).mono ?_
        rintro e w3 ⟨⟨x, rfl⟩, b3⟩
        have HX3 := (show Hid (TX w3 w.heap.size tk0 ∧ TX w3 (w.heap.size + 1) ⟨0, 0, b, b + 2, ⟨#[]⟩, 0, 0, 0, 0⟩) from ⟨HX.out.1.below b3, HX.out.2.below b3⟩)
        have HB3 := (show Hid (Below w.heap.size w w3) from HB.out.trans (b3.mono HB.out.size))
        clear b3 HC HX HB
        go_wp2_with fail
        refine (HWr.out _ _ _).mono ?_
        rintro e w4 ⟨rfl, b4⟩
        have HX4 := (show Hid (TX w4 w.heap.size tk0) from HX3.out.1.below ((below_box _ _).trans (b4.mono (below_box _ _).size)))
        have HB4 := (show Hid (Below w.heap.size w w4) from HB3.out.trans (((below_box _ _).trans (b4.mono (below_box _ _).size)).mono HB3.out.size))
        clear b4 HWr
        obtain ⟨c0, c1, c2, c3, c4, c5, c6, c7, c8⟩ := HX4.out.cells
        obtain ⟨f0, f1', f2', f3, f4, f5, f6, f7, f8⟩ := HX4.out.fz
        go_wp2_with fail
        exact ret_tok rfl rfl rfl rfl rfl (st9_tx HX4.out tk0) ⟨by rw [HE.out]; rfl, st9_below HB4.out (Nat.le_refl _) tk0⟩
    · have t1 : (chr s (b + 1) == 117) = false := beq_eq_false_iff_ne.2 h117
      by_cases n1 : chr s (b + 1) = 101
      · have HE : Hid (pctR s b = .inl ⟨29, 0, b, b + 2, ⟨#[]⟩, 0, 0, 0, 0⟩) := by show pctR s b = _; unfold pctR; rw [if_neg hu, if_pos n1]
        have t3 : (chr s (b + 1) == 101) = true := by rw [n1]; rfl
        clear hu n1 HX HB
        go_enter Tryd.func38, Tryd.ntmps38
        go_wp2_with fail
        refine (HA1.out _).mono ?_
        rintro e w2 ⟨rfl, rfl⟩
        go_wp2_with fail
        exact ret_tok (t := ⟨29, 0, b, b + 2, ⟨#[]⟩, 0, 0, 0, 0⟩) rfl rfl rfl rfl rfl ((TX.new w ⟨29, 0, b, b + 2, ⟨#[]⟩, 0, 0, 0, 0⟩).below (below_box _ _)) ⟨by rw [HE.out]; rfl, (below_box w _).alloc (below_box w _).size _⟩
      have t3 : (chr s (b + 1) == 101) = false := beq_eq_false_iff_ne.2 n1
      by_cases n2 : chr s (b + 1) = 102
      · have HE : Hid (pctR s b = .inl ⟨30, 0, b, b + 2, ⟨#[]⟩, 0, 0, 0, 0⟩) := by show pctR s b = _; unfold pctR; rw [if_neg hu, if_neg n1, if_pos n2]
        have t4 : (chr s (b + 1) == 102) = true := by rw [n2]; rfl
        clear hu n1 n2 HX HB
        go_enter Tryd.func38, Tryd.ntmps38
        go_wp2_with fail
        refine (HA1.out _).mono ?_
        rintro e w2 ⟨rfl, rfl⟩
        go_wp2_with fail
        exact ret_tok (t := ⟨30, 0, b, b + 2, ⟨#[]⟩, 0, 0, 0, 0⟩) rfl rfl rfl rfl rfl ((TX.new w ⟨30, 0, b, b + 2, ⟨#[]⟩, 0, 0, 0, 0⟩).below (below_box _ _)) ⟨by rw [HE.out]; rfl, (below_box w _).alloc (below_box w _).size _⟩
      have t4 : (chr s (b + 1) == 102) = false := beq_eq_false_iff_ne.2 n2
      by_cases hc : 0 ≤ chr s (b + 1) ∧ (cls (chr s (b + 1)).toNat).2 = 0
      · have hcl := chr_le s (b + 1)
        have hb1 : b + 1 < s.size := chr_lt hc.1
        have HE : Hid (pctR s b = .inl ⟨28, 0, b, b + 2, s.extract (b + 1) (b + 2), wd (cls (chr s (b + 1)).toNat).1 0, wd (cls (chr s (b + 1)).toNat).1 1, wd (cls (chr s (b + 1)).toNat).1 2, wd (cls (chr s (b + 1)).toNat).1 3⟩) := by show pctR s b = _; unfold pctR; rw [if_neg hu, if_neg n1, if_neg n2, if_pos hc]
        have HC : Hid (∀ w, Calls Tryd.prog 57 #[.int .i64 (chr s (b + 1))] w fun e w' => e = .returned (.tuple #[sv (cls (chr s (b + 1)).toNat).1, .int .i64 0]) ∧ Below w.heap.size w w') := fun w => by
          have h := classR_any (chr s (b + 1)).toNat (by omega) w
          rw [hc.2, show (((chr s (b + 1)).toNat : Nat) : Int) = chr s (b + 1) from by omega] at h
          exact h
        clear hc hu
        generalize (cls (chr s (b + 1)).toNat).1 = x at *
        go_enter Tryd.func38, Tryd.ntmps38
        go_wp2_with fail
        refine (HA1.out _).mono ?_
        rintro e w2 ⟨rfl, rfl⟩
        go_wp2_with fail
        refine (HC.out _).mono ?_
        rintro e w3 ⟨rfl, b3⟩
        have HX3 := (show Hid (TX w3 w.heap.size tk0 ∧ TX w3 (w.heap.size + 1) ⟨0, 0, b, b + 2, ⟨#[]⟩, 0, 0, 0, 0⟩) from ⟨HX.out.1.below b3, HX.out.2.below b3⟩)
        have HB3 := (show Hid (Below w.heap.size w w3) from HB.out.trans (b3.mono HB.out.size))
        clear b3 HC HX HB
        go_wp2_with fail
        have HW4 := (show Hid (TX (w3.alloc (.cells #[.int .u64 (wd x 0), .int .u64 (wd x 1), .int .u64 (wd x 2), .int .u64 (wd x 3)] 34)) w.heap.size tk0 ∧ TX (w3.alloc (.cells #[.int .u64 (wd x 0), .int .u64 (wd x 1), .int .u64 (wd x 2), .int .u64 (wd x 3)] 34)) (w.heap.size + 1) ⟨0, 0, b, b + 2, ⟨#[]⟩, 0, 0, 0, 0⟩ ∧ Holds (w3.alloc (.cells #[.int .u64 (wd x 0), .int .u64 (wd x 1), .int .u64 (wd x 2), .int .u64 (wd x 3)] 34)) w3.heap.size x ∧ Below w.heap.size w (w3.alloc (.cells #[.int .u64 (wd x 0), .int .u64 (wd x 1), .int .u64 (wd x 2), .int .u64 (wd x 3)] 34))) from ⟨HX3.out.1.below (below_box _ _), HX3.out.2.below (below_box _ _), Holds.new w3 x, HB3.out.alloc HB3.out.size _⟩)
        generalize w3.alloc (.cells #[.int .u64 (wd x 0), .int .u64 (wd x 1), .int .u64 (wd x 2), .int .u64 (wd x 3)] 34) = w4 at *
        have HP := (show Hid (TX (p6 w4 (w.heap.size + 1) x (s.extract (b + 1) (b + 2))).drew w.heap.size tk0 ∧ TX (p6 w4 (w.heap.size + 1) x (s.extract (b + 1) (b + 2))).drew (w.heap.size + 1) ⟨28, 0, b, b + 2, s.extract (b + 1) (b + 2), wd x 0, wd x 1, wd x 2, wd x 3⟩ ∧ Below w.heap.size w (p6 w4 (w.heap.size + 1) x (s.extract (b + 1) (b + 2))).drew) from ⟨(HW4.out.1.same (p6_other (by omega) x (s.extract (b + 1) (b + 2)))).below (below_drewN (Below.refl _ _) 1), (p6_tx HW4.out.2.1 x (s.extract (b + 1) (b + 2))).below (below_drewN (Below.refl _ _) 1), below_drewN (p6_below HW4.out.2.2.2 (by omega) x (s.extract (b + 1) (b + 2))) 1⟩)
        obtain ⟨l0, e0, e1, e2, e3, g0, g1, g2, g3⟩ := HW4.out.2.2.1
        obtain ⟨c0, c1, c2, c3, c4, c5, c6, c7, c8⟩ := HW4.out.2.1.cells
        obtain ⟨f0, f1', f2', f3, f4, f5, f6, f7, f8⟩ := HW4.out.2.1.fz
        have ne1 : ¬ w3.heap.size = w.heap.size + 1 := by have := HX3.out.2.lt; omega
        have ne2 : ¬ w.heap.size + 1 = w3.heap.size := by omega
        obtain ⟨j1, hj1⟩ : ∃ j, j = b + 1 := ⟨_, rfl⟩
        obtain ⟨j2, hj2⟩ : ∃ j, j = b + 2 := ⟨_, rfl⟩
        have u1 : IntKind.i64.wrap ((b : Int) + 1) = (j1 : Int) := by rw [hj1, IntKind.wrap_i64]; omega
        have u2 : IntKind.i64.wrap ((b : Int) + 2) = (j2 : Int) := by rw [hj2, IntKind.wrap_i64]; omega
        have y0 : (0 : Int) ≤ (j1 : Int) := by omega
        have y1 : (j1 : Int) ≤ (j2 : Int) := by omega
        have y2 : (j2 : Int) ≤ (s.size : Int) := by omega
        rw [← hj1, ← hj2] at HP HE
        clear hj1 hj2
        clear HW4 HX3 HB3 HWr
        go_region
        all_goals
          generalize (((((((w4.setCell ⟨w.heap.size + 1, 0, none⟩ (.int .i64 28)).setCell ⟨w.heap.size + 1, 5, none⟩ (.int .u64 (wd x 0))).setCell ⟨w.heap.size + 1, 6, none⟩ (.int .u64 (wd x 1))).setCell ⟨w.heap.size + 1, 7, none⟩ (.int .u64 (wd x 2))).setCell ⟨w.heap.size + 1, 8, none⟩ (.int .u64 (wd x 3))).setCell ⟨w.heap.size + 1, 4, none⟩ (.string (s.extract j1 j2)))).drew = w6 at *
          clear e0 e1 e2 e3 g0 g1 g2 g3 c0 c1 c2 c3 c4 c5 c6 c7 c8 f0 f1' f2' f3 f4 f5 f6 f7 f8
          obtain ⟨c0, c1, c2, c3, c4, c5, c6, c7, c8⟩ := HP.out.2.1.cells
          obtain ⟨d0, d1, d2, d3, d4, d5, d6, d7, d8⟩ := HP.out.1.cells
          obtain ⟨f0, f1', f2', f3, f4, f5, f6, f7, f8⟩ := HP.out.1.fz
          go_wp2_with fail
          exact ret_tok (t := ⟨28, 0, b, b + 2, s.extract j1 j2, wd x 0, wd x 1, wd x 2, wd x 3⟩) (p := 0) (e := 0) rfl rfl rfl rfl rfl (st9_tx HP.out.1 ⟨28, 0, b, b + 2, s.extract j1 j2, wd x 0, wd x 1, wd x 2, wd x 3⟩) ⟨by rw [HE.out]; rfl, st9_below HP.out.2.2 (Nat.le_refl _) ⟨28, 0, b, b + 2, s.extract j1 j2, wd x 0, wd x 1, wd x 2, wd x 3⟩⟩
      · have HE : Hid (pctR s b = .inr (b, 10)) := by show pctR s b = _; unfold pctR; rw [if_neg hu, if_neg n1, if_neg n2, if_neg hc]
        have hcl := chr_le s (b + 1)
        have HC : Hid (∀ w, Calls Tryd.prog 57 #[.int .i64 (chr s (b + 1))] w fun e w' => (∃ x, e = .returned (.tuple #[sv x, .int .i64 10])) ∧ Below w.heap.size w w') := fun w => by
          by_cases h0 : chr s (b + 1) < 0
          · exact (smallM_any _ w h0).mono fun e w' ⟨h1, h2⟩ => ⟨⟨_, h1⟩, h2⟩
          · have h := classR_any (chr s (b + 1)).toNat (by omega) w
            rw [show (((chr s (b + 1)).toNat : Nat) : Int) = chr s (b + 1) from by omega] at h
            have h10 : (cls (chr s (b + 1)).toNat).2 = 10 := (cls_err _).resolve_left (fun q => hc ⟨by omega, q⟩)
            rw [h10] at h
            exact h.mono fun e w' ⟨h1, h2⟩ => ⟨⟨_, h1⟩, h2⟩
        clear hc hu
        go_enter Tryd.func38, Tryd.ntmps38
        go_wp2_with fail
        refine (HA1.out _).mono ?_
        rintro e w2 ⟨rfl, rfl⟩
        go_wp2_with fail
        refine (HC.out _).mono ?_
        rintro e w3 ⟨⟨x, rfl⟩, b3⟩
        have HX3 := (show Hid (TX w3 w.heap.size tk0 ∧ TX w3 (w.heap.size + 1) ⟨0, 0, b, b + 2, ⟨#[]⟩, 0, 0, 0, 0⟩) from ⟨HX.out.1.below b3, HX.out.2.below b3⟩)
        have HB3 := (show Hid (Below w.heap.size w w3) from HB.out.trans (b3.mono HB.out.size))
        clear b3 HC HX HB
        go_wp2_with fail
        refine (HWr.out _ _ _).mono ?_
        rintro e w4 ⟨rfl, b4⟩
        have HX4 := (show Hid (TX w4 w.heap.size tk0) from HX3.out.1.below ((below_box _ _).trans (b4.mono (below_box _ _).size)))
        have HB4 := (show Hid (Below w.heap.size w w4) from HB3.out.trans (((below_box _ _).trans (b4.mono (below_box _ _).size)).mono HB3.out.size))
        clear b4 HWr
        obtain ⟨c0, c1, c2, c3, c4, c5, c6, c7, c8⟩ := HX4.out.cells
        obtain ⟨f0, f1', f2', f3, f4, f5, f6, f7, f8⟩ := HX4.out.fz
        go_wp2_with fail
        exact ret_tok rfl rfl rfl rfl rfl (st9_tx HX4.out tk0) ⟨by rw [HE.out]; rfl, st9_below HB4.out (Nat.le_refl _) tk0⟩
end Go.Proofs.YthffklhojdldkaaDoor

namespace Go.Proofs.YthffklhojdldkaaDoor
open Go.RowKit
set_option maxRecDepth 100000 in
set_option maxHeartbeats 8000000 in
theorem count_any (s : ByteArray) (b : Nat) (hs : s.size ≤ 140737488355328) (hb : b < s.size) (w : World) : Calls Tryd.prog 39 #[.string s, .int .i64 b] w fun e w' => e = .returned (tokV (cntR s b)) ∧ Below w.heap.size w w' := by
  have HX := (show Hid (TX (w.alloc (tkO tk0)) w.heap.size tk0) from TX.new w tk0)
  have HB := (show Hid (Below w.heap.size w (w.alloc (tkO tk0))) from below_box w _)
  have HWr : Hid (∀ i e w, Calls Tryd.prog 32 #[.int .i64 i, .int .i64 e] w fun e' w' => e' = .returned (.tuple #[tkG tk0, .int .i64 i, .int .i64 e]) ∧ Below w.heap.size w w') := fun i e w => wrong_any i e w
  have HA : Hid (∀ w, Calls Tryd.prog 29 #[.string s, .int .i64 ((b : Int) + 1)] w fun e w' => e = .returned (.int .i64 (chr s (b + 1))) ∧ w' = w) := fun w => at_any s (b + 1) w
  by_cases h43 : chr s (b + 1) = 43
  · have h1 : b + 1 < s.size := chr_lt (by omega)
    have t1 : (chr s (b + 1) == 43) = true := by rw [h43]; rfl
    cases hq : numR s (b + 2) 50 with
    | inr e0 =>
      have HE : Hid (cntR s b = .inr (b, e0)) := by show cntR s b = _; unfold cntR; simp only [h43, if_true, hq, true_or]
      have hne : e0 ≠ 0 := numR_ne hq
      have t9 : (e0 != 0) = true := by rw [bne, beq_eq_false_iff_ne.2 hne]; rfl
      have HNu := (show Hid (∀ w, Calls Tryd.prog 34 #[.string s, .int .i64 b, .int .i64 ((b : Int) + 2), .int .i64 50] w fun e w' => e = .returned (.tuple #[.int .i64 0, .int .i64 e0]) ∧ w' = w) from fun w => by
        have h := number_any s b (b + 2) 50 hs (by omega) w
        rw [hq] at h
        exact h)
      clear hq hne
      go_enter Tryd.func39, Tryd.ntmps39
      go_wp2_with fail
      refine (HA.out _).mono ?_
      rintro e w ⟨rfl, rfl⟩
      go_wp2_with fail
      refine (HNu.out _).mono ?_
      rintro e w2 ⟨rfl, rfl⟩
      clear HNu
      go_wp2_with fail
      refine (HWr.out _ _ _).mono ?_
      rintro e w3 ⟨rfl, b3⟩
      have HX3 := (show Hid (TX w3 w.heap.size tk0) from HX.out.below b3)
      have HB3 := (show Hid (Below w.heap.size w w3) from HB.out.trans (b3.mono HB.out.size))
      clear b3 HWr
      obtain ⟨c0, c1, c2, c3, c4, c5, c6, c7, c8⟩ := HX3.out.cells
      obtain ⟨f0, f1, f2, f3, f4, f5, f6, f7, f8⟩ := HX3.out.fz
      go_wp2_with fail
      exact ret_tok rfl rfl rfl rfl rfl (st9_tx HX3.out tk0) ⟨by rw [HE.out]; rfl, st9_below HB3.out (Nat.le_refl _) tk0⟩
    | inl n0 =>
      have HE : Hid (cntR s b = .inl ⟨14, n0, b, spN dgB s (b + 2), ⟨#[]⟩, 0, 0, 0, 0⟩) := by show cntR s b = _; unfold cntR; simp only [h43, if_true, hq, true_or]
      have HNu := (show Hid (∀ w, Calls Tryd.prog 34 #[.string s, .int .i64 b, .int .i64 ((b : Int) + 2), .int .i64 50] w fun e w' => e = .returned (.tuple #[.int .i64 n0, .int .i64 0]) ∧ w' = w) from fun w => by
        have h := number_any s b (b + 2) 50 hs (by omega) w
        rw [hq] at h
        exact h)
      have HDg := (show Hid (∀ w, Calls Tryd.prog 35 #[.string s, .int .i64 ((b : Int) + 2)] w fun e w' => e = .returned (.int .i64 (spN dgB s (b + 2))) ∧ w' = w) from fun w => digits_any s (b + 2) hs (by omega) w)
      clear hq
      go_enter Tryd.func39, Tryd.ntmps39
      go_wp2_with fail
      refine (HA.out _).mono ?_
      rintro e w ⟨rfl, rfl⟩
      go_wp2_with fail
      refine (HNu.out _).mono ?_
      rintro e w2 ⟨rfl, rfl⟩
      clear HNu
      go_wp2_with fail
      refine (HDg.out _).mono ?_
      rintro e w3 ⟨rfl, rfl⟩
      clear HDg
      obtain ⟨c0, c1, c2, c3, c4, c5, c6, c7, c8⟩ := HX.out.cells
      obtain ⟨f0, f1, f2, f3, f4, f5, f6, f7, f8⟩ := HX.out.fz
      go_wp2_with fail
      exact ret_tok rfl rfl rfl rfl rfl (TX.new w ⟨14, n0, b, spN dgB s (b + 2), ⟨#[]⟩, 0, 0, 0, 0⟩) ⟨by rw [HE.out]; rfl, below_box w _⟩
  · have t1 : (chr s (b + 1) == 43) = false := beq_eq_false_iff_ne.2 h43
    by_cases h45 : chr s (b + 1) = 45
    · have h1 : b + 1 < s.size := chr_lt (by omega)
      have t2 : (chr s (b + 1) == 45) = true := by rw [h45]; rfl
      cases hq : numR s (b + 2) 50 with
      | inr e0 =>
        have HE : Hid (cntR s b = .inr (b, e0)) := by show cntR s b = _; unfold cntR; simp only [h45, if_true, hq, or_true]
        have hne : e0 ≠ 0 := numR_ne hq
        have t9 : (e0 != 0) = true := by rw [bne, beq_eq_false_iff_ne.2 hne]; rfl
        have HNu := (show Hid (∀ w, Calls Tryd.prog 34 #[.string s, .int .i64 b, .int .i64 ((b : Int) + 2), .int .i64 50] w fun e w' => e = .returned (.tuple #[.int .i64 0, .int .i64 e0]) ∧ w' = w) from fun w => by
          have h := number_any s b (b + 2) 50 hs (by omega) w
          rw [hq] at h
          exact h)
        clear hq hne
        go_enter Tryd.func39, Tryd.ntmps39
        go_wp2_with fail
        refine (HA.out _).mono ?_
        rintro e w ⟨rfl, rfl⟩
        go_wp2_with fail
        refine (HA.out _).mono ?_
        rintro e w ⟨rfl, rfl⟩
        clear HA
        go_wp2_with fail
        refine (HNu.out _).mono ?_
        rintro e w2 ⟨rfl, rfl⟩
        clear HNu
        go_wp2_with fail
        refine (HWr.out _ _ _).mono ?_
        rintro e w3 ⟨rfl, b3⟩
        have HX3 := (show Hid (TX w3 w.heap.size tk0) from HX.out.below b3)
        have HB3 := (show Hid (Below w.heap.size w w3) from HB.out.trans (b3.mono HB.out.size))
        clear b3 HWr
        obtain ⟨c0, c1, c2, c3, c4, c5, c6, c7, c8⟩ := HX3.out.cells
        obtain ⟨f0, f1, f2, f3, f4, f5, f6, f7, f8⟩ := HX3.out.fz
        go_wp2_with fail
        exact ret_tok rfl rfl rfl rfl rfl (st9_tx HX3.out tk0) ⟨by rw [HE.out]; rfl, st9_below HB3.out (Nat.le_refl _) tk0⟩
      | inl n0 =>
        have HE : Hid (cntR s b = .inl ⟨15, n0, b, spN dgB s (b + 2), ⟨#[]⟩, 0, 0, 0, 0⟩) := by show cntR s b = _; unfold cntR; simp only [h45, if_true, hq, or_true, if_neg (show ¬ (45 : Int) = 43 by decide)]
        have HNu := (show Hid (∀ w, Calls Tryd.prog 34 #[.string s, .int .i64 b, .int .i64 ((b : Int) + 2), .int .i64 50] w fun e w' => e = .returned (.tuple #[.int .i64 n0, .int .i64 0]) ∧ w' = w) from fun w => by
          have h := number_any s b (b + 2) 50 hs (by omega) w
          rw [hq] at h
          exact h)
        have HDg := (show Hid (∀ w, Calls Tryd.prog 35 #[.string s, .int .i64 ((b : Int) + 2)] w fun e w' => e = .returned (.int .i64 (spN dgB s (b + 2))) ∧ w' = w) from fun w => digits_any s (b + 2) hs (by omega) w)
        clear hq
        go_enter Tryd.func39, Tryd.ntmps39
        go_wp2_with fail
        refine (HA.out _).mono ?_
        rintro e w ⟨rfl, rfl⟩
        go_wp2_with fail
        refine (HA.out _).mono ?_
        rintro e w ⟨rfl, rfl⟩
        clear HA
        go_wp2_with fail
        refine (HNu.out _).mono ?_
        rintro e w2 ⟨rfl, rfl⟩
        clear HNu
        go_wp2_with fail
        refine (HDg.out _).mono ?_
        rintro e w3 ⟨rfl, rfl⟩
        clear HDg
        obtain ⟨c0, c1, c2, c3, c4, c5, c6, c7, c8⟩ := HX.out.cells
        obtain ⟨f0, f1, f2, f3, f4, f5, f6, f7, f8⟩ := HX.out.fz
        go_wp2_with fail
        exact ret_tok rfl rfl rfl rfl rfl (TX.new w ⟨15, n0, b, spN dgB s (b + 2), ⟨#[]⟩, 0, 0, 0, 0⟩) ⟨by rw [HE.out]; rfl, below_box w _⟩
    · have t2 : (chr s (b + 1) == 45) = false := beq_eq_false_iff_ne.2 h45
      cases hq : numR s (b + 1) 50 with
      | inr e0 =>
        have HE : Hid (cntR s b = .inr (b, e0)) := by show cntR s b = _; unfold cntR; simp only [hq, if_neg (show ¬ (chr s (b + 1) = 43 ∨ chr s (b + 1) = 45) by omega)]
        have hne : e0 ≠ 0 := numR_ne hq
        have t9 : (e0 != 0) = true := by rw [bne, beq_eq_false_iff_ne.2 hne]; rfl
        have HNu := (show Hid (∀ w, Calls Tryd.prog 34 #[.string s, .int .i64 b, .int .i64 ((b : Int) + 1), .int .i64 50] w fun e w' => e = .returned (.tuple #[.int .i64 0, .int .i64 e0]) ∧ w' = w) from fun w => by
          have h := number_any s b (b + 1) 50 hs (by omega) w
          rw [hq] at h
          exact h)
        clear hq hne
        go_enter Tryd.func39, Tryd.ntmps39
        go_wp2_with fail
        refine (HA.out _).mono ?_
        rintro e w ⟨rfl, rfl⟩
        go_wp2_with fail
        refine (HA.out _).mono ?_
        rintro e w ⟨rfl, rfl⟩
        clear HA
        go_wp2_with fail
        refine (HNu.out _).mono ?_
        rintro e w2 ⟨rfl, rfl⟩
        clear HNu
        go_wp2_with fail
        refine (HWr.out _ _ _).mono ?_
        rintro e w3 ⟨rfl, b3⟩
        have HX3 := (show Hid (TX w3 w.heap.size tk0) from HX.out.below b3)
        have HB3 := (show Hid (Below w.heap.size w w3) from HB.out.trans (b3.mono HB.out.size))
        clear b3 HWr
        obtain ⟨c0, c1, c2, c3, c4, c5, c6, c7, c8⟩ := HX3.out.cells
        obtain ⟨f0, f1, f2, f3, f4, f5, f6, f7, f8⟩ := HX3.out.fz
        go_wp2_with fail
        exact ret_tok rfl rfl rfl rfl rfl (st9_tx HX3.out tk0) ⟨by rw [HE.out]; rfl, st9_below HB3.out (Nat.le_refl _) tk0⟩
      | inl n0 =>
        have HE : Hid (cntR s b = .inl ⟨13, n0, b, spN dgB s (b + 1), ⟨#[]⟩, 0, 0, 0, 0⟩) := by show cntR s b = _; unfold cntR; simp only [if_neg h43, if_neg h45, hq, if_neg (show ¬ (chr s (b + 1) = 43 ∨ chr s (b + 1) = 45) by omega)]
        have HNu := (show Hid (∀ w, Calls Tryd.prog 34 #[.string s, .int .i64 b, .int .i64 ((b : Int) + 1), .int .i64 50] w fun e w' => e = .returned (.tuple #[.int .i64 n0, .int .i64 0]) ∧ w' = w) from fun w => by
          have h := number_any s b (b + 1) 50 hs (by omega) w
          rw [hq] at h
          exact h)
        have HDg := (show Hid (∀ w, Calls Tryd.prog 35 #[.string s, .int .i64 ((b : Int) + 1)] w fun e w' => e = .returned (.int .i64 (spN dgB s (b + 1))) ∧ w' = w) from fun w => digits_any s (b + 1) hs (by omega) w)
        clear hq
        go_enter Tryd.func39, Tryd.ntmps39
        go_wp2_with fail
        refine (HA.out _).mono ?_
        rintro e w ⟨rfl, rfl⟩
        go_wp2_with fail
        refine (HA.out _).mono ?_
        rintro e w ⟨rfl, rfl⟩
        clear HA
        go_wp2_with fail
        refine (HNu.out _).mono ?_
        rintro e w2 ⟨rfl, rfl⟩
        clear HNu
        go_wp2_with fail
        refine (HDg.out _).mono ?_
        rintro e w3 ⟨rfl, rfl⟩
        clear HDg
        obtain ⟨c0, c1, c2, c3, c4, c5, c6, c7, c8⟩ := HX.out.cells
        obtain ⟨f0, f1, f2, f3, f4, f5, f6, f7, f8⟩ := HX.out.fz
        go_wp2_with fail
        exact ret_tok rfl rfl rfl rfl rfl (TX.new w ⟨13, n0, b, spN dgB s (b + 1), ⟨#[]⟩, 0, 0, 0, 0⟩) ⟨by rw [HE.out]; rfl, below_box w _⟩
end Go.Proofs.YthffklhojdldkaaDoor

namespace Go.Proofs.YthffklhojdldkaaDoor
open Go.RowKit
def esV (i : Nat) : Option (Nat × Nat) → Value
  | some p => .tuple #[.int .i64 p.1, .int .i64 p.2]
  | none => .tuple #[.int .i64 (-1), .int .i64 i]
set_option maxRecDepth 100000 in
set_option maxHeartbeats 8000000 in
theorem escape_any (s : ByteArray) (i : Nat) (hs : s.size ≤ 140737488355328) (hi : i ≤ s.size) (w : World) : Calls Tryd.prog 56 #[.string s, .int .i64 i] w fun e w' => e = .returned (esV i (escT s i)) ∧ w' = w := by
  have HA : Hid (∀ w, Calls Tryd.prog 29 #[.string s, .int .i64 ((i : Int) + 1)] w fun e w' => e = .returned (.int .i64 (chr s (i + 1))) ∧ w' = w) := fun w => at_any s (i + 1) w
  have HX : Hid (∀ k (h : k < s.size) w, Calls Tryd.prog 74 #[.int .u8 (s[k].toNat : Int)] w fun e w' => e = .returned (.int .i64 (hexV (chr s k))) ∧ w' = w) := fun k h w => by
    have := hexDigit_any s[k] w
    rw [← chr_in h] at this
    rw [← chr_in h]
    exact this
  have hd0 := chr_le s (i + 1)
  by_cases h110 : chr s (i + 1) = 110
  · have HE : Hid (escT s i = some (10, i + 2)) := by show escT s i = _; unfold escT; rw [if_pos h110]
    have t1 : (chr s (i + 1) == 110) = true := by rw [h110]; rfl
    clear HX h110
    go_enter Tryd.func56, Tryd.ntmps56
    go_wp2_with fail
    refine (HA.out _).mono ?_
    rintro e w ⟨rfl, rfl⟩
    clear HA
    go_wp2_with fail
    go_ret2
    exact ⟨by rw [HE.out]; rfl, rfl⟩
  have t1 : (chr s (i + 1) == 110) = false := beq_eq_false_iff_ne.2 h110
  by_cases h114 : chr s (i + 1) = 114
  · have HE : Hid (escT s i = some (13, i + 2)) := by show escT s i = _; unfold escT; rw [if_neg h110, if_pos h114]
    have t2 : (chr s (i + 1) == 114) = true := by rw [h114]; rfl
    clear HX h110 h114
    go_enter Tryd.func56, Tryd.ntmps56
    go_wp2_with fail
    refine (HA.out _).mono ?_
    rintro e w ⟨rfl, rfl⟩
    clear HA
    go_wp2_with fail
    go_ret2
    exact ⟨by rw [HE.out]; rfl, rfl⟩
  have t2 : (chr s (i + 1) == 114) = false := beq_eq_false_iff_ne.2 h114
  by_cases h116 : chr s (i + 1) = 116
  · have HE : Hid (escT s i = some (9, i + 2)) := by show escT s i = _; unfold escT; rw [if_neg h110, if_neg h114, if_pos h116]
    have t3 : (chr s (i + 1) == 116) = true := by rw [h116]; rfl
    clear HX h110 h114 h116
    go_enter Tryd.func56, Tryd.ntmps56
    go_wp2_with fail
    refine (HA.out _).mono ?_
    rintro e w ⟨rfl, rfl⟩
    clear HA
    go_wp2_with fail
    go_ret2
    exact ⟨by rw [HE.out]; rfl, rfl⟩
  have t3 : (chr s (i + 1) == 116) = false := beq_eq_false_iff_ne.2 h116
  by_cases hq : chr s (i + 1) = 92 ∨ chr s (i + 1) = 39 ∨ chr s (i + 1) = 34
  · have HE : Hid (escT s i = some ((chr s (i + 1)).toNat, i + 2)) := by show escT s i = _; unfold escT; rw [if_neg h110, if_neg h114, if_neg h116, if_pos hq]
    have HC : Hid (((chr s (i + 1)).toNat : Int) = chr s (i + 1)) := by show ((chr s (i + 1)).toNat : Int) = _; omega
    rcases hq with q | q | q
    · have t4 : (chr s (i + 1) == 92) = true := by rw [q]; rfl
      clear HX h110 h114 h116 q hd0
      go_enter Tryd.func56, Tryd.ntmps56
      go_wp2_with fail
      refine (HA.out _).mono ?_
      rintro e w ⟨rfl, rfl⟩
      clear HA
      go_wp2_with fail
      go_ret2
      exact ⟨by rw [HE.out]; show _ = Ending.returned (.tuple #[.int .i64 ((chr s (i + 1)).toNat : Int), _]); rw [HC.out]; rfl, rfl⟩
    · have t4 : (chr s (i + 1) == 92) = false := by rw [q]; rfl
      have t5 : (chr s (i + 1) == 39) = true := by rw [q]; rfl
      clear HX h110 h114 h116 q hd0
      go_enter Tryd.func56, Tryd.ntmps56
      go_wp2_with fail
      refine (HA.out _).mono ?_
      rintro e w ⟨rfl, rfl⟩
      clear HA
      go_wp2_with fail
      go_ret2
      exact ⟨by rw [HE.out]; show _ = Ending.returned (.tuple #[.int .i64 ((chr s (i + 1)).toNat : Int), _]); rw [HC.out]; rfl, rfl⟩
    · have t4 : (chr s (i + 1) == 92) = false := by rw [q]; rfl
      have t5 : (chr s (i + 1) == 39) = false := by rw [q]; rfl
      have t6 : (chr s (i + 1) == 34) = true := by rw [q]; rfl
      clear HX h110 h114 h116 q hd0
      go_enter Tryd.func56, Tryd.ntmps56
      go_wp2_with fail
      refine (HA.out _).mono ?_
      rintro e w ⟨rfl, rfl⟩
      clear HA
      go_wp2_with fail
      go_ret2
      exact ⟨by rw [HE.out]; show _ = Ending.returned (.tuple #[.int .i64 ((chr s (i + 1)).toNat : Int), _]); rw [HC.out]; rfl, rfl⟩
  have t4 : (chr s (i + 1) == 92) = false := by rw [beq_eq_false_iff_ne]; omega
  have t5 : (chr s (i + 1) == 39) = false := by rw [beq_eq_false_iff_ne]; omega
  have t6 : (chr s (i + 1) == 34) = false := by rw [beq_eq_false_iff_ne]; omega
  have HB : Hid (escT s i = if chr s (i + 1) = 120 ∧ 0 ≤ hexV (chr s (i + 2)) ∧ 0 ≤ hexV (chr s (i + 3)) then some ((16 * hexV (chr s (i + 2)) + hexV (chr s (i + 3))).toNat, i + 4) else none) := by show escT s i = _; unfold escT; rw [if_neg h110, if_neg h114, if_neg h116, if_neg hq]
  clear h110 h114 h116 hq
  by_cases h120 : chr s (i + 1) = 120
  · have t7 : (chr s (i + 1) == 120) = true := by rw [h120]; rfl
    by_cases h3 : i + 3 < s.size
    · have z3 : (i : Int) + 3 < (s.size : Int) := by omega
      have y0 : (0 : Int) ≤ (i : Int) + 2 := by omega
      have y1 : (i : Int) + 2 < (s.size : Int) := by omega
      have y2 : (0 : Int) ≤ (i : Int) + 3 := by omega
      have HX2 := (show Hid _ from HX.out (i + 2) (by omega))
      have HX3 := (show Hid _ from HX.out (i + 3) h3)
      by_cases hx2 : 0 ≤ hexV (chr s (i + 2))
      · by_cases hx3 : 0 ≤ hexV (chr s (i + 3))
        · have HE : Hid (escT s i = some ((16 * hexV (chr s (i + 2)) + hexV (chr s (i + 3))).toNat, i + 4)) := by show escT s i = _; rw [HB.out, if_pos ⟨h120, hx2, hx3⟩]
          have HC : Hid (((16 * hexV (chr s (i + 2)) + hexV (chr s (i + 3))).toNat : Int) = wthR s (i + 2) 16 2) := by
            show ((16 * hexV (chr s (i + 2)) + hexV (chr s (i + 3))).toNat : Int) = _
            rw [wthR, wthR, wthR, Nat.add_zero, show i + 2 + 1 = i + 3 from rfl]
            omega
          have HW : Hid (∀ w, Calls Tryd.prog 55 #[.string (s.extract (i + 2) (i + 4)), .int .i64 16] w fun e w' => e = .returned (.int .i64 (wthR s (i + 2) 16 2)) ∧ w' = w) := fun w => by
            have hsz : (s.extract (i + 2) (i + 4)).size = 2 := by rw [ByteArray.size_extract]; omega
            have h := worth_any (s.extract (i + 2) (i + 4)) 16 (by omega) (by omega) w
            rw [hsz, wthR_ext (by omega) 2 (by omega)] at h
            exact h
          have y3 : (i : Int) + 2 ≤ (i : Int) + 4 := by omega
          have y4 : (i : Int) + 4 ≤ (s.size : Int) := by omega
          clear HX HB h120
          go_enter Tryd.func56, Tryd.ntmps56
          go_wp2_with fail
          refine (HA.out _).mono ?_
          rintro e w ⟨rfl, rfl⟩
          clear HA
          go_wp2_with fail
          refine (HX2.out _).mono ?_
          rintro e w ⟨rfl, rfl⟩
          go_wp2_with fail
          refine (HX3.out _).mono ?_
          rintro e w ⟨rfl, rfl⟩
          clear HX2 HX3
          go_wp2_with fail
          refine (HW.out _).mono ?_
          rintro e w ⟨rfl, rfl⟩
          clear HW
          go_wp2_with fail
          go_ret2
          exact ⟨by rw [HE.out]; show _ = Ending.returned (.tuple #[.int .i64 ((16 * hexV (chr s (i + 2)) + hexV (chr s (i + 3))).toNat : Int), _]); rw [HC.out]; rfl, rfl⟩
        · have HE : Hid (escT s i = none) := by show escT s i = _; rw [HB.out, if_neg (fun q => hx3 q.2.2)]
          clear HX HB h120
          go_enter Tryd.func56, Tryd.ntmps56
          go_wp2_with fail
          refine (HA.out _).mono ?_
          rintro e w ⟨rfl, rfl⟩
          clear HA
          go_wp2_with fail
          refine (HX2.out _).mono ?_
          rintro e w ⟨rfl, rfl⟩
          go_wp2_with fail
          refine (HX3.out _).mono ?_
          rintro e w ⟨rfl, rfl⟩
          clear HX2 HX3
          go_wp2_with fail
          go_ret2
          exact ⟨by rw [HE.out]; rfl, rfl⟩
      · have HE : Hid (escT s i = none) := by show escT s i = _; rw [HB.out, if_neg (fun q => hx2 q.2.1)]
        clear HX HB h120
        go_enter Tryd.func56, Tryd.ntmps56
        go_wp2_with fail
        refine (HA.out _).mono ?_
        rintro e w ⟨rfl, rfl⟩
        clear HA
        go_wp2_with fail
        refine (HX2.out _).mono ?_
        rintro e w ⟨rfl, rfl⟩
        clear HX2 HX3
        go_wp2_with fail
        go_ret2
        exact ⟨by rw [HE.out]; rfl, rfl⟩
    · have z3 : ¬ (i : Int) + 3 < (s.size : Int) := by omega
      have HE : Hid (escT s i = none) := by
        show escT s i = _
        rw [HB.out, if_neg (fun q => ?_)]
        have := hexV_chr q.2.2
        omega
      clear HX HB h120
      go_enter Tryd.func56, Tryd.ntmps56
      go_wp2_with fail
      refine (HA.out _).mono ?_
      rintro e w ⟨rfl, rfl⟩
      clear HA
      go_wp2_with fail
      go_ret2
      exact ⟨by rw [HE.out]; rfl, rfl⟩
  · have t7 : (chr s (i + 1) == 120) = false := beq_eq_false_iff_ne.2 h120
    have HE : Hid (escT s i = none) := by show escT s i = _; rw [HB.out, if_neg (fun q => h120 q.1)]
    clear HX HB h120
    go_enter Tryd.func56, Tryd.ntmps56
    go_wp2_with fail
    refine (HA.out _).mono ?_
    rintro e w ⟨rfl, rfl⟩
    clear HA
    go_wp2_with fail
    go_ret2
    exact ⟨by rw [HE.out]; rfl, rfl⟩
end Go.Proofs.YthffklhojdldkaaDoor
