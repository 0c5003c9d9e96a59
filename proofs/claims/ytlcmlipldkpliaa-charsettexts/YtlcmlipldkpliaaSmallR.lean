/- DERIVED. Walks: a small letter's class, by the document. -/
import Derived.Test.YtlcmlipldkpliaaClassQ
namespace Go.Proofs.Ytlcmlipldkpliaa
open Go.RowKit

set_option maxHeartbeats 2000000 in
theorem smallR97 (w : World) :
    Calls Try.prog 25 #[.int .i64 97] w fun e w' => e = .returned (.tuple #[sv (spn 65 90 ||| spn 97 122), .int .i64 0]) ∧ Below w.heap.size w w' := by
  have HH := (show Hid _ from Holds.zero w)
  have HR := (show Hid _ from below1 w z4)
  go_enter Try.func25, Try.ntmps25
  go_wp2_with fail
  refine (fromTo_any 97 122 _ (by omega) (by omega) (by omega)).mono ?_
  rintro e w1 ⟨rfl, hb1⟩
  go_wp2_with fail
  refine (fromTo_any 65 90 _ (by omega) (by omega) (by omega)).mono ?_
  rintro e w2 ⟨rfl, hb2⟩
  go_wp2_with fail
  refine (fromTo_any 48 57 _ (by omega) (by omega) (by omega)).mono ?_
  rintro e w3 ⟨rfl, hb3⟩
  go_wp2_with fail
  refine (unionR_any _ _ _).mono ?_
  rintro e w4 ⟨rfl, hb4⟩
  have hq := class_pre w w1 w2 w3 w4 (spn 97 122) (spn 65 90) (spn 48 57) hb1 hb2 hb3 hb4
  clear hb1 hb2 hb3 hb4
  obtain ⟨hl3, hl4, HR4, H0, H6, H7, H8⟩ := hq
  obtain ⟨l0, c00, c01, c02, c03, f00, f01, f02, f03⟩ := H0.out
  go_wp2
  have HRf := HR4
  refine bodyPost_ret (v := .tuple #[sv ((spn 97 122 ||| spn 65 90)), .int .i64 0]) (by simp [results, Try.results25, go_sem, *]) rfl ⟨?_, ?_⟩
  · exact congrArg (fun q => Ending.returned (.tuple #[sv q, .int .i64 0])) (BitVec.or_comm _ _)
  · repeat (first | exact HRf.out | (refine Below.setCell ?_ (by first | omega | (simp <;> omega)) _) | (refine Below.alloc ?_ (by first | omega | (simp <;> omega)) _))

set_option maxHeartbeats 2000000 in
theorem smallR99 (w : World) :
    Calls Try.prog 25 #[.int .i64 99] w fun e w' => e = .returned (.tuple #[sv (spn 0 31 ||| bt 127), .int .i64 0]) ∧ Below w.heap.size w w' := by
  have HH := (show Hid _ from Holds.zero w)
  have HR := (show Hid _ from below1 w z4)
  go_enter Try.func25, Try.ntmps25
  go_wp2_with fail
  refine (fromTo_any 97 122 _ (by omega) (by omega) (by omega)).mono ?_
  rintro e w1 ⟨rfl, hb1⟩
  go_wp2_with fail
  refine (fromTo_any 65 90 _ (by omega) (by omega) (by omega)).mono ?_
  rintro e w2 ⟨rfl, hb2⟩
  go_wp2_with fail
  refine (fromTo_any 48 57 _ (by omega) (by omega) (by omega)).mono ?_
  rintro e w3 ⟨rfl, hb3⟩
  go_wp2_with fail
  refine (unionR_any _ _ _).mono ?_
  rintro e w4 ⟨rfl, hb4⟩
  have hq := class_pre w w1 w2 w3 w4 (spn 97 122) (spn 65 90) (spn 48 57) hb1 hb2 hb3 hb4
  clear hb1 hb2 hb3 hb4
  obtain ⟨hl3, hl4, HR4, H0, H6, H7, H8⟩ := hq
  have HQ : Hid (Below (w4.heap.size + 1) (w4.alloc (c4 (spn 97 122 ||| spn 65 90))) (w4.alloc (c4 (spn 97 122 ||| spn 65 90)))) := Below.refl _ _
  go_wp2_with fail
  refine (fromTo_any 0 31 _ (by omega) (by omega) (by omega)).mono ?_
  rintro e w5 ⟨rfl, hb⟩
  replace HQ := (show Hid _ from HQ.out.trans (hb.mono (by first | exact HQ.out.size | (have h := HQ.out.size; simp at h; omega) | simp)))
  go_wp2_with fail
  refine (withR_any _ 127 _ (by omega) (by omega)).mono ?_
  rintro e w5 ⟨rfl, hb⟩
  replace HQ := (show Hid _ from HQ.out.trans (hb.mono (by first | exact HQ.out.size | (have h := HQ.out.size; simp at h; omega) | simp)))
  rw [show (127 : Int).toNat = 127 from rfl]
  have HR5 := (show Hid _ from (HR4.out.alloc (by omega) (c4 (spn 97 122 ||| spn 65 90))).trans (HQ.out.mono (by omega)))
  obtain ⟨l0, c00, c01, c02, c03, f00, f01, f02, f03⟩ := (H0.out.alloc (c4 (spn 97 122 ||| spn 65 90))).below HQ.out (by have h := H0.out.lt; omega)
  clear hb
  go_wp2
  have HRf := HR5
  refine bodyPost_ret (v := .tuple #[sv (spn 0 31 ||| bt 127), .int .i64 0]) (by simp [results, Try.results25, go_sem, *]) rfl ⟨?_, ?_⟩
  · rfl
  · repeat (first | exact HRf.out | (refine Below.setCell ?_ (by first | omega | (simp <;> omega)) _) | (refine Below.alloc ?_ (by first | omega | (simp <;> omega)) _))

set_option maxHeartbeats 2000000 in
theorem smallR100 (w : World) :
    Calls Try.prog 25 #[.int .i64 100] w fun e w' => e = .returned (.tuple #[sv (spn 48 57), .int .i64 0]) ∧ Below w.heap.size w w' := by
  have HH := (show Hid _ from Holds.zero w)
  have HR := (show Hid _ from below1 w z4)
  go_enter Try.func25, Try.ntmps25
  go_wp2_with fail
  refine (fromTo_any 97 122 _ (by omega) (by omega) (by omega)).mono ?_
  rintro e w1 ⟨rfl, hb1⟩
  go_wp2_with fail
  refine (fromTo_any 65 90 _ (by omega) (by omega) (by omega)).mono ?_
  rintro e w2 ⟨rfl, hb2⟩
  go_wp2_with fail
  refine (fromTo_any 48 57 _ (by omega) (by omega) (by omega)).mono ?_
  rintro e w3 ⟨rfl, hb3⟩
  go_wp2_with fail
  refine (unionR_any _ _ _).mono ?_
  rintro e w4 ⟨rfl, hb4⟩
  have hq := class_pre w w1 w2 w3 w4 (spn 97 122) (spn 65 90) (spn 48 57) hb1 hb2 hb3 hb4
  clear hb1 hb2 hb3 hb4
  obtain ⟨hl3, hl4, HR4, H0, H6, H7, H8⟩ := hq
  obtain ⟨l0, c00, c01, c02, c03, f00, f01, f02, f03⟩ := H0.out
  obtain ⟨l8, c80, c81, c82, c83, f80, f81, f82, f83⟩ := H8.out
  go_wp2
  have HRf := HR4
  refine bodyPost_ret (v := .tuple #[sv (spn 48 57), .int .i64 0]) (by simp [results, Try.results25, go_sem, *]) rfl ⟨?_, ?_⟩
  · rfl
  · repeat (first | exact HRf.out | (refine Below.setCell ?_ (by first | omega | (simp <;> omega)) _) | (refine Below.alloc ?_ (by first | omega | (simp <;> omega)) _))

set_option maxHeartbeats 2000000 in
theorem smallR103 (w : World) :
    Calls Try.prog 25 #[.int .i64 103] w fun e w' => e = .returned (.tuple #[sv (spn 33 126), .int .i64 0]) ∧ Below w.heap.size w w' := by
  have HH := (show Hid _ from Holds.zero w)
  have HR := (show Hid _ from below1 w z4)
  go_enter Try.func25, Try.ntmps25
  go_wp2_with fail
  refine (fromTo_any 97 122 _ (by omega) (by omega) (by omega)).mono ?_
  rintro e w1 ⟨rfl, hb1⟩
  go_wp2_with fail
  refine (fromTo_any 65 90 _ (by omega) (by omega) (by omega)).mono ?_
  rintro e w2 ⟨rfl, hb2⟩
  go_wp2_with fail
  refine (fromTo_any 48 57 _ (by omega) (by omega) (by omega)).mono ?_
  rintro e w3 ⟨rfl, hb3⟩
  go_wp2_with fail
  refine (unionR_any _ _ _).mono ?_
  rintro e w4 ⟨rfl, hb4⟩
  have hq := class_pre w w1 w2 w3 w4 (spn 97 122) (spn 65 90) (spn 48 57) hb1 hb2 hb3 hb4
  clear hb1 hb2 hb3 hb4
  obtain ⟨hl3, hl4, HR4, H0, H6, H7, H8⟩ := hq
  have HQ : Hid (Below (w4.heap.size + 1) (w4.alloc (c4 (spn 97 122 ||| spn 65 90))) (w4.alloc (c4 (spn 97 122 ||| spn 65 90)))) := Below.refl _ _
  go_wp2_with fail
  refine (fromTo_any 33 126 _ (by omega) (by omega) (by omega)).mono ?_
  rintro e w5 ⟨rfl, hb⟩
  replace HQ := (show Hid _ from HQ.out.trans (hb.mono (by first | exact HQ.out.size | (have h := HQ.out.size; simp at h; omega) | simp)))
  have HR5 := (show Hid _ from (HR4.out.alloc (by omega) (c4 (spn 97 122 ||| spn 65 90))).trans (HQ.out.mono (by omega)))
  obtain ⟨l0, c00, c01, c02, c03, f00, f01, f02, f03⟩ := (H0.out.alloc (c4 (spn 97 122 ||| spn 65 90))).below HQ.out (by have h := H0.out.lt; omega)
  clear hb
  go_wp2
  have HRf := HR5
  refine bodyPost_ret (v := .tuple #[sv (spn 33 126), .int .i64 0]) (by simp [results, Try.results25, go_sem, *]) rfl ⟨?_, ?_⟩
  · rfl
  · repeat (first | exact HRf.out | (refine Below.setCell ?_ (by first | omega | (simp <;> omega)) _) | (refine Below.alloc ?_ (by first | omega | (simp <;> omega)) _))

set_option maxHeartbeats 2000000 in
theorem smallR108 (w : World) :
    Calls Try.prog 25 #[.int .i64 108] w fun e w' => e = .returned (.tuple #[sv (spn 97 122), .int .i64 0]) ∧ Below w.heap.size w w' := by
  have HH := (show Hid _ from Holds.zero w)
  have HR := (show Hid _ from below1 w z4)
  go_enter Try.func25, Try.ntmps25
  go_wp2_with fail
  refine (fromTo_any 97 122 _ (by omega) (by omega) (by omega)).mono ?_
  rintro e w1 ⟨rfl, hb1⟩
  go_wp2_with fail
  refine (fromTo_any 65 90 _ (by omega) (by omega) (by omega)).mono ?_
  rintro e w2 ⟨rfl, hb2⟩
  go_wp2_with fail
  refine (fromTo_any 48 57 _ (by omega) (by omega) (by omega)).mono ?_
  rintro e w3 ⟨rfl, hb3⟩
  go_wp2_with fail
  refine (unionR_any _ _ _).mono ?_
  rintro e w4 ⟨rfl, hb4⟩
  have hq := class_pre w w1 w2 w3 w4 (spn 97 122) (spn 65 90) (spn 48 57) hb1 hb2 hb3 hb4
  clear hb1 hb2 hb3 hb4
  obtain ⟨hl3, hl4, HR4, H0, H6, H7, H8⟩ := hq
  obtain ⟨l0, c00, c01, c02, c03, f00, f01, f02, f03⟩ := H0.out
  obtain ⟨l6, c60, c61, c62, c63, f60, f61, f62, f63⟩ := H6.out
  go_wp2
  have HRf := HR4
  refine bodyPost_ret (v := .tuple #[sv (spn 97 122), .int .i64 0]) (by simp [results, Try.results25, go_sem, *]) rfl ⟨?_, ?_⟩
  · rfl
  · repeat (first | exact HRf.out | (refine Below.setCell ?_ (by first | omega | (simp <;> omega)) _) | (refine Below.alloc ?_ (by first | omega | (simp <;> omega)) _))

set_option maxHeartbeats 2000000 in
theorem smallR115 (w : World) :
    Calls Try.prog 25 #[.int .i64 115] w fun e w' => e = .returned (.tuple #[sv (spn 9 13 ||| bt 32), .int .i64 0]) ∧ Below w.heap.size w w' := by
  have HH := (show Hid _ from Holds.zero w)
  have HR := (show Hid _ from below1 w z4)
  go_enter Try.func25, Try.ntmps25
  go_wp2_with fail
  refine (fromTo_any 97 122 _ (by omega) (by omega) (by omega)).mono ?_
  rintro e w1 ⟨rfl, hb1⟩
  go_wp2_with fail
  refine (fromTo_any 65 90 _ (by omega) (by omega) (by omega)).mono ?_
  rintro e w2 ⟨rfl, hb2⟩
  go_wp2_with fail
  refine (fromTo_any 48 57 _ (by omega) (by omega) (by omega)).mono ?_
  rintro e w3 ⟨rfl, hb3⟩
  go_wp2_with fail
  refine (unionR_any _ _ _).mono ?_
  rintro e w4 ⟨rfl, hb4⟩
  have hq := class_pre w w1 w2 w3 w4 (spn 97 122) (spn 65 90) (spn 48 57) hb1 hb2 hb3 hb4
  clear hb1 hb2 hb3 hb4
  obtain ⟨hl3, hl4, HR4, H0, H6, H7, H8⟩ := hq
  have HQ : Hid (Below (w4.heap.size + 1) (w4.alloc (c4 (spn 97 122 ||| spn 65 90))) (w4.alloc (c4 (spn 97 122 ||| spn 65 90)))) := Below.refl _ _
  go_wp2_with fail
  refine (fromTo_any 9 13 _ (by omega) (by omega) (by omega)).mono ?_
  rintro e w5 ⟨rfl, hb⟩
  replace HQ := (show Hid _ from HQ.out.trans (hb.mono (by first | exact HQ.out.size | (have h := HQ.out.size; simp at h; omega) | simp)))
  go_wp2_with fail
  refine (withR_any _ 32 _ (by omega) (by omega)).mono ?_
  rintro e w5 ⟨rfl, hb⟩
  replace HQ := (show Hid _ from HQ.out.trans (hb.mono (by first | exact HQ.out.size | (have h := HQ.out.size; simp at h; omega) | simp)))
  rw [show (32 : Int).toNat = 32 from rfl]
  have HR5 := (show Hid _ from (HR4.out.alloc (by omega) (c4 (spn 97 122 ||| spn 65 90))).trans (HQ.out.mono (by omega)))
  obtain ⟨l0, c00, c01, c02, c03, f00, f01, f02, f03⟩ := (H0.out.alloc (c4 (spn 97 122 ||| spn 65 90))).below HQ.out (by have h := H0.out.lt; omega)
  clear hb
  go_wp2
  have HRf := HR5
  refine bodyPost_ret (v := .tuple #[sv (spn 9 13 ||| bt 32), .int .i64 0]) (by simp [results, Try.results25, go_sem, *]) rfl ⟨?_, ?_⟩
  · rfl
  · repeat (first | exact HRf.out | (refine Below.setCell ?_ (by first | omega | (simp <;> omega)) _) | (refine Below.alloc ?_ (by first | omega | (simp <;> omega)) _))

set_option maxHeartbeats 2000000 in
theorem smallR117 (w : World) :
    Calls Try.prog 25 #[.int .i64 117] w fun e w' => e = .returned (.tuple #[sv (spn 65 90), .int .i64 0]) ∧ Below w.heap.size w w' := by
  have HH := (show Hid _ from Holds.zero w)
  have HR := (show Hid _ from below1 w z4)
  go_enter Try.func25, Try.ntmps25
  go_wp2_with fail
  refine (fromTo_any 97 122 _ (by omega) (by omega) (by omega)).mono ?_
  rintro e w1 ⟨rfl, hb1⟩
  go_wp2_with fail
  refine (fromTo_any 65 90 _ (by omega) (by omega) (by omega)).mono ?_
  rintro e w2 ⟨rfl, hb2⟩
  go_wp2_with fail
  refine (fromTo_any 48 57 _ (by omega) (by omega) (by omega)).mono ?_
  rintro e w3 ⟨rfl, hb3⟩
  go_wp2_with fail
  refine (unionR_any _ _ _).mono ?_
  rintro e w4 ⟨rfl, hb4⟩
  have hq := class_pre w w1 w2 w3 w4 (spn 97 122) (spn 65 90) (spn 48 57) hb1 hb2 hb3 hb4
  clear hb1 hb2 hb3 hb4
  obtain ⟨hl3, hl4, HR4, H0, H6, H7, H8⟩ := hq
  obtain ⟨l0, c00, c01, c02, c03, f00, f01, f02, f03⟩ := H0.out
  obtain ⟨l7, c70, c71, c72, c73, f70, f71, f72, f73⟩ := H7.out
  go_wp2
  have HRf := HR4
  refine bodyPost_ret (v := .tuple #[sv (spn 65 90), .int .i64 0]) (by simp [results, Try.results25, go_sem, *]) rfl ⟨?_, ?_⟩
  · rfl
  · repeat (first | exact HRf.out | (refine Below.setCell ?_ (by first | omega | (simp <;> omega)) _) | (refine Below.alloc ?_ (by first | omega | (simp <;> omega)) _))

set_option maxHeartbeats 2000000 in
theorem smallR119 (w : World) :
    Calls Try.prog 25 #[.int .i64 119] w fun e w' => e = .returned (.tuple #[sv (spn 65 90 ||| spn 97 122 ||| spn 48 57), .int .i64 0]) ∧ Below w.heap.size w w' := by
  have HH := (show Hid _ from Holds.zero w)
  have HR := (show Hid _ from below1 w z4)
  go_enter Try.func25, Try.ntmps25
  go_wp2_with fail
  refine (fromTo_any 97 122 _ (by omega) (by omega) (by omega)).mono ?_
  rintro e w1 ⟨rfl, hb1⟩
  go_wp2_with fail
  refine (fromTo_any 65 90 _ (by omega) (by omega) (by omega)).mono ?_
  rintro e w2 ⟨rfl, hb2⟩
  go_wp2_with fail
  refine (fromTo_any 48 57 _ (by omega) (by omega) (by omega)).mono ?_
  rintro e w3 ⟨rfl, hb3⟩
  go_wp2_with fail
  refine (unionR_any _ _ _).mono ?_
  rintro e w4 ⟨rfl, hb4⟩
  have hq := class_pre w w1 w2 w3 w4 (spn 97 122) (spn 65 90) (spn 48 57) hb1 hb2 hb3 hb4
  clear hb1 hb2 hb3 hb4
  obtain ⟨hl3, hl4, HR4, H0, H6, H7, H8⟩ := hq
  have HQ : Hid (Below (w4.heap.size + 1) (w4.alloc (c4 (spn 97 122 ||| spn 65 90))) (w4.alloc (c4 (spn 97 122 ||| spn 65 90)))) := Below.refl _ _
  obtain ⟨l8, c80, c81, c82, c83, f80, f81, f82, f83⟩ := H8.out
  go_wp2_with fail
  refine (unionR_any _ _ _).mono ?_
  rintro e w5 ⟨rfl, hb⟩
  replace HQ := (show Hid _ from HQ.out.trans (hb.mono (by first | exact HQ.out.size | (have h := HQ.out.size; simp at h; omega) | simp)))
  have HR5 := (show Hid _ from (HR4.out.alloc (by omega) (c4 (spn 97 122 ||| spn 65 90))).trans (HQ.out.mono (by omega)))
  obtain ⟨l0, c00, c01, c02, c03, f00, f01, f02, f03⟩ := (H0.out.alloc (c4 (spn 97 122 ||| spn 65 90))).below HQ.out (by have h := H0.out.lt; omega)
  clear hb
  go_wp2
  have HRf := HR5
  refine bodyPost_ret (v := .tuple #[sv ((spn 97 122 ||| spn 65 90) ||| spn 48 57), .int .i64 0]) (by simp [results, Try.results25, go_sem, *]) rfl ⟨?_, ?_⟩
  · exact congrArg (fun q => Ending.returned (.tuple #[sv q, .int .i64 0])) (by rw [BitVec.or_comm (spn 97 122)])
  · repeat (first | exact HRf.out | (refine Below.setCell ?_ (by first | omega | (simp <;> omega)) _) | (refine Below.alloc ?_ (by first | omega | (simp <;> omega)) _))
end Go.Proofs.Ytlcmlipldkpliaa
