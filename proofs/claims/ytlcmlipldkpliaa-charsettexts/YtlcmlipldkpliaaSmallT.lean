/- DERIVED. Walks: the class x, by the document. -/
import Derived.Test.YtlcmlipldkpliaaClassQ
namespace Go.Proofs.Ytlcmlipldkpliaa
open Go.RowKit

set_option maxHeartbeats 2000000 in
theorem smallR120 (w : World) :
    Calls Try.prog 25 #[.int .i64 120] w fun e w' => e = .returned (.tuple #[sv (spn 48 57 ||| spn 65 70 ||| spn 97 102), .int .i64 0]) ∧ Below w.heap.size w w' := by
  have HH := (show Hid _ from Holds.zero w)
  have HR := (show Hid _ from below1 w z4)
  go_enter Try.func25, Try.ntmps25
  go_wp2_with fail
  refine (fromTo_any 97 122 _ (by omega) (by omega) (by omega)).mono ?_
  rintro e w1 ⟨rfl, hb1⟩
  go_wp2_with fail
  refine (fromTo_any 65 90 _ (by omega) (by omega) (by omega)).mono ?_
  rintro e w2 ⟨rfl, hb2⟩
  go_wp2_with fail
  refine (fromTo_any 48 57 _ (by omega) (by omega) (by omega)).mono ?_
  rintro e w3 ⟨rfl, hb3⟩
  go_wp2_with fail
  refine (unionR_any _ _ _).mono ?_
  rintro e w4 ⟨rfl, hb4⟩
  have hq := class_pre w w1 w2 w3 w4 (spn 97 122) (spn 65 90) (spn 48 57) hb1 hb2 hb3 hb4
  clear hb1 hb2 hb3 hb4
  obtain ⟨hl3, hl4, HR4, H0, H6, H7, H8⟩ := hq
  have HQ : Hid (Below (w4.heap.size + 1) (w4.alloc (c4 (spn 97 122 ||| spn 65 90))) (w4.alloc (c4 (spn 97 122 ||| spn 65 90)))) := Below.refl _ _
  obtain ⟨l8, c80, c81, c82, c83, f80, f81, f82, f83⟩ := H8.out
  go_wp2
  go_region_with (first | (go_at_call 60; refine (fromTo_any _ _ _ (by omega) (by omega) (by omega)).mono ?_; rintro e w5 ⟨rfl, hb⟩; have hq2 : Below (w4.heap.size + 1) (w4.alloc (c4 (spn 97 122 ||| spn 65 90))) w5 := (by first | exact HQ.out.trans (hb.mono (by first | exact HQ.out.size | (have h := HQ.out.size; simp at h; omega))) | exact HQ.out.drew.trans (hb.mono (by simp))); replace HQ := (show Hid _ from hq2); obtain ⟨l0, c00, c01, c02, c03, f00, f01, f02, f03⟩ := (H0.out.alloc (c4 (spn 97 122 ||| spn 65 90))).below HQ.out (by have h := H0.out.lt; omega); obtain ⟨l8, c80, c81, c82, c83, f80, f81, f82, f83⟩ := (H8.out.alloc (c4 (spn 97 122 ||| spn 65 90))).below HQ.out (by omega)) | (go_at_call 15; refine (unionR_any _ _ _).mono ?_; rintro e w5 ⟨rfl, hb⟩; have hq2 : Below (w4.heap.size + 1) (w4.alloc (c4 (spn 97 122 ||| spn 65 90))) w5 := (by first | exact HQ.out.trans (hb.mono (by first | exact HQ.out.size | (have h := HQ.out.size; simp at h; omega))) | exact HQ.out.drew.trans (hb.mono (by simp))); replace HQ := (show Hid _ from hq2); obtain ⟨l0, c00, c01, c02, c03, f00, f01, f02, f03⟩ := (H0.out.alloc (c4 (spn 97 122 ||| spn 65 90))).below HQ.out (by have h := H0.out.lt; omega); obtain ⟨l8, c80, c81, c82, c83, f80, f81, f82, f83⟩ := (H8.out.alloc (c4 (spn 97 122 ||| spn 65 90))).below HQ.out (by omega)))
  all_goals
    have HR5 := (show Hid _ from (HR4.out.alloc (by omega) (c4 (spn 97 122 ||| spn 65 90))).trans (HQ.out.mono (by omega)))
    clear hb
    go_wp2
    have HRf := HR5
    refine bodyPost_ret (v := .tuple #[sv (spn 48 57 ||| (spn 65 70 ||| spn 97 102)), .int .i64 0]) (by simp [results, Try.results25, go_sem, *]) rfl ⟨?_, ?_⟩
    · exact congrArg (fun q => Ending.returned (.tuple #[sv q, .int .i64 0])) ((BitVec.or_assoc _ _ _).symm)
    · repeat (first | exact HRf.out | (refine Below.setCell ?_ (by first | omega | (simp <;> omega)) _) | (refine Below.alloc ?_ (by first | omega | (simp <;> omega)) _))
end Go.Proofs.Ytlcmlipldkpliaa
