/- DERIVED. Plain mathematics and walks, laid together (2). -/
import Derived.LoopN
import Derived.RangeFuncBox
import Derived.Test.YthffklhojdldkaaGreatDoorTt01
namespace Go.Proofs.YthffklhojdldkaaGreatDoor
open Go.RowKit
set_option maxHeartbeats 4000000 in
theorem mix0_any (x y : BitVec 256) (w : World) :
    Calls Tryz.prog 91 #[.int .i64 0, sv x, sv y] w fun e w' => e = .returned (sv (mixS 0 x y)) ∧ Below w.heap.size w w' := by
  go_enter Tryz.func91, Tryz.ntmps91
  go_wp2
  go_loopw [8] (fun t wr => ∃ k : Nat, k ≤ 256 ∧ t = .int .i64 k ∧ Holds wr w.heap.size x ∧ Holds wr (w.heap.size + 1) y ∧ Holds wr (w.heap.size + 1 + 1 + 1) (mixTo 0 x y k) ∧ (∃ z, Holds wr (w.heap.size + 1 + 1) z) ∧ Below w.heap.size w wr) (fun t _ => 256 - (intOf t).toNat)
  case atStart =>
    exact ⟨0, by omega, rfl, mix_start0 w x y, mix_start1 w x y, mix_start3 w x y, ⟨0#256, mix_start2 w x y⟩, mix_startB w x y⟩
  case round =>
    obtain ⟨k, hk, rfl, hx, hy, hm, ⟨z, hz⟩, hbel⟩ := hrel
    have hsz : w.heap.size + 1 + 1 + 1 < wr.heap.size := hm.lt
    have HX := (show Hid _ from hx)
    have HY := (show Hid _ from hy)
    have HM := (show Hid _ from hm)
    have HZ := (show Hid _ from hz)
    have HB := (show Hid _ from hbel)
    by_cases hlt : k < 256
    · have HS := (show Hid _ from mixTo_succ 0 x y k hlt)
      clear hm hz hbel
      obtain ⟨l0, c0, c1, c2, c3, f0, f1, f2, f3⟩ := hx
      obtain ⟨l1, d0, d1, d2, d3, g0, g1, g2, g3⟩ := hy
      have HR : Hid (Below wr.heap.size wr wr) := Below.refl _ _
      have hk0 : (0 : Int) ≤ (k : Int) := by omega
      have hk1 : (k : Int) ≤ 255 := by omega
      cases hxb : hasB x k <;> cases hyb : hasB y k
      · have HE : Hid (mixTo 0 x y (k + 1) = mixTo 0 x y k) := (by have h := HS.out; rw [hxb, hyb, if_neg (by decide)] at h; exact h)
        clear HS
        go_wp2
        go_region_held3 (fun w' => w'.cell? ⟨w.heap.size, 0, none⟩ = some (.int .u64 (wd x 0)) ∧ w'.cell? ⟨w.heap.size, 1, none⟩ = some (.int .u64 (wd x 1)) ∧ w'.cell? ⟨w.heap.size, 2, none⟩ = some (.int .u64 (wd x 2)) ∧ w'.cell? ⟨w.heap.size, 3, none⟩ = some (.int .u64 (wd x 3)) ∧ w'.cell? ⟨w.heap.size + 1, 0, none⟩ = some (.int .u64 (wd y 0)) ∧ w'.cell? ⟨w.heap.size + 1, 1, none⟩ = some (.int .u64 (wd y 1)) ∧ w'.cell? ⟨w.heap.size + 1, 2, none⟩ = some (.int .u64 (wd y 2)) ∧ w'.cell? ⟨w.heap.size + 1, 3, none⟩ = some (.int .u64 (wd y 3))) (first | go_keep | (go_split_ands; refine ⟨?_, ?_, ?_, ?_, ?_, ?_, ?_, ?_⟩ <;> (rw [hb.cell (by simp; omega)]; first | assumption | simp [*]))) ((go_at_call 99; refine (hasR_any _ _ _).mono ?_; rintro e w1 ⟨rfl, hb⟩; have hz1 := hb.size; (try simp at hz1); replace HR : Hid (Below wr.heap.size wr w1) := (by first | exact HR.out.trans (hb.mono (by omega)) | exact HR.out.drew.trans (hb.mono (by simp)))))
        clear c0 c1 c2 c3 f0 f1 f2 f3 d0 d1 d2 d3 g0 g1 g2 g3
        have hM1 := HM.out.below HR.out (by omega)
        have hX1 := (show Hid _ from HX.out.below HR.out (by omega))
        have hY1 := (show Hid _ from HY.out.below HR.out (by omega))
        have hZ1 := (show Hid _ from HZ.out.below HR.out (by omega))
        have hB1 := (show Hid _ from HB.out.trans (HR.out.mono (by omega)))
        clear HM HX HY HZ HB
        generalize mixTo 0 x y k = mm at *
        have HM1 := (show Hid _ from hM1)
        clear hM1
        go_wp2
        go_roundw
        case rel => exact ⟨k + 1, by omega, by go_num, hX1.out, hY1.out, (by rw [HE.out]; exact HM1.out), ⟨z, hZ1.out⟩, hB1.out⟩
        case measure => simp [intOf]; omega
      · have HE : Hid (mixTo 0 x y (k + 1) = mixTo 0 x y k ||| bt k) := (by have h := HS.out; rw [hxb, hyb, if_pos (by decide)] at h; exact h)
        clear HS
        go_wp2
        go_region_held3 (fun w' => w'.cell? ⟨w.heap.size, 0, none⟩ = some (.int .u64 (wd x 0)) ∧ w'.cell? ⟨w.heap.size, 1, none⟩ = some (.int .u64 (wd x 1)) ∧ w'.cell? ⟨w.heap.size, 2, none⟩ = some (.int .u64 (wd x 2)) ∧ w'.cell? ⟨w.heap.size, 3, none⟩ = some (.int .u64 (wd x 3)) ∧ w'.cell? ⟨w.heap.size + 1, 0, none⟩ = some (.int .u64 (wd y 0)) ∧ w'.cell? ⟨w.heap.size + 1, 1, none⟩ = some (.int .u64 (wd y 1)) ∧ w'.cell? ⟨w.heap.size + 1, 2, none⟩ = some (.int .u64 (wd y 2)) ∧ w'.cell? ⟨w.heap.size + 1, 3, none⟩ = some (.int .u64 (wd y 3))) (first | go_keep | (go_split_ands; refine ⟨?_, ?_, ?_, ?_, ?_, ?_, ?_, ?_⟩ <;> (rw [hb.cell (by simp; omega)]; first | assumption | simp [*]))) ((go_at_call 99; refine (hasR_any _ _ _).mono ?_; rintro e w1 ⟨rfl, hb⟩; have hz1 := hb.size; (try simp at hz1); replace HR : Hid (Below wr.heap.size wr w1) := (by first | exact HR.out.trans (hb.mono (by omega)) | exact HR.out.drew.trans (hb.mono (by simp)))))
        clear c0 c1 c2 c3 f0 f1 f2 f3 d0 d1 d2 d3 g0 g1 g2 g3
        have hM1 := HM.out.below HR.out (by omega)
        have hX1 := (show Hid _ from HX.out.below HR.out (by omega))
        have hY1 := (show Hid _ from HY.out.below HR.out (by omega))
        have hZ1 := (show Hid _ from HZ.out.below HR.out (by omega))
        have hB1 := (show Hid _ from HB.out.trans (HR.out.mono (by omega)))
        clear HM HX HY HZ HB
        generalize mixTo 0 x y k = mm at *
        have HM1 := (show Hid _ from hM1)
        obtain ⟨l5, c0, c1, c2, c3, f0, f1, f2, f3⟩ := hM1
        go_wp2_with fail
        refine (withR_any mm k _ (by omega) (by omega)).mono ?_
        rintro e w2 ⟨rfl, hb2⟩
        clear c0 c1 c2 c3 f0 f1 f2 f3
        obtain ⟨l5, c0, c1, c2, c3, f0, f1, f2, f3⟩ := HM1.out.below hb2 l5
        go_wp2
        go_roundw
        case rel =>
          refine ⟨k + 1, by omega, by go_num, (hX1.out.below hb2 (by omega)).put_other (by omega) _, (hY1.out.below hb2 (by omega)).put_other (by omega) _, ?_, ⟨z, (hZ1.out.below hb2 (by omega)).put_other (by omega) _⟩, ?_⟩
          · rw [HE.out]; exact (HM1.out.below hb2 (by omega)).put _
          · exact ((((hB1.out.trans (hb2.mono (by omega))).setCell (by simp; omega) _).setCell (by simp; omega) _).setCell (by simp; omega) _).setCell (by simp; omega) _
        case measure => simp [intOf]; omega
      · have HE : Hid (mixTo 0 x y (k + 1) = mixTo 0 x y k ||| bt k) := (by have h := HS.out; rw [hxb, hyb, if_pos (by decide)] at h; exact h)
        clear HS
        go_wp2
        go_region_held3 (fun w' => w'.cell? ⟨w.heap.size, 0, none⟩ = some (.int .u64 (wd x 0)) ∧ w'.cell? ⟨w.heap.size, 1, none⟩ = some (.int .u64 (wd x 1)) ∧ w'.cell? ⟨w.heap.size, 2, none⟩ = some (.int .u64 (wd x 2)) ∧ w'.cell? ⟨w.heap.size, 3, none⟩ = some (.int .u64 (wd x 3)) ∧ w'.cell? ⟨w.heap.size + 1, 0, none⟩ = some (.int .u64 (wd y 0)) ∧ w'.cell? ⟨w.heap.size + 1, 1, none⟩ = some (.int .u64 (wd y 1)) ∧ w'.cell? ⟨w.heap.size + 1, 2, none⟩ = some (.int .u64 (wd y 2)) ∧ w'.cell? ⟨w.heap.size + 1, 3, none⟩ = some (.int .u64 (wd y 3))) (first | go_keep | (go_split_ands; refine ⟨?_, ?_, ?_, ?_, ?_, ?_, ?_, ?_⟩ <;> (rw [hb.cell (by simp; omega)]; first | assumption | simp [*]))) ((go_at_call 99; refine (hasR_any _ _ _).mono ?_; rintro e w1 ⟨rfl, hb⟩; have hz1 := hb.size; (try simp at hz1); replace HR : Hid (Below wr.heap.size wr w1) := (by first | exact HR.out.trans (hb.mono (by omega)) | exact HR.out.drew.trans (hb.mono (by simp)))))
        clear c0 c1 c2 c3 f0 f1 f2 f3 d0 d1 d2 d3 g0 g1 g2 g3
        have hM1 := HM.out.below HR.out (by omega)
        have hX1 := (show Hid _ from HX.out.below HR.out (by omega))
        have hY1 := (show Hid _ from HY.out.below HR.out (by omega))
        have hZ1 := (show Hid _ from HZ.out.below HR.out (by omega))
        have hB1 := (show Hid _ from HB.out.trans (HR.out.mono (by omega)))
        clear HM HX HY HZ HB
        generalize mixTo 0 x y k = mm at *
        have HM1 := (show Hid _ from hM1)
        obtain ⟨l5, c0, c1, c2, c3, f0, f1, f2, f3⟩ := hM1
        go_wp2_with fail
        refine (withR_any mm k _ (by omega) (by omega)).mono ?_
        rintro e w2 ⟨rfl, hb2⟩
        clear c0 c1 c2 c3 f0 f1 f2 f3
        obtain ⟨l5, c0, c1, c2, c3, f0, f1, f2, f3⟩ := HM1.out.below hb2 l5
        go_wp2
        go_roundw
        case rel =>
          refine ⟨k + 1, by omega, by go_num, (hX1.out.below hb2 (by omega)).put_other (by omega) _, (hY1.out.below hb2 (by omega)).put_other (by omega) _, ?_, ⟨z, (hZ1.out.below hb2 (by omega)).put_other (by omega) _⟩, ?_⟩
          · rw [HE.out]; exact (HM1.out.below hb2 (by omega)).put _
          · exact ((((hB1.out.trans (hb2.mono (by omega))).setCell (by simp; omega) _).setCell (by simp; omega) _).setCell (by simp; omega) _).setCell (by simp; omega) _
        case measure => simp [intOf]; omega
      · have HE : Hid (mixTo 0 x y (k + 1) = mixTo 0 x y k ||| bt k) := (by have h := HS.out; rw [hxb, hyb, if_pos (by decide)] at h; exact h)
        clear HS
        go_wp2
        go_region_held3 (fun w' => w'.cell? ⟨w.heap.size, 0, none⟩ = some (.int .u64 (wd x 0)) ∧ w'.cell? ⟨w.heap.size, 1, none⟩ = some (.int .u64 (wd x 1)) ∧ w'.cell? ⟨w.heap.size, 2, none⟩ = some (.int .u64 (wd x 2)) ∧ w'.cell? ⟨w.heap.size, 3, none⟩ = some (.int .u64 (wd x 3)) ∧ w'.cell? ⟨w.heap.size + 1, 0, none⟩ = some (.int .u64 (wd y 0)) ∧ w'.cell? ⟨w.heap.size + 1, 1, none⟩ = some (.int .u64 (wd y 1)) ∧ w'.cell? ⟨w.heap.size + 1, 2, none⟩ = some (.int .u64 (wd y 2)) ∧ w'.cell? ⟨w.heap.size + 1, 3, none⟩ = some (.int .u64 (wd y 3))) (first | go_keep | (go_split_ands; refine ⟨?_, ?_, ?_, ?_, ?_, ?_, ?_, ?_⟩ <;> (rw [hb.cell (by simp; omega)]; first | assumption | simp [*]))) ((go_at_call 99; refine (hasR_any _ _ _).mono ?_; rintro e w1 ⟨rfl, hb⟩; have hz1 := hb.size; (try simp at hz1); replace HR : Hid (Below wr.heap.size wr w1) := (by first | exact HR.out.trans (hb.mono (by omega)) | exact HR.out.drew.trans (hb.mono (by simp)))))
        clear c0 c1 c2 c3 f0 f1 f2 f3 d0 d1 d2 d3 g0 g1 g2 g3
        have hM1 := HM.out.below HR.out (by omega)
        have hX1 := (show Hid _ from HX.out.below HR.out (by omega))
        have hY1 := (show Hid _ from HY.out.below HR.out (by omega))
        have hZ1 := (show Hid _ from HZ.out.below HR.out (by omega))
        have hB1 := (show Hid _ from HB.out.trans (HR.out.mono (by omega)))
        clear HM HX HY HZ HB
        generalize mixTo 0 x y k = mm at *
        have HM1 := (show Hid _ from hM1)
        obtain ⟨l5, c0, c1, c2, c3, f0, f1, f2, f3⟩ := hM1
        go_wp2_with fail
        refine (withR_any mm k _ (by omega) (by omega)).mono ?_
        rintro e w2 ⟨rfl, hb2⟩
        clear c0 c1 c2 c3 f0 f1 f2 f3
        obtain ⟨l5, c0, c1, c2, c3, f0, f1, f2, f3⟩ := HM1.out.below hb2 l5
        go_wp2
        go_roundw
        case rel =>
          refine ⟨k + 1, by omega, by go_num, (hX1.out.below hb2 (by omega)).put_other (by omega) _, (hY1.out.below hb2 (by omega)).put_other (by omega) _, ?_, ⟨z, (hZ1.out.below hb2 (by omega)).put_other (by omega) _⟩, ?_⟩
          · rw [HE.out]; exact (HM1.out.below hb2 (by omega)).put _
          · exact ((((hB1.out.trans (hb2.mono (by omega))).setCell (by simp; omega) _).setCell (by simp; omega) _).setCell (by simp; omega) _).setCell (by simp; omega) _
        case measure => simp [intOf]; omega
    · have hke : k = 256 := by omega
      subst hke
      clear hx hy hbel
      have HQ : Hid (mixTo 0 x y 256 = mixS 0 x y) := rfl
      generalize mixTo 0 x y 256 = mm at *
      obtain ⟨l0, c0, c1, c2, c3, f0, f1, f2, f3⟩ := hm
      obtain ⟨l1, d0, d1, d2, d3, g0, g1, g2, g3⟩ := hz
      go_wp2
      rw [← HQ.out]
      refine bodyPost_ret (v := sv mm) (by simp [results, Tryz.results91, go_sem, *]) rfl ⟨rfl, ?_⟩
      exact (((HB.out.setCell (by simp; omega) _).setCell (by simp; omega) _).setCell (by simp; omega) _).setCell (by simp; omega) _
end Go.Proofs.YthffklhojdldkaaGreatDoor

namespace Go.Proofs.YthffklhojdldkaaGreatDoor
open Go.RowKit
set_option maxHeartbeats 4000000 in
theorem mix2_any (x y : BitVec 256) (w : World) :
    Calls Tryz.prog 91 #[.int .i64 2, sv x, sv y] w fun e w' => e = .returned (sv (mixS 2 x y)) ∧ Below w.heap.size w w' := by
  go_enter Tryz.func91, Tryz.ntmps91
  go_wp2
  go_loopw [8] (fun t wr => ∃ k : Nat, k ≤ 256 ∧ t = .int .i64 k ∧ Holds wr w.heap.size x ∧ Holds wr (w.heap.size + 1) y ∧ Holds wr (w.heap.size + 1 + 1 + 1) (mixTo 2 x y k) ∧ (∃ z, Holds wr (w.heap.size + 1 + 1) z) ∧ Below w.heap.size w wr) (fun t _ => 256 - (intOf t).toNat)
  case atStart =>
    exact ⟨0, by omega, rfl, mix_start0 w x y, mix_start1 w x y, mix_start3 w x y, ⟨0#256, mix_start2 w x y⟩, mix_startB w x y⟩
  case round =>
    obtain ⟨k, hk, rfl, hx, hy, hm, ⟨z, hz⟩, hbel⟩ := hrel
    have hsz : w.heap.size + 1 + 1 + 1 < wr.heap.size := hm.lt
    have HX := (show Hid _ from hx)
    have HY := (show Hid _ from hy)
    have HM := (show Hid _ from hm)
    have HZ := (show Hid _ from hz)
    have HB := (show Hid _ from hbel)
    by_cases hlt : k < 256
    · have HS := (show Hid _ from mixTo_succ 2 x y k hlt)
      clear hm hz hbel
      obtain ⟨l0, c0, c1, c2, c3, f0, f1, f2, f3⟩ := hx
      obtain ⟨l1, d0, d1, d2, d3, g0, g1, g2, g3⟩ := hy
      have HR : Hid (Below wr.heap.size wr wr) := Below.refl _ _
      have hk0 : (0 : Int) ≤ (k : Int) := by omega
      have hk1 : (k : Int) ≤ 255 := by omega
      cases hxb : hasB x k <;> cases hyb : hasB y k
      · have HE : Hid (mixTo 2 x y (k + 1) = mixTo 2 x y k) := (by have h := HS.out; rw [hxb, hyb, if_neg (by decide)] at h; exact h)
        clear HS
        go_wp2
        go_region_held3 (fun w' => w'.cell? ⟨w.heap.size, 0, none⟩ = some (.int .u64 (wd x 0)) ∧ w'.cell? ⟨w.heap.size, 1, none⟩ = some (.int .u64 (wd x 1)) ∧ w'.cell? ⟨w.heap.size, 2, none⟩ = some (.int .u64 (wd x 2)) ∧ w'.cell? ⟨w.heap.size, 3, none⟩ = some (.int .u64 (wd x 3)) ∧ w'.cell? ⟨w.heap.size + 1, 0, none⟩ = some (.int .u64 (wd y 0)) ∧ w'.cell? ⟨w.heap.size + 1, 1, none⟩ = some (.int .u64 (wd y 1)) ∧ w'.cell? ⟨w.heap.size + 1, 2, none⟩ = some (.int .u64 (wd y 2)) ∧ w'.cell? ⟨w.heap.size + 1, 3, none⟩ = some (.int .u64 (wd y 3))) (first | go_keep | (go_split_ands; refine ⟨?_, ?_, ?_, ?_, ?_, ?_, ?_, ?_⟩ <;> (rw [hb.cell (by simp; omega)]; first | assumption | simp [*]))) ((go_at_call 99; refine (hasR_any _ _ _).mono ?_; rintro e w1 ⟨rfl, hb⟩; have hz1 := hb.size; (try simp at hz1); replace HR : Hid (Below wr.heap.size wr w1) := (by first | exact HR.out.trans (hb.mono (by omega)) | exact HR.out.drew.trans (hb.mono (by simp)))))
        clear c0 c1 c2 c3 f0 f1 f2 f3 d0 d1 d2 d3 g0 g1 g2 g3
        have hM1 := HM.out.below HR.out (by omega)
        have hX1 := (show Hid _ from HX.out.below HR.out (by omega))
        have hY1 := (show Hid _ from HY.out.below HR.out (by omega))
        have hZ1 := (show Hid _ from HZ.out.below HR.out (by omega))
        have hB1 := (show Hid _ from HB.out.trans (HR.out.mono (by omega)))
        clear HM HX HY HZ HB
        generalize mixTo 2 x y k = mm at *
        have HM1 := (show Hid _ from hM1)
        clear hM1
        go_wp2
        go_roundw
        case rel => exact ⟨k + 1, by omega, by go_num, hX1.out, hY1.out, (by rw [HE.out]; exact HM1.out), ⟨z, hZ1.out⟩, hB1.out⟩
        case measure => simp [intOf]; omega
      · have HE : Hid (mixTo 2 x y (k + 1) = mixTo 2 x y k) := (by have h := HS.out; rw [hxb, hyb, if_neg (by decide)] at h; exact h)
        clear HS
        go_wp2
        go_region_held3 (fun w' => w'.cell? ⟨w.heap.size, 0, none⟩ = some (.int .u64 (wd x 0)) ∧ w'.cell? ⟨w.heap.size, 1, none⟩ = some (.int .u64 (wd x 1)) ∧ w'.cell? ⟨w.heap.size, 2, none⟩ = some (.int .u64 (wd x 2)) ∧ w'.cell? ⟨w.heap.size, 3, none⟩ = some (.int .u64 (wd x 3)) ∧ w'.cell? ⟨w.heap.size + 1, 0, none⟩ = some (.int .u64 (wd y 0)) ∧ w'.cell? ⟨w.heap.size + 1, 1, none⟩ = some (.int .u64 (wd y 1)) ∧ w'.cell? ⟨w.heap.size + 1, 2, none⟩ = some (.int .u64 (wd y 2)) ∧ w'.cell? ⟨w.heap.size + 1, 3, none⟩ = some (.int .u64 (wd y 3))) (first | go_keep | (go_split_ands; refine ⟨?_, ?_, ?_, ?_, ?_, ?_, ?_, ?_⟩ <;> (rw [hb.cell (by simp; omega)]; first | assumption | simp [*]))) ((go_at_call 99; refine (hasR_any _ _ _).mono ?_; rintro e w1 ⟨rfl, hb⟩; have hz1 := hb.size; (try simp at hz1); replace HR : Hid (Below wr.heap.size wr w1) := (by first | exact HR.out.trans (hb.mono (by omega)) | exact HR.out.drew.trans (hb.mono (by simp)))))
        clear c0 c1 c2 c3 f0 f1 f2 f3 d0 d1 d2 d3 g0 g1 g2 g3
        have hM1 := HM.out.below HR.out (by omega)
        have hX1 := (show Hid _ from HX.out.below HR.out (by omega))
        have hY1 := (show Hid _ from HY.out.below HR.out (by omega))
        have hZ1 := (show Hid _ from HZ.out.below HR.out (by omega))
        have hB1 := (show Hid _ from HB.out.trans (HR.out.mono (by omega)))
        clear HM HX HY HZ HB
        generalize mixTo 2 x y k = mm at *
        have HM1 := (show Hid _ from hM1)
        clear hM1
        go_wp2
        go_roundw
        case rel => exact ⟨k + 1, by omega, by go_num, hX1.out, hY1.out, (by rw [HE.out]; exact HM1.out), ⟨z, hZ1.out⟩, hB1.out⟩
        case measure => simp [intOf]; omega
      · have HE : Hid (mixTo 2 x y (k + 1) = mixTo 2 x y k ||| bt k) := (by have h := HS.out; rw [hxb, hyb, if_pos (by decide)] at h; exact h)
        clear HS
        go_wp2
        go_region_held3 (fun w' => w'.cell? ⟨w.heap.size, 0, none⟩ = some (.int .u64 (wd x 0)) ∧ w'.cell? ⟨w.heap.size, 1, none⟩ = some (.int .u64 (wd x 1)) ∧ w'.cell? ⟨w.heap.size, 2, none⟩ = some (.int .u64 (wd x 2)) ∧ w'.cell? ⟨w.heap.size, 3, none⟩ = some (.int .u64 (wd x 3)) ∧ w'.cell? ⟨w.heap.size + 1, 0, none⟩ = some (.int .u64 (wd y 0)) ∧ w'.cell? ⟨w.heap.size + 1, 1, none⟩ = some (.int .u64 (wd y 1)) ∧ w'.cell? ⟨w.heap.size + 1, 2, none⟩ = some (.int .u64 (wd y 2)) ∧ w'.cell? ⟨w.heap.size + 1, 3, none⟩ = some (.int .u64 (wd y 3))) (first | go_keep | (go_split_ands; refine ⟨?_, ?_, ?_, ?_, ?_, ?_, ?_, ?_⟩ <;> (rw [hb.cell (by simp; omega)]; first | assumption | simp [*]))) ((go_at_call 99; refine (hasR_any _ _ _).mono ?_; rintro e w1 ⟨rfl, hb⟩; have hz1 := hb.size; (try simp at hz1); replace HR : Hid (Below wr.heap.size wr w1) := (by first | exact HR.out.trans (hb.mono (by omega)) | exact HR.out.drew.trans (hb.mono (by simp)))))
        clear c0 c1 c2 c3 f0 f1 f2 f3 d0 d1 d2 d3 g0 g1 g2 g3
        have hM1 := HM.out.below HR.out (by omega)
        have hX1 := (show Hid _ from HX.out.below HR.out (by omega))
        have hY1 := (show Hid _ from HY.out.below HR.out (by omega))
        have hZ1 := (show Hid _ from HZ.out.below HR.out (by omega))
        have hB1 := (show Hid _ from HB.out.trans (HR.out.mono (by omega)))
        clear HM HX HY HZ HB
        generalize mixTo 2 x y k = mm at *
        have HM1 := (show Hid _ from hM1)
        obtain ⟨l5, c0, c1, c2, c3, f0, f1, f2, f3⟩ := hM1
        go_wp2_with fail
        refine (withR_any mm k _ (by omega) (by omega)).mono ?_
        rintro e w2 ⟨rfl, hb2⟩
        clear c0 c1 c2 c3 f0 f1 f2 f3
        obtain ⟨l5, c0, c1, c2, c3, f0, f1, f2, f3⟩ := HM1.out.below hb2 l5
        go_wp2
        go_roundw
        case rel =>
          refine ⟨k + 1, by omega, by go_num, (hX1.out.below hb2 (by omega)).put_other (by omega) _, (hY1.out.below hb2 (by omega)).put_other (by omega) _, ?_, ⟨z, (hZ1.out.below hb2 (by omega)).put_other (by omega) _⟩, ?_⟩
          · rw [HE.out]; exact (HM1.out.below hb2 (by omega)).put _
          · exact ((((hB1.out.trans (hb2.mono (by omega))).setCell (by simp; omega) _).setCell (by simp; omega) _).setCell (by simp; omega) _).setCell (by simp; omega) _
        case measure => simp [intOf]; omega
      · have HE : Hid (mixTo 2 x y (k + 1) = mixTo 2 x y k) := (by have h := HS.out; rw [hxb, hyb, if_neg (by decide)] at h; exact h)
        clear HS
        go_wp2
        go_region_held3 (fun w' => w'.cell? ⟨w.heap.size, 0, none⟩ = some (.int .u64 (wd x 0)) ∧ w'.cell? ⟨w.heap.size, 1, none⟩ = some (.int .u64 (wd x 1)) ∧ w'.cell? ⟨w.heap.size, 2, none⟩ = some (.int .u64 (wd x 2)) ∧ w'.cell? ⟨w.heap.size, 3, none⟩ = some (.int .u64 (wd x 3)) ∧ w'.cell? ⟨w.heap.size + 1, 0, none⟩ = some (.int .u64 (wd y 0)) ∧ w'.cell? ⟨w.heap.size + 1, 1, none⟩ = some (.int .u64 (wd y 1)) ∧ w'.cell? ⟨w.heap.size + 1, 2, none⟩ = some (.int .u64 (wd y 2)) ∧ w'.cell? ⟨w.heap.size + 1, 3, none⟩ = some (.int .u64 (wd y 3))) (first | go_keep | (go_split_ands; refine ⟨?_, ?_, ?_, ?_, ?_, ?_, ?_, ?_⟩ <;> (rw [hb.cell (by simp; omega)]; first | assumption | simp [*]))) ((go_at_call 99; refine (hasR_any _ _ _).mono ?_; rintro e w1 ⟨rfl, hb⟩; have hz1 := hb.size; (try simp at hz1); replace HR : Hid (Below wr.heap.size wr w1) := (by first | exact HR.out.trans (hb.mono (by omega)) | exact HR.out.drew.trans (hb.mono (by simp)))))
        clear c0 c1 c2 c3 f0 f1 f2 f3 d0 d1 d2 d3 g0 g1 g2 g3
        have hM1 := HM.out.below HR.out (by omega)
        have hX1 := (show Hid _ from HX.out.below HR.out (by omega))
        have hY1 := (show Hid _ from HY.out.below HR.out (by omega))
        have hZ1 := (show Hid _ from HZ.out.below HR.out (by omega))
        have hB1 := (show Hid _ from HB.out.trans (HR.out.mono (by omega)))
        clear HM HX HY HZ HB
        generalize mixTo 2 x y k = mm at *
        have HM1 := (show Hid _ from hM1)
        clear hM1
        go_wp2
        go_roundw
        case rel => exact ⟨k + 1, by omega, by go_num, hX1.out, hY1.out, (by rw [HE.out]; exact HM1.out), ⟨z, hZ1.out⟩, hB1.out⟩
        case measure => simp [intOf]; omega
    · have hke : k = 256 := by omega
      subst hke
      clear hx hy hbel
      have HQ : Hid (mixTo 2 x y 256 = mixS 2 x y) := rfl
      generalize mixTo 2 x y 256 = mm at *
      obtain ⟨l0, c0, c1, c2, c3, f0, f1, f2, f3⟩ := hm
      obtain ⟨l1, d0, d1, d2, d3, g0, g1, g2, g3⟩ := hz
      go_wp2
      rw [← HQ.out]
      refine bodyPost_ret (v := sv mm) (by simp [results, Tryz.results91, go_sem, *]) rfl ⟨rfl, ?_⟩
      exact (((HB.out.setCell (by simp; omega) _).setCell (by simp; omega) _).setCell (by simp; omega) _).setCell (by simp; omega) _
end Go.Proofs.YthffklhojdldkaaGreatDoor

namespace Go.Proofs.YthffklhojdldkaaGreatDoor
open Go.RowKit
set_option maxHeartbeats 4000000 in
theorem mix3_any (x y : BitVec 256) (w : World) :
    Calls Tryz.prog 91 #[.int .i64 3, sv x, sv y] w fun e w' => e = .returned (sv (mixS 3 x y)) ∧ Below w.heap.size w w' := by
  go_enter Tryz.func91, Tryz.ntmps91
  go_wp2
  go_loopw [8] (fun t wr => ∃ k : Nat, k ≤ 256 ∧ t = .int .i64 k ∧ Holds wr w.heap.size x ∧ Holds wr (w.heap.size + 1) y ∧ Holds wr (w.heap.size + 1 + 1 + 1) (mixTo 3 x y k) ∧ (∃ z, Holds wr (w.heap.size + 1 + 1) z) ∧ Below w.heap.size w wr) (fun t _ => 256 - (intOf t).toNat)
  case atStart =>
    exact ⟨0, by omega, rfl, mix_start0 w x y, mix_start1 w x y, mix_start3 w x y, ⟨0#256, mix_start2 w x y⟩, mix_startB w x y⟩
  case round =>
    obtain ⟨k, hk, rfl, hx, hy, hm, ⟨z, hz⟩, hbel⟩ := hrel
    have hsz : w.heap.size + 1 + 1 + 1 < wr.heap.size := hm.lt
    have HX := (show Hid _ from hx)
    have HY := (show Hid _ from hy)
    have HM := (show Hid _ from hm)
    have HZ := (show Hid _ from hz)
    have HB := (show Hid _ from hbel)
    by_cases hlt : k < 256
    · have HS := (show Hid _ from mixTo_succ 3 x y k hlt)
      clear hm hz hbel
      obtain ⟨l0, c0, c1, c2, c3, f0, f1, f2, f3⟩ := hx
      obtain ⟨l1, d0, d1, d2, d3, g0, g1, g2, g3⟩ := hy
      have HR : Hid (Below wr.heap.size wr wr) := Below.refl _ _
      have hk0 : (0 : Int) ≤ (k : Int) := by omega
      have hk1 : (k : Int) ≤ 255 := by omega
      cases hxb : hasB x k <;> cases hyb : hasB y k
      · have HE : Hid (mixTo 3 x y (k + 1) = mixTo 3 x y k ||| bt k) := (by have h := HS.out; rw [hxb, hyb, if_pos (by decide)] at h; exact h)
        clear HS
        go_wp2
        go_region_held3 (fun w' => w'.cell? ⟨w.heap.size, 0, none⟩ = some (.int .u64 (wd x 0)) ∧ w'.cell? ⟨w.heap.size, 1, none⟩ = some (.int .u64 (wd x 1)) ∧ w'.cell? ⟨w.heap.size, 2, none⟩ = some (.int .u64 (wd x 2)) ∧ w'.cell? ⟨w.heap.size, 3, none⟩ = some (.int .u64 (wd x 3)) ∧ w'.cell? ⟨w.heap.size + 1, 0, none⟩ = some (.int .u64 (wd y 0)) ∧ w'.cell? ⟨w.heap.size + 1, 1, none⟩ = some (.int .u64 (wd y 1)) ∧ w'.cell? ⟨w.heap.size + 1, 2, none⟩ = some (.int .u64 (wd y 2)) ∧ w'.cell? ⟨w.heap.size + 1, 3, none⟩ = some (.int .u64 (wd y 3))) (first | go_keep | (go_split_ands; refine ⟨?_, ?_, ?_, ?_, ?_, ?_, ?_, ?_⟩ <;> (rw [hb.cell (by simp; omega)]; first | assumption | simp [*]))) ((go_at_call 99; refine (hasR_any _ _ _).mono ?_; rintro e w1 ⟨rfl, hb⟩; have hz1 := hb.size; (try simp at hz1); replace HR : Hid (Below wr.heap.size wr w1) := (by first | exact HR.out.trans (hb.mono (by omega)) | exact HR.out.drew.trans (hb.mono (by simp)))))
        clear c0 c1 c2 c3 f0 f1 f2 f3 d0 d1 d2 d3 g0 g1 g2 g3
        have hM1 := HM.out.below HR.out (by omega)
        have hX1 := (show Hid _ from HX.out.below HR.out (by omega))
        have hY1 := (show Hid _ from HY.out.below HR.out (by omega))
        have hZ1 := (show Hid _ from HZ.out.below HR.out (by omega))
        have hB1 := (show Hid _ from HB.out.trans (HR.out.mono (by omega)))
        clear HM HX HY HZ HB
        generalize mixTo 3 x y k = mm at *
        have HM1 := (show Hid _ from hM1)
        obtain ⟨l5, c0, c1, c2, c3, f0, f1, f2, f3⟩ := hM1
        go_wp2_with fail
        refine (withR_any mm k _ (by omega) (by omega)).mono ?_
        rintro e w2 ⟨rfl, hb2⟩
        clear c0 c1 c2 c3 f0 f1 f2 f3
        obtain ⟨l5, c0, c1, c2, c3, f0, f1, f2, f3⟩ := HM1.out.below hb2 l5
        go_wp2
        go_roundw
        case rel =>
          refine ⟨k + 1, by omega, by go_num, (hX1.out.below hb2 (by omega)).put_other (by omega) _, (hY1.out.below hb2 (by omega)).put_other (by omega) _, ?_, ⟨z, (hZ1.out.below hb2 (by omega)).put_other (by omega) _⟩, ?_⟩
          · rw [HE.out]; exact (HM1.out.below hb2 (by omega)).put _
          · exact ((((hB1.out.trans (hb2.mono (by omega))).setCell (by simp; omega) _).setCell (by simp; omega) _).setCell (by simp; omega) _).setCell (by simp; omega) _
        case measure => simp [intOf]; omega
      · have HE : Hid (mixTo 3 x y (k + 1) = mixTo 3 x y k ||| bt k) := (by have h := HS.out; rw [hxb, hyb, if_pos (by decide)] at h; exact h)
        clear HS
        go_wp2
        go_region_held3 (fun w' => w'.cell? ⟨w.heap.size, 0, none⟩ = some (.int .u64 (wd x 0)) ∧ w'.cell? ⟨w.heap.size, 1, none⟩ = some (.int .u64 (wd x 1)) ∧ w'.cell? ⟨w.heap.size, 2, none⟩ = some (.int .u64 (wd x 2)) ∧ w'.cell? ⟨w.heap.size, 3, none⟩ = some (.int .u64 (wd x 3)) ∧ w'.cell? ⟨w.heap.size + 1, 0, none⟩ = some (.int .u64 (wd y 0)) ∧ w'.cell? ⟨w.heap.size + 1, 1, none⟩ = some (.int .u64 (wd y 1)) ∧ w'.cell? ⟨w.heap.size + 1, 2, none⟩ = some (.int .u64 (wd y 2)) ∧ w'.cell? ⟨w.heap.size + 1, 3, none⟩ = some (.int .u64 (wd y 3))) (first | go_keep | (go_split_ands; refine ⟨?_, ?_, ?_, ?_, ?_, ?_, ?_, ?_⟩ <;> (rw [hb.cell (by simp; omega)]; first | assumption | simp [*]))) ((go_at_call 99; refine (hasR_any _ _ _).mono ?_; rintro e w1 ⟨rfl, hb⟩; have hz1 := hb.size; (try simp at hz1); replace HR : Hid (Below wr.heap.size wr w1) := (by first | exact HR.out.trans (hb.mono (by omega)) | exact HR.out.drew.trans (hb.mono (by simp)))))
        clear c0 c1 c2 c3 f0 f1 f2 f3 d0 d1 d2 d3 g0 g1 g2 g3
        have hM1 := HM.out.below HR.out (by omega)
        have hX1 := (show Hid _ from HX.out.below HR.out (by omega))
        have hY1 := (show Hid _ from HY.out.below HR.out (by omega))
        have hZ1 := (show Hid _ from HZ.out.below HR.out (by omega))
        have hB1 := (show Hid _ from HB.out.trans (HR.out.mono (by omega)))
        clear HM HX HY HZ HB
        generalize mixTo 3 x y k = mm at *
        have HM1 := (show Hid _ from hM1)
        obtain ⟨l5, c0, c1, c2, c3, f0, f1, f2, f3⟩ := hM1
        go_wp2_with fail
        refine (withR_any mm k _ (by omega) (by omega)).mono ?_
        rintro e w2 ⟨rfl, hb2⟩
        clear c0 c1 c2 c3 f0 f1 f2 f3
        obtain ⟨l5, c0, c1, c2, c3, f0, f1, f2, f3⟩ := HM1.out.below hb2 l5
        go_wp2
        go_roundw
        case rel =>
          refine ⟨k + 1, by omega, by go_num, (hX1.out.below hb2 (by omega)).put_other (by omega) _, (hY1.out.below hb2 (by omega)).put_other (by omega) _, ?_, ⟨z, (hZ1.out.below hb2 (by omega)).put_other (by omega) _⟩, ?_⟩
          · rw [HE.out]; exact (HM1.out.below hb2 (by omega)).put _
          · exact ((((hB1.out.trans (hb2.mono (by omega))).setCell (by simp; omega) _).setCell (by simp; omega) _).setCell (by simp; omega) _).setCell (by simp; omega) _
        case measure => simp [intOf]; omega
      · have HE : Hid (mixTo 3 x y (k + 1) = mixTo 3 x y k) := (by have h := HS.out; rw [hxb, hyb, if_neg (by decide)] at h; exact h)
        clear HS
        go_wp2
        go_region_held3 (fun w' => w'.cell? ⟨w.heap.size, 0, none⟩ = some (.int .u64 (wd x 0)) ∧ w'.cell? ⟨w.heap.size, 1, none⟩ = some (.int .u64 (wd x 1)) ∧ w'.cell? ⟨w.heap.size, 2, none⟩ = some (.int .u64 (wd x 2)) ∧ w'.cell? ⟨w.heap.size, 3, none⟩ = some (.int .u64 (wd x 3)) ∧ w'.cell? ⟨w.heap.size + 1, 0, none⟩ = some (.int .u64 (wd y 0)) ∧ w'.cell? ⟨w.heap.size + 1, 1, none⟩ = some (.int .u64 (wd y 1)) ∧ w'.cell? ⟨w.heap.size + 1, 2, none⟩ = some (.int .u64 (wd y 2)) ∧ w'.cell? ⟨w.heap.size + 1, 3, none⟩ = some (.int .u64 (wd y 3))) (first | go_keep | (go_split_ands; refine ⟨?_, ?_, ?_, ?_, ?_, ?_, ?_, ?_⟩ <;> (rw [hb.cell (by simp; omega)]; first | assumption | simp [*]))) ((go_at_call 99; refine (hasR_any _ _ _).mono ?_; rintro e w1 ⟨rfl, hb⟩; have hz1 := hb.size; (try simp at hz1); replace HR : Hid (Below wr.heap.size wr w1) := (by first | exact HR.out.trans (hb.mono (by omega)) | exact HR.out.drew.trans (hb.mono (by simp)))))
        clear c0 c1 c2 c3 f0 f1 f2 f3 d0 d1 d2 d3 g0 g1 g2 g3
        have hM1 := HM.out.below HR.out (by omega)
        have hX1 := (show Hid _ from HX.out.below HR.out (by omega))
        have hY1 := (show Hid _ from HY.out.below HR.out (by omega))
        have hZ1 := (show Hid _ from HZ.out.below HR.out (by omega))
        have hB1 := (show Hid _ from HB.out.trans (HR.out.mono (by omega)))
        clear HM HX HY HZ HB
        generalize mixTo 3 x y k = mm at *
        have HM1 := (show Hid _ from hM1)
        clear hM1
        go_wp2
        go_roundw
        case rel => exact ⟨k + 1, by omega, by go_num, hX1.out, hY1.out, (by rw [HE.out]; exact HM1.out), ⟨z, hZ1.out⟩, hB1.out⟩
        case measure => simp [intOf]; omega
      · have HE : Hid (mixTo 3 x y (k + 1) = mixTo 3 x y k) := (by have h := HS.out; rw [hxb, hyb, if_neg (by decide)] at h; exact h)
        clear HS
        go_wp2
        go_region_held3 (fun w' => w'.cell? ⟨w.heap.size, 0, none⟩ = some (.int .u64 (wd x 0)) ∧ w'.cell? ⟨w.heap.size, 1, none⟩ = some (.int .u64 (wd x 1)) ∧ w'.cell? ⟨w.heap.size, 2, none⟩ = some (.int .u64 (wd x 2)) ∧ w'.cell? ⟨w.heap.size, 3, none⟩ = some (.int .u64 (wd x 3)) ∧ w'.cell? ⟨w.heap.size + 1, 0, none⟩ = some (.int .u64 (wd y 0)) ∧ w'.cell? ⟨w.heap.size + 1, 1, none⟩ = some (.int .u64 (wd y 1)) ∧ w'.cell? ⟨w.heap.size + 1, 2, none⟩ = some (.int .u64 (wd y 2)) ∧ w'.cell? ⟨w.heap.size + 1, 3, none⟩ = some (.int .u64 (wd y 3))) (first | go_keep | (go_split_ands; refine ⟨?_, ?_, ?_, ?_, ?_, ?_, ?_, ?_⟩ <;> (rw [hb.cell (by simp; omega)]; first | assumption | simp [*]))) ((go_at_call 99; refine (hasR_any _ _ _).mono ?_; rintro e w1 ⟨rfl, hb⟩; have hz1 := hb.size; (try simp at hz1); replace HR : Hid (Below wr.heap.size wr w1) := (by first | exact HR.out.trans (hb.mono (by omega)) | exact HR.out.drew.trans (hb.mono (by simp)))))
        clear c0 c1 c2 c3 f0 f1 f2 f3 d0 d1 d2 d3 g0 g1 g2 g3
        have hM1 := HM.out.below HR.out (by omega)
        have hX1 := (show Hid _ from HX.out.below HR.out (by omega))
        have hY1 := (show Hid _ from HY.out.below HR.out (by omega))
        have hZ1 := (show Hid _ from HZ.out.below HR.out (by omega))
        have hB1 := (show Hid _ from HB.out.trans (HR.out.mono (by omega)))
        clear HM HX HY HZ HB
        generalize mixTo 3 x y k = mm at *
        have HM1 := (show Hid _ from hM1)
        clear hM1
        go_wp2
        go_roundw
        case rel => exact ⟨k + 1, by omega, by go_num, hX1.out, hY1.out, (by rw [HE.out]; exact HM1.out), ⟨z, hZ1.out⟩, hB1.out⟩
        case measure => simp [intOf]; omega
    · have hke : k = 256 := by omega
      subst hke
      clear hx hy hbel
      have HQ : Hid (mixTo 3 x y 256 = mixS 3 x y) := rfl
      generalize mixTo 3 x y 256 = mm at *
      obtain ⟨l0, c0, c1, c2, c3, f0, f1, f2, f3⟩ := hm
      obtain ⟨l1, d0, d1, d2, d3, g0, g1, g2, g3⟩ := hz
      go_wp2
      rw [← HQ.out]
      refine bodyPost_ret (v := sv mm) (by simp [results, Tryz.results91, go_sem, *]) rfl ⟨rfl, ?_⟩
      exact (((HB.out.setCell (by simp; omega) _).setCell (by simp; omega) _).setCell (by simp; omega) _).setCell (by simp; omega) _
end Go.Proofs.YthffklhojdldkaaGreatDoor

namespace Go.Proofs.YthffklhojdldkaaGreatDoor
open Go.RowKit
theorem wd_not (x : BitVec 256) (i : Nat) (hi : i < 4) : bits .xor .u64 IntKind.u64.max (wd x i) = wd (~~~ x) i := by
  have hm : IntKind.u64.max = 18446744073709551615 := rfl
  rw [hm, u64_xor _ _ (by omega) (by omega) (wd_lo _ _) (wd_hi _ _)]
  refine wd_of_testBit _ _ _ (Int.natCast_nonneg _) fun j => ?_
  rw [Int.toNat_natCast, Nat.testBit_xor, wd_testBit, BitVec.getLsbD_not]
  have e : (18446744073709551615 : Int).toNat = 2 ^ 64 - 1 := rfl
  rw [e, Nat.testBit_two_pow_sub_one]
  by_cases h : j < 64
  · have : 64 * i + j < 256 := by omega
    simp [h, this]
  · simp [h]

set_option maxHeartbeats 2000000 in
theorem not_any (x : BitVec 256) (w : World) :
    Calls Tryz.prog 89 #[sv x] w fun e w' => e = .returned (sv (~~~ x)) ∧ Below w.heap.size w w' := by
  have hsg : IntKind.u64.signed = false := rfl
  go_enter Tryz.func89, Tryz.ntmps89
  go_wp2
  refine wp_loop_rounds 5 ?_
  iterate 5
    rw [rounds_succ]
    go_wp2
  exact bodyPost_ret (v := .agg #[.int .u64 (bits BinOp.xor IntKind.u64 IntKind.u64.max (wd x 0)), .int .u64 (bits BinOp.xor IntKind.u64 IntKind.u64.max (wd x 1)), .int .u64 (bits BinOp.xor IntKind.u64 IntKind.u64.max (wd x 2)), .int .u64 (bits BinOp.xor IntKind.u64 IntKind.u64.max (wd x 3))]) (by simp [results, Tryz.results89, go_sem]) rfl ⟨ret_sv (wd_not x 0 (by omega)) (wd_not x 1 (by omega)) (wd_not x 2 (by omega)) (wd_not x 3 (by omega)), (((Below.refl _ _).alloc (Nat.le_refl _) _).alloc (by simp) _)⟩

set_option maxHeartbeats 2000000 in
theorem union_any (x y : BitVec 256) (w : World) :
    Calls Tryz.prog 126 #[sv x, sv y] w fun e w' => e = .returned (sv (x ||| y)) ∧ Below w.heap.size w w' := by
  go_enter Tryz.func126, Tryz.ntmps126
  go_wp2
  refine wp_loop_rounds 5 ?_
  iterate 4
    rw [rounds_succ]
    go_wp2
    go_region
    go_wp2
  rw [rounds_succ]
  go_wp2
  exact bodyPost_ret (v := .agg #[.int .u64 (bits BinOp.or IntKind.u64 (wd x 0) (wd y 0)), .int .u64 (bits BinOp.or IntKind.u64 (wd x 1) (wd y 1)), .int .u64 (bits BinOp.or IntKind.u64 (wd x 2) (wd y 2)), .int .u64 (bits BinOp.or IntKind.u64 (wd x 3) (wd y 3))]) (by simp [results, Tryz.results126, go_sem]) rfl ⟨ret_sv (wd_or x y 0) (wd_or x y 1) (wd_or x y 2) (wd_or x y 3), (Below.drew (Below.drew (Below.drew (Below.drew ((((Below.refl _ _).alloc (Nat.le_refl _) _).alloc (by simp) _).alloc (by simp; omega) _)))))⟩

set_option maxHeartbeats 2000000 in
theorem meet_any (x y : BitVec 256) (w : World) :
    Calls Tryz.prog 129 #[sv x, sv y] w fun e w' => e = .returned (sv (x &&& y)) ∧ Below w.heap.size w w' := by
  go_enter Tryz.func129, Tryz.ntmps129
  go_wp2
  refine wp_loop_rounds 5 ?_
  iterate 4
    rw [rounds_succ]
    go_wp2
    go_region
    go_wp2
  rw [rounds_succ]
  go_wp2
  exact bodyPost_ret (v := .agg #[.int .u64 (bits BinOp.and IntKind.u64 (wd x 0) (wd y 0)), .int .u64 (bits BinOp.and IntKind.u64 (wd x 1) (wd y 1)), .int .u64 (bits BinOp.and IntKind.u64 (wd x 2) (wd y 2)), .int .u64 (bits BinOp.and IntKind.u64 (wd x 3) (wd y 3))]) (by simp [results, Tryz.results129, go_sem]) rfl ⟨ret_sv (wd_and x y 0) (wd_and x y 1) (wd_and x y 2) (wd_and x y 3), (Below.drew (Below.drew (Below.drew (Below.drew ((((Below.refl _ _).alloc (Nat.le_refl _) _).alloc (by simp) _).alloc (by simp; omega) _)))))⟩
end Go.Proofs.YthffklhojdldkaaGreatDoor

namespace Go.Proofs.YthffklhojdldkaaGreatDoor
open Go.RowKit
theorem size1 (w : World) (a : Obj) : (w.alloc a).heap.size = w.heap.size + 1 := by simp
theorem size2 (w : World) (a b : Obj) : ((w.alloc a).alloc b).heap.size = w.heap.size + 1 + 1 := by simp
theorem size3 (w : World) (a b c : Obj) : (((w.alloc a).alloc b).alloc c).heap.size = w.heap.size + 1 + 1 + 1 := by simp
theorem holds3 (w : World) (a b : Obj) : Holds (((w.alloc a).alloc b).alloc z4) (w.heap.size + 1 + 1) 0#256 := by
  have h := Holds.zero ((w.alloc a).alloc b)
  rw [size2] at h
  exact h
theorem below3 (w : World) (a b c : Obj) : Below w.heap.size w (((w.alloc a).alloc b).alloc c) :=
  (((Below.refl _ _).alloc (Nat.le_refl _) _).alloc (by simp) _).alloc (by simp; omega) _
theorem below2 (w : World) (a b : Obj) : Below w.heap.size w ((w.alloc a).alloc b) :=
  ((Below.refl _ _).alloc (Nat.le_refl _) _).alloc (by simp) _

set_option maxHeartbeats 400000 in
theorem unionR_any (x y : BitVec 256) (w : World) :
    Calls Tryz.prog 61 #[sv x, sv y] w fun e w' => e = .returned (sv (x ||| y)) ∧ Below w.heap.size w w' := by
  have hsz := size3 w (c4 x) (c4 y) z4
  have HH := (show Hid _ from holds3 w (c4 x) (c4 y))
  have HB := (show Hid _ from below3 w (c4 x) (c4 y) z4)
  go_enter Tryz.func61, Tryz.ntmps61
  go_wp2_with fail
  refine (mix0_any x y _).mono ?_
  rintro e w1 ⟨rfl, hb⟩
  have hl := hb.size
  have HR := (show Hid _ from HB.out.trans (hb.mono (by rw [hsz]; omega)))
  obtain ⟨l0, c0, c1, c2, c3, f0, f1, f2, f3⟩ := HH.out.below hb (by rw [hsz]; omega)
  rw [mixS_union]
  generalize hr : x ||| y = r
  have Hr := (show Hid _ from hr)
  clear hr
  clear hsz hl
  go_wp2
  exact bodyPost_ret (v := sv r) (by simp [results, Tryz.results61, go_sem, *]) rfl ⟨by rw [Hr.out], (((HR.out.setCell (by simp; omega) _).setCell (by simp; omega) _).setCell (by simp; omega) _).setCell (by simp; omega) _⟩

set_option maxHeartbeats 400000 in
theorem lessR_any (x y : BitVec 256) (w : World) :
    Calls Tryz.prog 63 #[sv x, sv y] w fun e w' => e = .returned (sv (x &&& ~~~ y)) ∧ Below w.heap.size w w' := by
  have hsz := size3 w (c4 x) (c4 y) z4
  have HH := (show Hid _ from holds3 w (c4 x) (c4 y))
  have HB := (show Hid _ from below3 w (c4 x) (c4 y) z4)
  go_enter Tryz.func63, Tryz.ntmps63
  go_wp2_with fail
  refine (mix2_any x y _).mono ?_
  rintro e w1 ⟨rfl, hb⟩
  have hl := hb.size
  have HR := (show Hid _ from HB.out.trans (hb.mono (by rw [hsz]; omega)))
  obtain ⟨l0, c0, c1, c2, c3, f0, f1, f2, f3⟩ := HH.out.below hb (by rw [hsz]; omega)
  rw [mixS_less]
  generalize hr : x &&& ~~~ y = r
  have Hr := (show Hid _ from hr)
  clear hr
  clear hsz hl
  go_wp2
  exact bodyPost_ret (v := sv r) (by simp [results, Tryz.results63, go_sem, *]) rfl ⟨by rw [Hr.out], (((HR.out.setCell (by simp; omega) _).setCell (by simp; omega) _).setCell (by simp; omega) _).setCell (by simp; omega) _⟩

set_option maxHeartbeats 400000 in
theorem notR_any (x : BitVec 256) (w : World) :
    Calls Tryz.prog 59 #[sv x] w fun e w' => e = .returned (sv (~~~ x)) ∧ Below w.heap.size w w' := by
  have hsz := size2 w (c4 x) z4
  have HH := (show Hid _ from Holds.zero' w (c4 x))
  have HB := (show Hid _ from below2 w (c4 x) z4)
  go_enter Tryz.func59, Tryz.ntmps59
  go_wp2_with fail
  refine (mix3_any x x _).mono ?_
  rintro e w1 ⟨rfl, hb⟩
  have hl := hb.size
  have HR := (show Hid _ from HB.out.trans (hb.mono (by rw [hsz]; omega)))
  obtain ⟨l0, c0, c1, c2, c3, f0, f1, f2, f3⟩ := HH.out.below hb (by rw [hsz]; omega)
  rw [mixS_not]
  generalize hr : ~~~ x = r
  have Hr := (show Hid _ from hr)
  clear hr
  clear hsz hl
  go_wp2
  exact bodyPost_ret (v := sv r) (by simp [results, Tryz.results59, go_sem, *]) rfl ⟨by rw [Hr.out], (((HR.out.setCell (by simp) _).setCell (by simp) _).setCell (by simp) _).setCell (by simp) _⟩

set_option maxHeartbeats 1000000 in
theorem less_any (x y : BitVec 256) (w : World) :
    Calls Tryz.prog 111 #[sv x, sv y] w fun e w' => e = .returned (sv (x &&& ~~~ y)) ∧ Below w.heap.size w w' := by
  have hsz := size3 w (c4 x) (c4 y) z4
  have HX := (show Hid _ from ((Holds.new w x).alloc (c4 y)).alloc z4)
  have HH := (show Hid _ from holds3 w (c4 x) (c4 y))
  have HB := (show Hid _ from below3 w (c4 x) (c4 y) z4)
  have HR : Hid (Below (w.heap.size + 1 + 1 + 1) (((w.alloc (c4 x)).alloc (c4 y)).alloc z4) (((w.alloc (c4 x)).alloc (c4 y)).alloc z4)) := Below.refl _ _
  go_enter Tryz.func111, Tryz.ntmps111
  go_wp2
  go_region_with (first | (go_at_call 89; refine (not_any _ _).mono ?_; rintro e w1 ⟨rfl, hb⟩; have hz1 := hb.size; (try simp at hz1); replace HR : Hid (Below (w.heap.size + 1 + 1 + 1) (((w.alloc (c4 x)).alloc (c4 y)).alloc z4) w1) := (by first | exact HR.out.trans (hb.mono (by omega)) | exact HR.out.drew.trans (hb.mono (by simp))); obtain ⟨l5, p0, p1, p2, p3, q0, q1, q2, q3⟩ := HH.out.below HR.out (by omega); obtain ⟨l0, c0, c1, c2, c3, f0, f1, f2, f3⟩ := HX.out.below HR.out (by omega)) | (go_at_call 129; refine (meet_any _ _ _).mono ?_; rintro e w1 ⟨rfl, hb⟩; have hz1 := hb.size; (try simp at hz1); replace HR : Hid (Below (w.heap.size + 1 + 1 + 1) (((w.alloc (c4 x)).alloc (c4 y)).alloc z4) w1) := (by first | exact HR.out.trans (hb.mono (by omega)) | exact HR.out.drew.trans (hb.mono (by simp))); obtain ⟨l5, p0, p1, p2, p3, q0, q1, q2, q3⟩ := HH.out.below HR.out (by omega); obtain ⟨l0, c0, c1, c2, c3, f0, f1, f2, f3⟩ := HX.out.below HR.out (by omega)))
  all_goals
    go_wp2
    exact bodyPost_ret (v := sv (x &&& ~~~ y)) (by simp [results, Tryz.results111, go_sem, *]) rfl ⟨rfl, ((((HB.out.trans (HR.out.mono (by omega))).setCell (by simp; omega) _).setCell (by simp; omega) _).setCell (by simp; omega) _).setCell (by simp; omega) _⟩
end Go.Proofs.YthffklhojdldkaaGreatDoor

namespace Go.Proofs.YthffklhojdldkaaGreatDoor
open Go.RowKit Go.Shelf
attribute [local go_sem] Oper.semAt_some

/-- A box of one cell: what it holds, and that it may be written. -/
structure Box1 (W : World) (b : Nat) (v : Value) : Prop where
  c : W.cell? ⟨b, 0, none⟩ = some v
  f : W.frozen? ⟨b, 0, none⟩ = false
theorem Box1.new (W : World) (v : Value) (t : TypeId) : Box1 (W.alloc (.cells #[v] t)) W.heap.size v := by
  have h := World.alloc_heap_new W (.cells #[v] t)
  exact ⟨by unfold World.cell?; rw [h]; rfl, by unfold World.frozen?; rw [h]; rfl⟩
theorem Box1.kept {W W' : World} {b : Nat} {v : Value} {row : Option Nat} (h : Box1 W b v) (hg : W.grownBy W' row) (hr : ∀ r, row = some r → ∃ o : Obj, W.heap[r]? = some o ∧ o.isCells = false) : Box1 W' b v :=
  ⟨cell_kept h.1 hg hr, (frozen_kept h.1 hg hr).trans h.2⟩
theorem Box1.alloc {W : World} {b : Nat} {v : Value} (h : Box1 W b v) (o : Obj) : Box1 (W.alloc o) b v := h.kept (World.grownBy_alloc W o none) (fun r e => by cases e)
theorem Box1.set {W : World} {b : Nat} {v : Value} (h : Box1 W b v) (u : Value) : Box1 (W.setCell ⟨b, 0, none⟩ u) b u :=
  ⟨World.cell?_setCell_same' _ _ _ (by rw [h.1]; rfl), by rw [World.frozen?_setCell]; exact h.2⟩
theorem Box1.other {W : World} {b c : Nat} {v : Value} (h : Box1 W b v) (hne : b ≠ c) (u : Value) : Box1 (W.setCell ⟨c, 0, none⟩ u) b v := by
  obtain ⟨h1, h2⟩ := h
  constructor <;> simp [go_sem, *]
end Go.Proofs.YthffklhojdldkaaGreatDoor

namespace Go.Proofs.YthffklhojdldkaaGreatDoor
open Go.RowKit Go.Shelf
attribute [local go_sem] Oper.semAt_some

theorem own_base {w : World} {base base' e size : Nat} {v : Value} {n : Nat} {xs : List Value} (h : w.ownsRow base e size v n xs) (hb : base' ≤ base) : w.ownsRow base' e size v n xs := by
  refine ⟨h.1, h.2.imp id ?_⟩
  rintro ⟨g, cap, cur, h1, h2, h3⟩
  exact ⟨g, cap, cur, h1, by omega, h3⟩

/-- Behind 'l = append(l, ..)' in a box B below the row's base R: what was below R, but for the box, is as it was. -/
theorem append_keep {W w1 : World} {R B b : Nat} {v : Value} {tmp : Obj} {v' : Value} (hlt : ∀ k, v.ownBlock = some k → R ≤ k) (hgrow : (W.alloc tmp).grownBy w1 v.ownBlock) (hb : b < W.heap.size) (hR : b < R) (hne : b ≠ B) :
    KeepB b W (w1.setCell ⟨B, 0, none⟩ v') := by
  refine (KeepB.alloc hb tmp).trans ((KeepB.grown hgrow (by simp; omega) (fun e => ?_)).trans (KeepB.setCell (p := ⟨B, 0, none⟩) hne _))
  have := hlt _ e
  omega

/-- The numbers of a list of bytes. -/
def nums (l : List (Fin 256)) : List Int := l.map (fun b => (b.val : Int))
theorem nums_snoc (l : List (Fin 256)) (b : Fin 256) : nums (l ++ [b]) = nums l ++ [(b.val : Int)] := by unfold nums; rw [List.map_append]; rfl
theorem nums_len (l : List (Fin 256)) : (nums l).length = l.length := List.length_map _
end Go.Proofs.YthffklhojdldkaaGreatDoor

namespace Go.Proofs.YthffklhojdldkaaGreatDoor
open Go.RowKit
/-- One byte more, behind the spans of those before it. -/
def spStep (l : List (Int × Int)) (b : Int) : List (Int × Int) := match l.getLast? with
  | some p => if p.2 + 1 = b then l.dropLast ++ [(p.1, b)] else l ++ [(b, b)]
  | none => [(b, b)]
def spL (bs : List Int) : List (Int × Int) := bs.foldl spStep []
theorem spL_snoc (bs : List Int) (b : Int) : spL (bs ++ [b]) = spStep (spL bs) b := by unfold spL; rw [List.foldl_append]; rfl
theorem spStep_nil (b : Int) : spStep [] b = [(b, b)] := rfl
theorem spStep_hit (l : List (Int × Int)) (lo hi b : Int) (h : hi + 1 = b) : spStep (l ++ [(lo, hi)]) b = l ++ [(lo, b)] := by
  unfold spStep; simp [h]
theorem spStep_miss (l : List (Int × Int)) (lo hi b : Int) (h : hi + 1 ≠ b) : spStep (l ++ [(lo, hi)]) b = l ++ [(lo, hi)] ++ [(b, b)] := by
  unfold spStep; simp [h]
theorem snoc_cases {α : Type} (l : List α) : l = [] ∨ ∃ m a, l = m ++ [a] := by
  rcases List.eq_nil_or_concat l with h | ⟨m, a, h⟩
  · exact .inl h
  · exact .inr ⟨m, a, by rw [h, List.concat_eq_append]⟩
theorem spStep_len (l : List (Int × Int)) (b : Int) : (spStep l b).length ≤ l.length + 1 := by
  rcases snoc_cases l with rfl | ⟨m, ⟨lo, hi⟩, rfl⟩
  · simp [spStep]
  · by_cases h : hi + 1 = b
    · rw [spStep_hit _ _ _ _ h]; simp
    · rw [spStep_miss _ _ _ _ h]; simp
theorem spL_len (bs : List Int) : (spL bs).length ≤ bs.length := by
  have key : ∀ n (bs : List Int), bs.length = n → (spL bs).length ≤ n := fun n => by
    induction n with
    | zero => intro bs h; rw [List.eq_nil_of_length_eq_zero h]; exact Nat.le_refl _
    | succ n ih =>
      intro bs h
      rcases snoc_cases bs with rfl | ⟨m, b, rfl⟩
      · simp at h
      · rw [spL_snoc]
        have h1 := ih m (by simp at h; exact h)
        have h2 := spStep_len (spL m) b
        omega
  exact key _ bs rfl
/-- The last span ends at the last byte. -/
theorem spL_last (m : List Int) (b : Int) : ∃ l lo, spL (m ++ [b]) = l ++ [(lo, b)] := by
  rw [spL_snoc]
  rcases snoc_cases (spL m) with h | ⟨l, ⟨lo, hi⟩, h⟩
  · rw [h]; exact ⟨[], b, rfl⟩
  · rw [h]
    by_cases e : hi + 1 = b
    · rw [spStep_hit _ _ _ _ e]; exact ⟨l, lo, rfl⟩
    · rw [spStep_miss _ _ _ _ e]; exact ⟨_, b, rfl⟩
/-- The cells of a list of spans. -/
def spc (l : List (Int × Int)) : List Value := l.flatMap fun p => [.int .i64 p.1, .int .i64 p.2]
theorem spc_append (a b : List (Int × Int)) : spc (a ++ b) = spc a ++ spc b := by unfold spc; rw [List.flatMap_append]
theorem spc_len (l : List (Int × Int)) : (spc l).length = l.length * 2 := by
  induction l with
  | nil => rfl
  | cons p l ih => unfold spc at *; rw [List.flatMap_cons, List.length_append, ih]; simp; omega
theorem spc_lo (l : List (Int × Int)) (i : Nat) (h : i < l.length) : (spc l)[i * 2]? = some (.int .i64 (l[i]).1) := by
  induction l generalizing i with
  | nil => simp at h
  | cons p l ih =>
    have e : spc (p :: l) = .int .i64 p.1 :: .int .i64 p.2 :: spc l := by unfold spc; rfl
    rw [e]
    cases i with
    | zero => rfl
    | succ i => rw [show (i + 1) * 2 = i * 2 + 1 + 1 from by omega]; simp only [List.getElem?_cons_succ, List.getElem_cons_succ]; exact ih i (by simpa using h)
theorem spc_hi (l : List (Int × Int)) (i : Nat) (h : i < l.length) : (spc l)[i * 2 + 1]? = some (.int .i64 (l[i]).2) := by
  induction l generalizing i with
  | nil => simp at h
  | cons p l ih =>
    have e : spc (p :: l) = .int .i64 p.1 :: .int .i64 p.2 :: spc l := by unfold spc; rfl
    rw [e]
    cases i with
    | zero => rfl
    | succ i => rw [show (i + 1) * 2 + 1 = i * 2 + 1 + 1 + 1 from by omega]; simp only [List.getElem?_cons_succ, List.getElem_cons_succ]; exact ih i (by simpa using h)
theorem spc_set (l : List (Int × Int)) (lo hi b : Int) : (spc (l ++ [(lo, hi)])).set (l.length * 2 + 1) (.int .i64 b) = spc (l ++ [(lo, b)]) := by
  rw [spc_append, spc_append, List.set_append_right _ _ (by rw [spc_len]; omega), spc_len]
  rw [show l.length * 2 + 1 - l.length * 2 = 1 from by omega]
  rfl

/-- Every number of the spans is one of the bytes. -/
theorem spL_mem (bs : List Int) (p : Int × Int) (h : p ∈ spL bs) : p.1 ∈ bs ∧ p.2 ∈ bs := by
  have key : ∀ n (bs : List Int), bs.length = n → ∀ p ∈ spL bs, p.1 ∈ bs ∧ p.2 ∈ bs := fun n => by
    induction n with
    | zero => intro bs h p hp; rw [List.eq_nil_of_length_eq_zero h] at hp; simp [spL] at hp
    | succ n ih =>
      intro bs h p hp
      rcases snoc_cases bs with rfl | ⟨m, b, rfl⟩
      · simp at h
      · have ihm := ih m (by simp at h; exact h)
        rw [spL_snoc] at hp
        have old : ∀ q ∈ spL m, q.1 ∈ m ++ [b] ∧ q.2 ∈ m ++ [b] := fun q hq => ⟨List.mem_append_left _ (ihm q hq).1, List.mem_append_left _ (ihm q hq).2⟩
        have new : b ∈ m ++ [b] := by simp
        rcases snoc_cases (spL m) with hs | ⟨l, ⟨lo, hi⟩, hs⟩
        · rw [hs] at hp; simp [spStep] at hp; subst hp; exact ⟨new, new⟩
        · rw [hs] at hp old
          by_cases e : hi + 1 = b
          · rw [spStep_hit _ _ _ _ e] at hp
            rcases List.mem_append.1 hp with h1 | h1
            · exact old p (List.mem_append_left _ h1)
            · simp at h1; subst h1; exact ⟨(old (lo, hi) (by simp)).1, new⟩
          · rw [spStep_miss _ _ _ _ e] at hp
            rcases List.mem_append.1 hp with h1 | h1
            · exact old p h1
            · simp at h1; subst h1; exact ⟨new, new⟩
  exact key _ bs rfl p h
end Go.Proofs.YthffklhojdldkaaGreatDoor

namespace Go.Proofs.YthffklhojdldkaaGreatDoor
open Go.RowKit
set_option maxHeartbeats 1000000 in
theorem fill_any (x : BitVec 256) (lo hi : Int) (w : World) (h0 : 0 ≤ lo) (hle : lo ≤ hi) (h1 : hi ≤ 255) :
    Calls Tryz.prog 113 #[sv x, .int .i64 lo, .int .i64 hi] w fun e w' => e = .returned (sv (x ||| spn lo hi)) ∧ Below w.heap.size w w' := by
  go_enter Tryz.func113, Tryz.ntmps113
  go_wp2
  go_loopw [7] (fun t wr => ∃ b : Int, lo ≤ b ∧ b ≤ hi + 1 ∧ t = .int .i64 b ∧ Holds wr w.heap.size (x ||| spn lo (b - 1)) ∧ (∃ z, Holds wr (w.heap.size + 1) z) ∧ Below w.heap.size w wr) (fun t _ => (hi + 1 - intOf t).toNat)
  case atStart =>
    refine ⟨lo, by omega, by omega, rfl, ?_, ⟨0#256, Holds.zero' w _⟩, ?_⟩
    · rw [spn_nil lo h0 (by omega), BitVec.or_zero]; exact (Holds.new w x).alloc _
    · exact ((Below.refl _ _).alloc (Nat.le_refl _) _).alloc (by simp) _
  case round =>
    obtain ⟨b, hb0, hb1, rfl, hx, ⟨z, hz⟩, hbel⟩ := hrel
    have hsz : w.heap.size + 1 < wr.heap.size := hz.lt
    by_cases hlt : b ≤ hi
    · have HS := (show Hid _ from spn_snoc lo b h0 hb0 (by omega))
      generalize hy : x ||| spn lo (b - 1) = y at hx
      have HY := (show Hid _ from hy)
      clear hy
      have HX := (show Hid _ from hx)
      have HZ := (show Hid _ from hz)
      have HB := (show Hid _ from hbel)
      obtain ⟨l0, c0, c1, c2, c3, f0, f1, f2, f3⟩ := hx
      clear hz hbel
      go_wp2_with fail
      refine (with_any y b _ (by omega) (by omega)).mono ?_
      rintro e w1 ⟨rfl, hb⟩
      obtain ⟨l0, c0, c1, c2, c3, f0, f1, f2, f3⟩ := HX.out.below hb l0
      go_wp2
      go_roundw
      case rel =>
        refine ⟨b + 1, by omega, by omega, rfl, ?_, ⟨z, ?_⟩, ?_⟩
        · rw [show b + 1 - 1 = b from by omega, HS.out, ← BitVec.or_assoc, HY.out]
          exact (HX.out.below hb (by omega)).put _
        · exact (HZ.out.below hb (by omega)).put_other (by omega) _
        · exact ((((HB.out.trans (hb.mono (by omega))).setCell (Nat.le_refl _) _).setCell (Nat.le_refl _) _).setCell (Nat.le_refl _) _).setCell (Nat.le_refl _) _
      case measure => simp [intOf]; omega
    · have hbe : b - 1 = hi := by omega
      rw [hbe] at hx
      generalize hy : x ||| spn lo hi = y at hx
      have HY := (show Hid _ from hy)
      clear hy
      have HZ := (show Hid _ from hz)
      have HB := (show Hid _ from hbel)
      obtain ⟨l0, c0, c1, c2, c3, f0, f1, f2, f3⟩ := hx
      obtain ⟨l1, d0, d1, d2, d3, g0, g1, g2, g3⟩ := hz
      clear hbel
      go_wp2
      rw [HY.out]
      refine bodyPost_ret (v := sv y) (by simp [results, Tryz.results113, go_sem, *]) rfl ⟨rfl, ?_⟩
      exact (((HB.out.setCell (by simp) _).setCell (by simp) _).setCell (by simp) _).setCell (by simp) _
end Go.Proofs.YthffklhojdldkaaGreatDoor

namespace Go.Proofs.YthffklhojdldkaaGreatDoor
open Go.RowKit
theorem below1 (w : World) (a : Obj) : Below w.heap.size w (w.alloc a) := (Below.refl _ _).alloc (Nat.le_refl _) _

theorem fill0_any (lo hi : Int) (w : World) (h0 : 0 ≤ lo) (hle : lo ≤ hi) (h1 : hi ≤ 255) :
    Calls Tryz.prog 113 #[.agg #[.int .u64 0, .int .u64 0, .int .u64 0, .int .u64 0], .int .i64 lo, .int .i64 hi] w fun e w' => e = .returned (sv (spn lo hi)) ∧ Below w.heap.size w w' := by
  have h := fill_any 0#256 lo hi w h0 hle h1
  rw [BitVec.zero_or, sv, wd_zero, wd_zero, wd_zero, wd_zero] at h
  exact h

/-- Is it a capital letter? -/
def capB (b : Int) : Bool := decide (65 ≤ b) && decide (b ≤ 90)
set_option maxHeartbeats 400000 in
theorem isCapital_any (b : Int) (w : World) :
    Calls Tryz.prog 87 #[.int .i64 b] w fun e w' => e = .returned (.bool (capB b)) ∧ w' = w := by
  by_cases h0 : 65 ≤ b
  · have hd : decide (65 ≤ b) = true := by simpa using h0
    go_enter Tryz.func87, Tryz.ntmps87
    go_wp2
    go_ret
    exact ⟨by simp [capB, h0], rfl⟩
  · have hd : decide (65 ≤ b) = false := by simpa using h0
    go_enter Tryz.func87, Tryz.ntmps87
    go_wp2
    go_ret
    exact ⟨by unfold capB; rw [hd]; rfl, rfl⟩

set_option maxHeartbeats 400000 in
theorem bytesFrom_any (lo hi : Int) (w : World) (h0 : 0 ≤ lo) (hle : lo ≤ hi) (h1 : hi ≤ 255) :
    Calls Tryz.prog 110 #[.int .i64 lo, .int .i64 hi] w fun e w' => e = .returned (sv (spn lo hi)) ∧ Below w.heap.size w w' := by
  have HH := (show Hid _ from Holds.zero w)
  have HR := (show Hid _ from below1 w z4)
  have HQ : Hid (Below (w.heap.size + 1) (w.alloc z4) (w.alloc z4)) := Below.refl _ _
  go_enter Tryz.func110, Tryz.ntmps110
  go_wp2_with fail
  refine (fill0_any lo hi _ h0 hle h1).mono ?_
  rintro e w1 ⟨rfl, hb⟩
  replace HQ := (show Hid _ from HQ.out.trans (hb.mono (by first | exact HQ.out.size | (have h := HQ.out.size; simp at h; omega) | simp)))
  have HR1 := (show Hid _ from HR.out.trans (HQ.out.mono (by omega)))
  obtain ⟨l0, c0, c1, c2, c3, f0, f1, f2, f3⟩ := HH.out.below HQ.out (by omega)
  generalize hr : spn lo hi = r
  have Hr := (show Hid _ from hr)
  clear hr
  go_wp2
  exact bodyPost_ret (v := sv r) (by simp [results, Tryz.results110, go_sem, *]) rfl ⟨by rw [Hr.out], (((HR1.out.setCell (by simp) _).setCell (by simp) _).setCell (by simp) _).setCell (by simp) _⟩

set_option maxHeartbeats 400000 in
theorem letters_any (w : World) :
    Calls Tryz.prog 108 #[] w fun e w' => e = .returned (sv (spn 65 90 ||| spn 97 122)) ∧ Below w.heap.size w w' := by
  have HH := (show Hid _ from Holds.zero w)
  have HR := (show Hid _ from below1 w z4)
  have HQ : Hid (Below (w.heap.size + 1) (w.alloc z4) (w.alloc z4)) := Below.refl _ _
  go_enter Tryz.func108, Tryz.ntmps108
  go_wp2_with fail
  refine (bytesFrom_any 65 90 _ (by omega) (by omega) (by omega)).mono ?_
  rintro e w1 ⟨rfl, hb⟩
  replace HQ := (show Hid _ from HQ.out.trans (hb.mono (by first | exact HQ.out.size | (have h := HQ.out.size; simp at h; omega) | simp)))
  go_wp2_with fail
  refine (fill_any _ 97 122 _ (by omega) (by omega) (by omega)).mono ?_
  rintro e w1 ⟨rfl, hb⟩
  replace HQ := (show Hid _ from HQ.out.trans (hb.mono (by first | exact HQ.out.size | (have h := HQ.out.size; simp at h; omega) | simp)))
  have HR1 := (show Hid _ from HR.out.trans (HQ.out.mono (by omega)))
  obtain ⟨l0, c0, c1, c2, c3, f0, f1, f2, f3⟩ := HH.out.below HQ.out (by omega)
  generalize hr : spn 65 90 ||| spn 97 122 = r
  have Hr := (show Hid _ from hr)
  clear hr
  go_wp2
  exact bodyPost_ret (v := sv r) (by simp [results, Tryz.results108, go_sem, *]) rfl ⟨by rw [Hr.out], (((HR1.out.setCell (by simp) _).setCell (by simp) _).setCell (by simp) _).setCell (by simp) _⟩

set_option maxHeartbeats 400000 in
theorem lettersDigits_any (w : World) :
    Calls Tryz.prog 112 #[] w fun e w' => e = .returned (sv (spn 65 90 ||| spn 97 122 ||| spn 48 57)) ∧ Below w.heap.size w w' := by
  have HH := (show Hid _ from Holds.zero w)
  have HR := (show Hid _ from below1 w z4)
  have HQ : Hid (Below (w.heap.size + 1) (w.alloc z4) (w.alloc z4)) := Below.refl _ _
  go_enter Tryz.func112, Tryz.ntmps112
  go_wp2_with fail
  refine (letters_any _).mono ?_
  rintro e w1 ⟨rfl, hb⟩
  replace HQ := (show Hid _ from HQ.out.trans (hb.mono (by first | exact HQ.out.size | (have h := HQ.out.size; simp at h; omega) | simp)))
  go_wp2_with fail
  refine (fill_any _ 48 57 _ (by omega) (by omega) (by omega)).mono ?_
  rintro e w1 ⟨rfl, hb⟩
  replace HQ := (show Hid _ from HQ.out.trans (hb.mono (by first | exact HQ.out.size | (have h := HQ.out.size; simp at h; omega) | simp)))
  have HR1 := (show Hid _ from HR.out.trans (HQ.out.mono (by omega)))
  obtain ⟨l0, c0, c1, c2, c3, f0, f1, f2, f3⟩ := HH.out.below HQ.out (by omega)
  generalize hr : spn 65 90 ||| spn 97 122 ||| spn 48 57 = r
  have Hr := (show Hid _ from hr)
  clear hr
  go_wp2
  exact bodyPost_ret (v := sv r) (by simp [results, Tryz.results112, go_sem, *]) rfl ⟨by rw [Hr.out], (((HR1.out.setCell (by simp) _).setCell (by simp) _).setCell (by simp) _).setCell (by simp) _⟩
end Go.Proofs.YthffklhojdldkaaGreatDoor

namespace Go.Proofs.YthffklhojdldkaaGreatDoor
open Go.RowKit Go.Shelf
attribute [local go_sem] Oper.semAt_some
end Go.Proofs.YthffklhojdldkaaGreatDoor
