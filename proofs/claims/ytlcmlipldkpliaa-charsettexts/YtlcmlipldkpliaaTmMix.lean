/- DERIVED. Walks, laid together: Mix0, Mix1, Mix2, Mix3. -/
import Derived.Test.YtlcmlipldkpliaaSlots
import Derived.Test.YtlcmlipldkpliaaWithB
import Derived.Test.YtlcmlipldkpliaaHasA
import Derived.Test.YtlcmlipldkpliaaMixP
namespace Go.Proofs.Ytlcmlipldkpliaa
open Go.RowKit

set_option maxHeartbeats 4000000 in
theorem mix0_any (x y : BitVec 256) (w : World) :
    Calls Try.prog 56 #[.int .i64 0, sv x, sv y] w fun e w' => e = .returned (sv (mixS 0 x y)) ∧ Below w.heap.size w w' := by
  go_enter Try.func56, Try.ntmps56
  go_wp2
  go_loopw [8] (fun t wr => ∃ k : Nat, k ≤ 256 ∧ t = .int .i64 k ∧ Holds wr w.heap.size x ∧ Holds wr (w.heap.size + 1) y ∧ Holds wr (w.heap.size + 1 + 1 + 1) (mixTo 0 x y k) ∧ (∃ z, Holds wr (w.heap.size + 1 + 1) z) ∧ Below w.heap.size w wr) (fun t _ => 256 - (intOf t).toNat)
  case atStart =>
    exact ⟨0, by omega, rfl, mix_start0 w x y, mix_start1 w x y, mix_start3 w x y, ⟨0#256, mix_start2 w x y⟩, mix_startB w x y⟩
  case round =>
    obtain ⟨k, hk, rfl, hx, hy, hm, ⟨z, hz⟩, hbel⟩ := hrel
    have hsz : w.heap.size + 1 + 1 + 1 < wr.heap.size := hm.lt
    have HX := (show Hid _ from hx)
    have HY := (show Hid _ from hy)
    have HM := (show Hid _ from hm)
    have HZ := (show Hid _ from hz)
    have HB := (show Hid _ from hbel)
    by_cases hlt : k < 256
    · have HS := (show Hid _ from mixTo_succ 0 x y k hlt)
      clear hm hz hbel
      obtain ⟨l0, c0, c1, c2, c3, f0, f1, f2, f3⟩ := hx
      obtain ⟨l1, d0, d1, d2, d3, g0, g1, g2, g3⟩ := hy
      have HR : Hid (Below wr.heap.size wr wr) := Below.refl _ _
      have hk0 : (0 : Int) ≤ (k : Int) := by omega
      have hk1 : (k : Int) ≤ 255 := by omega
      cases hxb : hasB x k <;> cases hyb : hasB y k
      · have HE : Hid (mixTo 0 x y (k + 1) = mixTo 0 x y k) := (by have h := HS.out; rw [hxb, hyb, if_neg (by decide)] at h; exact h)
        clear HS
        go_wp2
        go_region_held3 (fun w' => w'.cell? ⟨w.heap.size, 0, none⟩ = some (.int .u64 (wd x 0)) ∧ w'.cell? ⟨w.heap.size, 1, none⟩ = some (.int .u64 (wd x 1)) ∧ w'.cell? ⟨w.heap.size, 2, none⟩ = some (.int .u64 (wd x 2)) ∧ w'.cell? ⟨w.heap.size, 3, none⟩ = some (.int .u64 (wd x 3)) ∧ w'.cell? ⟨w.heap.size + 1, 0, none⟩ = some (.int .u64 (wd y 0)) ∧ w'.cell? ⟨w.heap.size + 1, 1, none⟩ = some (.int .u64 (wd y 1)) ∧ w'.cell? ⟨w.heap.size + 1, 2, none⟩ = some (.int .u64 (wd y 2)) ∧ w'.cell? ⟨w.heap.size + 1, 3, none⟩ = some (.int .u64 (wd y 3))) (first | go_keep | (go_split_ands; refine ⟨?_, ?_, ?_, ?_, ?_, ?_, ?_, ?_⟩ <;> (rw [hb.cell (by simp; omega)]; first | assumption | simp [*]))) ((go_at_call 13; refine (hasR_any _ _ _).mono ?_; rintro e w1 ⟨rfl, hb⟩; have hz1 := hb.size; (try simp at hz1); replace HR : Hid (Below wr.heap.size wr w1) := (by first | exact HR.out.trans (hb.mono (by omega)) | exact HR.out.drew.trans (hb.mono (by simp)))))
        clear c0 c1 c2 c3 f0 f1 f2 f3 d0 d1 d2 d3 g0 g1 g2 g3
        have hM1 := HM.out.below HR.out (by omega)
        have hX1 := (show Hid _ from HX.out.below HR.out (by omega))
        have hY1 := (show Hid _ from HY.out.below HR.out (by omega))
        have hZ1 := (show Hid _ from HZ.out.below HR.out (by omega))
        have hB1 := (show Hid _ from HB.out.trans (HR.out.mono (by omega)))
        clear HM HX HY HZ HB
        generalize mixTo 0 x y k = mm at *
        have HM1 := (show Hid _ from hM1)
        clear hM1
        go_wp2
        go_roundw
        case rel => exact ⟨k + 1, by omega, by go_num, hX1.out, hY1.out, (by rw [HE.out]; exact HM1.out), ⟨z, hZ1.out⟩, hB1.out⟩
        case measure => simp [intOf]; omega
      · have HE : Hid (mixTo 0 x y (k + 1) = mixTo 0 x y k ||| bt k) := (by have h := HS.out; rw [hxb, hyb, if_pos (by decide)] at h; exact h)
        clear HS
        go_wp2
        go_region_held3 (fun w' => w'.cell? ⟨w.heap.size, 0, none⟩ = some (.int .u64 (wd x 0)) ∧ w'.cell? ⟨w.heap.size, 1, none⟩ = some (.int .u64 (wd x 1)) ∧ w'.cell? ⟨w.heap.size, 2, none⟩ = some (.int .u64 (wd x 2)) ∧ w'.cell? ⟨w.heap.size, 3, none⟩ = some (.int .u64 (wd x 3)) ∧ w'.cell? ⟨w.heap.size + 1, 0, none⟩ = some (.int .u64 (wd y 0)) ∧ w'.cell? ⟨w.heap.size + 1, 1, none⟩ = some (.int .u64 (wd y 1)) ∧ w'.cell? ⟨w.heap.size + 1, 2, none⟩ = some (.int .u64 (wd y 2)) ∧ w'.cell? ⟨w.heap.size + 1, 3, none⟩ = some (.int .u64 (wd y 3))) (first | go_keep | (go_split_ands; refine ⟨?_, ?_, ?_, ?_, ?_, ?_, ?_, ?_⟩ <;> (rw [hb.cell (by simp; omega)]; first | assumption | simp [*]))) ((go_at_call 13; refine (hasR_any _ _ _).mono ?_; rintro e w1 ⟨rfl, hb⟩; have hz1 := hb.size; (try simp at hz1); replace HR : Hid (Below wr.heap.size wr w1) := (by first | exact HR.out.trans (hb.mono (by omega)) | exact HR.out.drew.trans (hb.mono (by simp)))))
        clear c0 c1 c2 c3 f0 f1 f2 f3 d0 d1 d2 d3 g0 g1 g2 g3
        have hM1 := HM.out.below HR.out (by omega)
        have hX1 := (show Hid _ from HX.out.below HR.out (by omega))
        have hY1 := (show Hid _ from HY.out.below HR.out (by omega))
        have hZ1 := (show Hid _ from HZ.out.below HR.out (by omega))
        have hB1 := (show Hid _ from HB.out.trans (HR.out.mono (by omega)))
        clear HM HX HY HZ HB
        generalize mixTo 0 x y k = mm at *
        have HM1 := (show Hid _ from hM1)
        obtain ⟨l5, c0, c1, c2, c3, f0, f1, f2, f3⟩ := hM1
        go_wp2_with fail
        refine (withR_any mm k _ (by omega) (by omega)).mono ?_
        rintro e w2 ⟨rfl, hb2⟩
        clear c0 c1 c2 c3 f0 f1 f2 f3
        obtain ⟨l5, c0, c1, c2, c3, f0, f1, f2, f3⟩ := HM1.out.below hb2 l5
        go_wp2
        go_roundw
        case rel =>
          refine ⟨k + 1, by omega, by go_num, (hX1.out.below hb2 (by omega)).put_other (by omega) _, (hY1.out.below hb2 (by omega)).put_other (by omega) _, ?_, ⟨z, (hZ1.out.below hb2 (by omega)).put_other (by omega) _⟩, ?_⟩
          · rw [HE.out]; exact (HM1.out.below hb2 (by omega)).put _
          · exact ((((hB1.out.trans (hb2.mono (by omega))).setCell (by simp; omega) _).setCell (by simp; omega) _).setCell (by simp; omega) _).setCell (by simp; omega) _
        case measure => simp [intOf]; omega
      · have HE : Hid (mixTo 0 x y (k + 1) = mixTo 0 x y k ||| bt k) := (by have h := HS.out; rw [hxb, hyb, if_pos (by decide)] at h; exact h)
        clear HS
        go_wp2
        go_region_held3 (fun w' => w'.cell? ⟨w.heap.size, 0, none⟩ = some (.int .u64 (wd x 0)) ∧ w'.cell? ⟨w.heap.size, 1, none⟩ = some (.int .u64 (wd x 1)) ∧ w'.cell? ⟨w.heap.size, 2, none⟩ = some (.int .u64 (wd x 2)) ∧ w'.cell? ⟨w.heap.size, 3, none⟩ = some (.int .u64 (wd x 3)) ∧ w'.cell? ⟨w.heap.size + 1, 0, none⟩ = some (.int .u64 (wd y 0)) ∧ w'.cell? ⟨w.heap.size + 1, 1, none⟩ = some (.int .u64 (wd y 1)) ∧ w'.cell? ⟨w.heap.size + 1, 2, none⟩ = some (.int .u64 (wd y 2)) ∧ w'.cell? ⟨w.heap.size + 1, 3, none⟩ = some (.int .u64 (wd y 3))) (first | go_keep | (go_split_ands; refine ⟨?_, ?_, ?_, ?_, ?_, ?_, ?_, ?_⟩ <;> (rw [hb.cell (by simp; omega)]; first | assumption | simp [*]))) ((go_at_call 13; refine (hasR_any _ _ _).mono ?_; rintro e w1 ⟨rfl, hb⟩; have hz1 := hb.size; (try simp at hz1); replace HR : Hid (Below wr.heap.size wr w1) := (by first | exact HR.out.trans (hb.mono (by omega)) | exact HR.out.drew.trans (hb.mono (by simp)))))
        clear c0 c1 c2 c3 f0 f1 f2 f3 d0 d1 d2 d3 g0 g1 g2 g3
        have hM1 := HM.out.below HR.out (by omega)
        have hX1 := (show Hid _ from HX.out.below HR.out (by omega))
        have hY1 := (show Hid _ from HY.out.below HR.out (by omega))
        have hZ1 := (show Hid _ from HZ.out.below HR.out (by omega))
        have hB1 := (show Hid _ from HB.out.trans (HR.out.mono (by omega)))
        clear HM HX HY HZ HB
        generalize mixTo 0 x y k = mm at *
        have HM1 := (show Hid _ from hM1)
        obtain ⟨l5, c0, c1, c2, c3, f0, f1, f2, f3⟩ := hM1
        go_wp2_with fail
        refine (withR_any mm k _ (by omega) (by omega)).mono ?_
        rintro e w2 ⟨rfl, hb2⟩
        clear c0 c1 c2 c3 f0 f1 f2 f3
        obtain ⟨l5, c0, c1, c2, c3, f0, f1, f2, f3⟩ := HM1.out.below hb2 l5
        go_wp2
        go_roundw
        case rel =>
          refine ⟨k + 1, by omega, by go_num, (hX1.out.below hb2 (by omega)).put_other (by omega) _, (hY1.out.below hb2 (by omega)).put_other (by omega) _, ?_, ⟨z, (hZ1.out.below hb2 (by omega)).put_other (by omega) _⟩, ?_⟩
          · rw [HE.out]; exact (HM1.out.below hb2 (by omega)).put _
          · exact ((((hB1.out.trans (hb2.mono (by omega))).setCell (by simp; omega) _).setCell (by simp; omega) _).setCell (by simp; omega) _).setCell (by simp; omega) _
        case measure => simp [intOf]; omega
      · have HE : Hid (mixTo 0 x y (k + 1) = mixTo 0 x y k ||| bt k) := (by have h := HS.out; rw [hxb, hyb, if_pos (by decide)] at h; exact h)
        clear HS
        go_wp2
        go_region_held3 (fun w' => w'.cell? ⟨w.heap.size, 0, none⟩ = some (.int .u64 (wd x 0)) ∧ w'.cell? ⟨w.heap.size, 1, none⟩ = some (.int .u64 (wd x 1)) ∧ w'.cell? ⟨w.heap.size, 2, none⟩ = some (.int .u64 (wd x 2)) ∧ w'.cell? ⟨w.heap.size, 3, none⟩ = some (.int .u64 (wd x 3)) ∧ w'.cell? ⟨w.heap.size + 1, 0, none⟩ = some (.int .u64 (wd y 0)) ∧ w'.cell? ⟨w.heap.size + 1, 1, none⟩ = some (.int .u64 (wd y 1)) ∧ w'.cell? ⟨w.heap.size + 1, 2, none⟩ = some (.int .u64 (wd y 2)) ∧ w'.cell? ⟨w.heap.size + 1, 3, none⟩ = some (.int .u64 (wd y 3))) (first | go_keep | (go_split_ands; refine ⟨?_, ?_, ?_, ?_, ?_, ?_, ?_, ?_⟩ <;> (rw [hb.cell (by simp; omega)]; first | assumption | simp [*]))) ((go_at_call 13; refine (hasR_any _ _ _).mono ?_; rintro e w1 ⟨rfl, hb⟩; have hz1 := hb.size; (try simp at hz1); replace HR : Hid (Below wr.heap.size wr w1) := (by first | exact HR.out.trans (hb.mono (by omega)) | exact HR.out.drew.trans (hb.mono (by simp)))))
        clear c0 c1 c2 c3 f0 f1 f2 f3 d0 d1 d2 d3 g0 g1 g2 g3
        have hM1 := HM.out.below HR.out (by omega)
        have hX1 := (show Hid _ from HX.out.below HR.out (by omega))
        have hY1 := (show Hid _ from HY.out.below HR.out (by omega))
        have hZ1 := (show Hid _ from HZ.out.below HR.out (by omega))
        have hB1 := (show Hid _ from HB.out.trans (HR.out.mono (by omega)))
        clear HM HX HY HZ HB
        generalize mixTo 0 x y k = mm at *
        have HM1 := (show Hid _ from hM1)
        obtain ⟨l5, c0, c1, c2, c3, f0, f1, f2, f3⟩ := hM1
        go_wp2_with fail
        refine (withR_any mm k _ (by omega) (by omega)).mono ?_
        rintro e w2 ⟨rfl, hb2⟩
        clear c0 c1 c2 c3 f0 f1 f2 f3
        obtain ⟨l5, c0, c1, c2, c3, f0, f1, f2, f3⟩ := HM1.out.below hb2 l5
        go_wp2
        go_roundw
        case rel =>
          refine ⟨k + 1, by omega, by go_num, (hX1.out.below hb2 (by omega)).put_other (by omega) _, (hY1.out.below hb2 (by omega)).put_other (by omega) _, ?_, ⟨z, (hZ1.out.below hb2 (by omega)).put_other (by omega) _⟩, ?_⟩
          · rw [HE.out]; exact (HM1.out.below hb2 (by omega)).put _
          · exact ((((hB1.out.trans (hb2.mono (by omega))).setCell (by simp; omega) _).setCell (by simp; omega) _).setCell (by simp; omega) _).setCell (by simp; omega) _
        case measure => simp [intOf]; omega
    · have hke : k = 256 := by omega
      subst hke
      clear hx hy hbel
      have HQ : Hid (mixTo 0 x y 256 = mixS 0 x y) := rfl
      generalize mixTo 0 x y 256 = mm at *
      obtain ⟨l0, c0, c1, c2, c3, f0, f1, f2, f3⟩ := hm
      obtain ⟨l1, d0, d1, d2, d3, g0, g1, g2, g3⟩ := hz
      go_wp2
      rw [← HQ.out]
      refine bodyPost_ret (v := sv mm) (by simp [results, Try.results56, go_sem, *]) rfl ⟨rfl, ?_⟩
      exact (((HB.out.setCell (by simp; omega) _).setCell (by simp; omega) _).setCell (by simp; omega) _).setCell (by simp; omega) _
end Go.Proofs.Ytlcmlipldkpliaa

namespace Go.Proofs.Ytlcmlipldkpliaa
open Go.RowKit

set_option maxHeartbeats 4000000 in
theorem mix1_any (x y : BitVec 256) (w : World) :
    Calls Try.prog 56 #[.int .i64 1, sv x, sv y] w fun e w' => e = .returned (sv (mixS 1 x y)) ∧ Below w.heap.size w w' := by
  go_enter Try.func56, Try.ntmps56
  go_wp2
  go_loopw [8] (fun t wr => ∃ k : Nat, k ≤ 256 ∧ t = .int .i64 k ∧ Holds wr w.heap.size x ∧ Holds wr (w.heap.size + 1) y ∧ Holds wr (w.heap.size + 1 + 1 + 1) (mixTo 1 x y k) ∧ (∃ z, Holds wr (w.heap.size + 1 + 1) z) ∧ Below w.heap.size w wr) (fun t _ => 256 - (intOf t).toNat)
  case atStart =>
    exact ⟨0, by omega, rfl, mix_start0 w x y, mix_start1 w x y, mix_start3 w x y, ⟨0#256, mix_start2 w x y⟩, mix_startB w x y⟩
  case round =>
    obtain ⟨k, hk, rfl, hx, hy, hm, ⟨z, hz⟩, hbel⟩ := hrel
    have hsz : w.heap.size + 1 + 1 + 1 < wr.heap.size := hm.lt
    have HX := (show Hid _ from hx)
    have HY := (show Hid _ from hy)
    have HM := (show Hid _ from hm)
    have HZ := (show Hid _ from hz)
    have HB := (show Hid _ from hbel)
    by_cases hlt : k < 256
    · have HS := (show Hid _ from mixTo_succ 1 x y k hlt)
      clear hm hz hbel
      obtain ⟨l0, c0, c1, c2, c3, f0, f1, f2, f3⟩ := hx
      obtain ⟨l1, d0, d1, d2, d3, g0, g1, g2, g3⟩ := hy
      have HR : Hid (Below wr.heap.size wr wr) := Below.refl _ _
      have hk0 : (0 : Int) ≤ (k : Int) := by omega
      have hk1 : (k : Int) ≤ 255 := by omega
      cases hxb : hasB x k <;> cases hyb : hasB y k
      · have HE : Hid (mixTo 1 x y (k + 1) = mixTo 1 x y k) := (by have h := HS.out; rw [hxb, hyb, if_neg (by decide)] at h; exact h)
        clear HS
        go_wp2
        go_region_held3 (fun w' => w'.cell? ⟨w.heap.size, 0, none⟩ = some (.int .u64 (wd x 0)) ∧ w'.cell? ⟨w.heap.size, 1, none⟩ = some (.int .u64 (wd x 1)) ∧ w'.cell? ⟨w.heap.size, 2, none⟩ = some (.int .u64 (wd x 2)) ∧ w'.cell? ⟨w.heap.size, 3, none⟩ = some (.int .u64 (wd x 3)) ∧ w'.cell? ⟨w.heap.size + 1, 0, none⟩ = some (.int .u64 (wd y 0)) ∧ w'.cell? ⟨w.heap.size + 1, 1, none⟩ = some (.int .u64 (wd y 1)) ∧ w'.cell? ⟨w.heap.size + 1, 2, none⟩ = some (.int .u64 (wd y 2)) ∧ w'.cell? ⟨w.heap.size + 1, 3, none⟩ = some (.int .u64 (wd y 3))) (first | go_keep | (go_split_ands; refine ⟨?_, ?_, ?_, ?_, ?_, ?_, ?_, ?_⟩ <;> (rw [hb.cell (by simp; omega)]; first | assumption | simp [*]))) ((go_at_call 13; refine (hasR_any _ _ _).mono ?_; rintro e w1 ⟨rfl, hb⟩; have hz1 := hb.size; (try simp at hz1); replace HR : Hid (Below wr.heap.size wr w1) := (by first | exact HR.out.trans (hb.mono (by omega)) | exact HR.out.drew.trans (hb.mono (by simp)))))
        clear c0 c1 c2 c3 f0 f1 f2 f3 d0 d1 d2 d3 g0 g1 g2 g3
        have hM1 := HM.out.below HR.out (by omega)
        have hX1 := (show Hid _ from HX.out.below HR.out (by omega))
        have hY1 := (show Hid _ from HY.out.below HR.out (by omega))
        have hZ1 := (show Hid _ from HZ.out.below HR.out (by omega))
        have hB1 := (show Hid _ from HB.out.trans (HR.out.mono (by omega)))
        clear HM HX HY HZ HB
        generalize mixTo 1 x y k = mm at *
        have HM1 := (show Hid _ from hM1)
        clear hM1
        go_wp2
        go_roundw
        case rel => exact ⟨k + 1, by omega, by go_num, hX1.out, hY1.out, (by rw [HE.out]; exact HM1.out), ⟨z, hZ1.out⟩, hB1.out⟩
        case measure => simp [intOf]; omega
      · have HE : Hid (mixTo 1 x y (k + 1) = mixTo 1 x y k) := (by have h := HS.out; rw [hxb, hyb, if_neg (by decide)] at h; exact h)
        clear HS
        go_wp2
        go_region_held3 (fun w' => w'.cell? ⟨w.heap.size, 0, none⟩ = some (.int .u64 (wd x 0)) ∧ w'.cell? ⟨w.heap.size, 1, none⟩ = some (.int .u64 (wd x 1)) ∧ w'.cell? ⟨w.heap.size, 2, none⟩ = some (.int .u64 (wd x 2)) ∧ w'.cell? ⟨w.heap.size, 3, none⟩ = some (.int .u64 (wd x 3)) ∧ w'.cell? ⟨w.heap.size + 1, 0, none⟩ = some (.int .u64 (wd y 0)) ∧ w'.cell? ⟨w.heap.size + 1, 1, none⟩ = some (.int .u64 (wd y 1)) ∧ w'.cell? ⟨w.heap.size + 1, 2, none⟩ = some (.int .u64 (wd y 2)) ∧ w'.cell? ⟨w.heap.size + 1, 3, none⟩ = some (.int .u64 (wd y 3))) (first | go_keep | (go_split_ands; refine ⟨?_, ?_, ?_, ?_, ?_, ?_, ?_, ?_⟩ <;> (rw [hb.cell (by simp; omega)]; first | assumption | simp [*]))) ((go_at_call 13; refine (hasR_any _ _ _).mono ?_; rintro e w1 ⟨rfl, hb⟩; have hz1 := hb.size; (try simp at hz1); replace HR : Hid (Below wr.heap.size wr w1) := (by first | exact HR.out.trans (hb.mono (by omega)) | exact HR.out.drew.trans (hb.mono (by simp)))))
        clear c0 c1 c2 c3 f0 f1 f2 f3 d0 d1 d2 d3 g0 g1 g2 g3
        have hM1 := HM.out.below HR.out (by omega)
        have hX1 := (show Hid _ from HX.out.below HR.out (by omega))
        have hY1 := (show Hid _ from HY.out.below HR.out (by omega))
        have hZ1 := (show Hid _ from HZ.out.below HR.out (by omega))
        have hB1 := (show Hid _ from HB.out.trans (HR.out.mono (by omega)))
        clear HM HX HY HZ HB
        generalize mixTo 1 x y k = mm at *
        have HM1 := (show Hid _ from hM1)
        clear hM1
        go_wp2
        go_roundw
        case rel => exact ⟨k + 1, by omega, by go_num, hX1.out, hY1.out, (by rw [HE.out]; exact HM1.out), ⟨z, hZ1.out⟩, hB1.out⟩
        case measure => simp [intOf]; omega
      · have HE : Hid (mixTo 1 x y (k + 1) = mixTo 1 x y k) := (by have h := HS.out; rw [hxb, hyb, if_neg (by decide)] at h; exact h)
        clear HS
        go_wp2
        go_region_held3 (fun w' => w'.cell? ⟨w.heap.size, 0, none⟩ = some (.int .u64 (wd x 0)) ∧ w'.cell? ⟨w.heap.size, 1, none⟩ = some (.int .u64 (wd x 1)) ∧ w'.cell? ⟨w.heap.size, 2, none⟩ = some (.int .u64 (wd x 2)) ∧ w'.cell? ⟨w.heap.size, 3, none⟩ = some (.int .u64 (wd x 3)) ∧ w'.cell? ⟨w.heap.size + 1, 0, none⟩ = some (.int .u64 (wd y 0)) ∧ w'.cell? ⟨w.heap.size + 1, 1, none⟩ = some (.int .u64 (wd y 1)) ∧ w'.cell? ⟨w.heap.size + 1, 2, none⟩ = some (.int .u64 (wd y 2)) ∧ w'.cell? ⟨w.heap.size + 1, 3, none⟩ = some (.int .u64 (wd y 3))) (first | go_keep | (go_split_ands; refine ⟨?_, ?_, ?_, ?_, ?_, ?_, ?_, ?_⟩ <;> (rw [hb.cell (by simp; omega)]; first | assumption | simp [*]))) ((go_at_call 13; refine (hasR_any _ _ _).mono ?_; rintro e w1 ⟨rfl, hb⟩; have hz1 := hb.size; (try simp at hz1); replace HR : Hid (Below wr.heap.size wr w1) := (by first | exact HR.out.trans (hb.mono (by omega)) | exact HR.out.drew.trans (hb.mono (by simp)))))
        clear c0 c1 c2 c3 f0 f1 f2 f3 d0 d1 d2 d3 g0 g1 g2 g3
        have hM1 := HM.out.below HR.out (by omega)
        have hX1 := (show Hid _ from HX.out.below HR.out (by omega))
        have hY1 := (show Hid _ from HY.out.below HR.out (by omega))
        have hZ1 := (show Hid _ from HZ.out.below HR.out (by omega))
        have hB1 := (show Hid _ from HB.out.trans (HR.out.mono (by omega)))
        clear HM HX HY HZ HB
        generalize mixTo 1 x y k = mm at *
        have HM1 := (show Hid _ from hM1)
        clear hM1
        go_wp2
        go_roundw
        case rel => exact ⟨k + 1, by omega, by go_num, hX1.out, hY1.out, (by rw [HE.out]; exact HM1.out), ⟨z, hZ1.out⟩, hB1.out⟩
        case measure => simp [intOf]; omega
      · have HE : Hid (mixTo 1 x y (k + 1) = mixTo 1 x y k ||| bt k) := (by have h := HS.out; rw [hxb, hyb, if_pos (by decide)] at h; exact h)
        clear HS
        go_wp2
        go_region_held3 (fun w' => w'.cell? ⟨w.heap.size, 0, none⟩ = some (.int .u64 (wd x 0)) ∧ w'.cell? ⟨w.heap.size, 1, none⟩ = some (.int .u64 (wd x 1)) ∧ w'.cell? ⟨w.heap.size, 2, none⟩ = some (.int .u64 (wd x 2)) ∧ w'.cell? ⟨w.heap.size, 3, none⟩ = some (.int .u64 (wd x 3)) ∧ w'.cell? ⟨w.heap.size + 1, 0, none⟩ = some (.int .u64 (wd y 0)) ∧ w'.cell? ⟨w.heap.size + 1, 1, none⟩ = some (.int .u64 (wd y 1)) ∧ w'.cell? ⟨w.heap.size + 1, 2, none⟩ = some (.int .u64 (wd y 2)) ∧ w'.cell? ⟨w.heap.size + 1, 3, none⟩ = some (.int .u64 (wd y 3))) (first | go_keep | (go_split_ands; refine ⟨?_, ?_, ?_, ?_, ?_, ?_, ?_, ?_⟩ <;> (rw [hb.cell (by simp; omega)]; first | assumption | simp [*]))) ((go_at_call 13; refine (hasR_any _ _ _).mono ?_; rintro e w1 ⟨rfl, hb⟩; have hz1 := hb.size; (try simp at hz1); replace HR : Hid (Below wr.heap.size wr w1) := (by first | exact HR.out.trans (hb.mono (by omega)) | exact HR.out.drew.trans (hb.mono (by simp)))))
        clear c0 c1 c2 c3 f0 f1 f2 f3 d0 d1 d2 d3 g0 g1 g2 g3
        have hM1 := HM.out.below HR.out (by omega)
        have hX1 := (show Hid _ from HX.out.below HR.out (by omega))
        have hY1 := (show Hid _ from HY.out.below HR.out (by omega))
        have hZ1 := (show Hid _ from HZ.out.below HR.out (by omega))
        have hB1 := (show Hid _ from HB.out.trans (HR.out.mono (by omega)))
        clear HM HX HY HZ HB
        generalize mixTo 1 x y k = mm at *
        have HM1 := (show Hid _ from hM1)
        obtain ⟨l5, c0, c1, c2, c3, f0, f1, f2, f3⟩ := hM1
        go_wp2_with fail
        refine (withR_any mm k _ (by omega) (by omega)).mono ?_
        rintro e w2 ⟨rfl, hb2⟩
        clear c0 c1 c2 c3 f0 f1 f2 f3
        obtain ⟨l5, c0, c1, c2, c3, f0, f1, f2, f3⟩ := HM1.out.below hb2 l5
        go_wp2
        go_roundw
        case rel =>
          refine ⟨k + 1, by omega, by go_num, (hX1.out.below hb2 (by omega)).put_other (by omega) _, (hY1.out.below hb2 (by omega)).put_other (by omega) _, ?_, ⟨z, (hZ1.out.below hb2 (by omega)).put_other (by omega) _⟩, ?_⟩
          · rw [HE.out]; exact (HM1.out.below hb2 (by omega)).put _
          · exact ((((hB1.out.trans (hb2.mono (by omega))).setCell (by simp; omega) _).setCell (by simp; omega) _).setCell (by simp; omega) _).setCell (by simp; omega) _
        case measure => simp [intOf]; omega
    · have hke : k = 256 := by omega
      subst hke
      clear hx hy hbel
      have HQ : Hid (mixTo 1 x y 256 = mixS 1 x y) := rfl
      generalize mixTo 1 x y 256 = mm at *
      obtain ⟨l0, c0, c1, c2, c3, f0, f1, f2, f3⟩ := hm
      obtain ⟨l1, d0, d1, d2, d3, g0, g1, g2, g3⟩ := hz
      go_wp2
      rw [← HQ.out]
      refine bodyPost_ret (v := sv mm) (by simp [results, Try.results56, go_sem, *]) rfl ⟨rfl, ?_⟩
      exact (((HB.out.setCell (by simp; omega) _).setCell (by simp; omega) _).setCell (by simp; omega) _).setCell (by simp; omega) _
end Go.Proofs.Ytlcmlipldkpliaa

namespace Go.Proofs.Ytlcmlipldkpliaa
open Go.RowKit

set_option maxHeartbeats 4000000 in
theorem mix2_any (x y : BitVec 256) (w : World) :
    Calls Try.prog 56 #[.int .i64 2, sv x, sv y] w fun e w' => e = .returned (sv (mixS 2 x y)) ∧ Below w.heap.size w w' := by
  go_enter Try.func56, Try.ntmps56
  go_wp2
  go_loopw [8] (fun t wr => ∃ k : Nat, k ≤ 256 ∧ t = .int .i64 k ∧ Holds wr w.heap.size x ∧ Holds wr (w.heap.size + 1) y ∧ Holds wr (w.heap.size + 1 + 1 + 1) (mixTo 2 x y k) ∧ (∃ z, Holds wr (w.heap.size + 1 + 1) z) ∧ Below w.heap.size w wr) (fun t _ => 256 - (intOf t).toNat)
  case atStart =>
    exact ⟨0, by omega, rfl, mix_start0 w x y, mix_start1 w x y, mix_start3 w x y, ⟨0#256, mix_start2 w x y⟩, mix_startB w x y⟩
  case round =>
    obtain ⟨k, hk, rfl, hx, hy, hm, ⟨z, hz⟩, hbel⟩ := hrel
    have hsz : w.heap.size + 1 + 1 + 1 < wr.heap.size := hm.lt
    have HX := (show Hid _ from hx)
    have HY := (show Hid _ from hy)
    have HM := (show Hid _ from hm)
    have HZ := (show Hid _ from hz)
    have HB := (show Hid _ from hbel)
    by_cases hlt : k < 256
    · have HS := (show Hid _ from mixTo_succ 2 x y k hlt)
      clear hm hz hbel
      obtain ⟨l0, c0, c1, c2, c3, f0, f1, f2, f3⟩ := hx
      obtain ⟨l1, d0, d1, d2, d3, g0, g1, g2, g3⟩ := hy
      have HR : Hid (Below wr.heap.size wr wr) := Below.refl _ _
      have hk0 : (0 : Int) ≤ (k : Int) := by omega
      have hk1 : (k : Int) ≤ 255 := by omega
      cases hxb : hasB x k <;> cases hyb : hasB y k
      · have HE : Hid (mixTo 2 x y (k + 1) = mixTo 2 x y k) := (by have h := HS.out; rw [hxb, hyb, if_neg (by decide)] at h; exact h)
        clear HS
        go_wp2
        go_region_held3 (fun w' => w'.cell? ⟨w.heap.size, 0, none⟩ = some (.int .u64 (wd x 0)) ∧ w'.cell? ⟨w.heap.size, 1, none⟩ = some (.int .u64 (wd x 1)) ∧ w'.cell? ⟨w.heap.size, 2, none⟩ = some (.int .u64 (wd x 2)) ∧ w'.cell? ⟨w.heap.size, 3, none⟩ = some (.int .u64 (wd x 3)) ∧ w'.cell? ⟨w.heap.size + 1, 0, none⟩ = some (.int .u64 (wd y 0)) ∧ w'.cell? ⟨w.heap.size + 1, 1, none⟩ = some (.int .u64 (wd y 1)) ∧ w'.cell? ⟨w.heap.size + 1, 2, none⟩ = some (.int .u64 (wd y 2)) ∧ w'.cell? ⟨w.heap.size + 1, 3, none⟩ = some (.int .u64 (wd y 3))) (first | go_keep | (go_split_ands; refine ⟨?_, ?_, ?_, ?_, ?_, ?_, ?_, ?_⟩ <;> (rw [hb.cell (by simp; omega)]; first | assumption | simp [*]))) ((go_at_call 13; refine (hasR_any _ _ _).mono ?_; rintro e w1 ⟨rfl, hb⟩; have hz1 := hb.size; (try simp at hz1); replace HR : Hid (Below wr.heap.size wr w1) := (by first | exact HR.out.trans (hb.mono (by omega)) | exact HR.out.drew.trans (hb.mono (by simp)))))
        clear c0 c1 c2 c3 f0 f1 f2 f3 d0 d1 d2 d3 g0 g1 g2 g3
        have hM1 := HM.out.below HR.out (by omega)
        have hX1 := (show Hid _ from HX.out.below HR.out (by omega))
        have hY1 := (show Hid _ from HY.out.below HR.out (by omega))
        have hZ1 := (show Hid _ from HZ.out.below HR.out (by omega))
        have hB1 := (show Hid _ from HB.out.trans (HR.out.mono (by omega)))
        clear HM HX HY HZ HB
        generalize mixTo 2 x y k = mm at *
        have HM1 := (show Hid _ from hM1)
        clear hM1
        go_wp2
        go_roundw
        case rel => exact ⟨k + 1, by omega, by go_num, hX1.out, hY1.out, (by rw [HE.out]; exact HM1.out), ⟨z, hZ1.out⟩, hB1.out⟩
        case measure => simp [intOf]; omega
      · have HE : Hid (mixTo 2 x y (k + 1) = mixTo 2 x y k) := (by have h := HS.out; rw [hxb, hyb, if_neg (by decide)] at h; exact h)
        clear HS
        go_wp2
        go_region_held3 (fun w' => w'.cell? ⟨w.heap.size, 0, none⟩ = some (.int .u64 (wd x 0)) ∧ w'.cell? ⟨w.heap.size, 1, none⟩ = some (.int .u64 (wd x 1)) ∧ w'.cell? ⟨w.heap.size, 2, none⟩ = some (.int .u64 (wd x 2)) ∧ w'.cell? ⟨w.heap.size, 3, none⟩ = some (.int .u64 (wd x 3)) ∧ w'.cell? ⟨w.heap.size + 1, 0, none⟩ = some (.int .u64 (wd y 0)) ∧ w'.cell? ⟨w.heap.size + 1, 1, none⟩ = some (.int .u64 (wd y 1)) ∧ w'.cell? ⟨w.heap.size + 1, 2, none⟩ = some (.int .u64 (wd y 2)) ∧ w'.cell? ⟨w.heap.size + 1, 3, none⟩ = some (.int .u64 (wd y 3))) (first | go_keep | (go_split_ands; refine ⟨?_, ?_, ?_, ?_, ?_, ?_, ?_, ?_⟩ <;> (rw [hb.cell (by simp; omega)]; first | assumption | simp [*]))) ((go_at_call 13; refine (hasR_any _ _ _).mono ?_; rintro e w1 ⟨rfl, hb⟩; have hz1 := hb.size; (try simp at hz1); replace HR : Hid (Below wr.heap.size wr w1) := (by first | exact HR.out.trans (hb.mono (by omega)) | exact HR.out.drew.trans (hb.mono (by simp)))))
        clear c0 c1 c2 c3 f0 f1 f2 f3 d0 d1 d2 d3 g0 g1 g2 g3
        have hM1 := HM.out.below HR.out (by omega)
        have hX1 := (show Hid _ from HX.out.below HR.out (by omega))
        have hY1 := (show Hid _ from HY.out.below HR.out (by omega))
        have hZ1 := (show Hid _ from HZ.out.below HR.out (by omega))
        have hB1 := (show Hid _ from HB.out.trans (HR.out.mono (by omega)))
        clear HM HX HY HZ HB
        generalize mixTo 2 x y k = mm at *
        have HM1 := (show Hid _ from hM1)
        clear hM1
        go_wp2
        go_roundw
        case rel => exact ⟨k + 1, by omega, by go_num, hX1.out, hY1.out, (by rw [HE.out]; exact HM1.out), ⟨z, hZ1.out⟩, hB1.out⟩
        case measure => simp [intOf]; omega
      · have HE : Hid (mixTo 2 x y (k + 1) = mixTo 2 x y k ||| bt k) := (by have h := HS.out; rw [hxb, hyb, if_pos (by decide)] at h; exact h)
        clear HS
        go_wp2
        go_region_held3 (fun w' => w'.cell? ⟨w.heap.size, 0, none⟩ = some (.int .u64 (wd x 0)) ∧ w'.cell? ⟨w.heap.size, 1, none⟩ = some (.int .u64 (wd x 1)) ∧ w'.cell? ⟨w.heap.size, 2, none⟩ = some (.int .u64 (wd x 2)) ∧ w'.cell? ⟨w.heap.size, 3, none⟩ = some (.int .u64 (wd x 3)) ∧ w'.cell? ⟨w.heap.size + 1, 0, none⟩ = some (.int .u64 (wd y 0)) ∧ w'.cell? ⟨w.heap.size + 1, 1, none⟩ = some (.int .u64 (wd y 1)) ∧ w'.cell? ⟨w.heap.size + 1, 2, none⟩ = some (.int .u64 (wd y 2)) ∧ w'.cell? ⟨w.heap.size + 1, 3, none⟩ = some (.int .u64 (wd y 3))) (first | go_keep | (go_split_ands; refine ⟨?_, ?_, ?_, ?_, ?_, ?_, ?_, ?_⟩ <;> (rw [hb.cell (by simp; omega)]; first | assumption | simp [*]))) ((go_at_call 13; refine (hasR_any _ _ _).mono ?_; rintro e w1 ⟨rfl, hb⟩; have hz1 := hb.size; (try simp at hz1); replace HR : Hid (Below wr.heap.size wr w1) := (by first | exact HR.out.trans (hb.mono (by omega)) | exact HR.out.drew.trans (hb.mono (by simp)))))
        clear c0 c1 c2 c3 f0 f1 f2 f3 d0 d1 d2 d3 g0 g1 g2 g3
        have hM1 := HM.out.below HR.out (by omega)
        have hX1 := (show Hid _ from HX.out.below HR.out (by omega))
        have hY1 := (show Hid _ from HY.out.below HR.out (by omega))
        have hZ1 := (show Hid _ from HZ.out.below HR.out (by omega))
        have hB1 := (show Hid _ from HB.out.trans (HR.out.mono (by omega)))
        clear HM HX HY HZ HB
        generalize mixTo 2 x y k = mm at *
        have HM1 := (show Hid _ from hM1)
        obtain ⟨l5, c0, c1, c2, c3, f0, f1, f2, f3⟩ := hM1
        go_wp2_with fail
        refine (withR_any mm k _ (by omega) (by omega)).mono ?_
        rintro e w2 ⟨rfl, hb2⟩
        clear c0 c1 c2 c3 f0 f1 f2 f3
        obtain ⟨l5, c0, c1, c2, c3, f0, f1, f2, f3⟩ := HM1.out.below hb2 l5
        go_wp2
        go_roundw
        case rel =>
          refine ⟨k + 1, by omega, by go_num, (hX1.out.below hb2 (by omega)).put_other (by omega) _, (hY1.out.below hb2 (by omega)).put_other (by omega) _, ?_, ⟨z, (hZ1.out.below hb2 (by omega)).put_other (by omega) _⟩, ?_⟩
          · rw [HE.out]; exact (HM1.out.below hb2 (by omega)).put _
          · exact ((((hB1.out.trans (hb2.mono (by omega))).setCell (by simp; omega) _).setCell (by simp; omega) _).setCell (by simp; omega) _).setCell (by simp; omega) _
        case measure => simp [intOf]; omega
      · have HE : Hid (mixTo 2 x y (k + 1) = mixTo 2 x y k) := (by have h := HS.out; rw [hxb, hyb, if_neg (by decide)] at h; exact h)
        clear HS
        go_wp2
        go_region_held3 (fun w' => w'.cell? ⟨w.heap.size, 0, none⟩ = some (.int .u64 (wd x 0)) ∧ w'.cell? ⟨w.heap.size, 1, none⟩ = some (.int .u64 (wd x 1)) ∧ w'.cell? ⟨w.heap.size, 2, none⟩ = some (.int .u64 (wd x 2)) ∧ w'.cell? ⟨w.heap.size, 3, none⟩ = some (.int .u64 (wd x 3)) ∧ w'.cell? ⟨w.heap.size + 1, 0, none⟩ = some (.int .u64 (wd y 0)) ∧ w'.cell? ⟨w.heap.size + 1, 1, none⟩ = some (.int .u64 (wd y 1)) ∧ w'.cell? ⟨w.heap.size + 1, 2, none⟩ = some (.int .u64 (wd y 2)) ∧ w'.cell? ⟨w.heap.size + 1, 3, none⟩ = some (.int .u64 (wd y 3))) (first | go_keep | (go_split_ands; refine ⟨?_, ?_, ?_, ?_, ?_, ?_, ?_, ?_⟩ <;> (rw [hb.cell (by simp; omega)]; first | assumption | simp [*]))) ((go_at_call 13; refine (hasR_any _ _ _).mono ?_; rintro e w1 ⟨rfl, hb⟩; have hz1 := hb.size; (try simp at hz1); replace HR : Hid (Below wr.heap.size wr w1) := (by first | exact HR.out.trans (hb.mono (by omega)) | exact HR.out.drew.trans (hb.mono (by simp)))))
        clear c0 c1 c2 c3 f0 f1 f2 f3 d0 d1 d2 d3 g0 g1 g2 g3
        have hM1 := HM.out.below HR.out (by omega)
        have hX1 := (show Hid _ from HX.out.below HR.out (by omega))
        have hY1 := (show Hid _ from HY.out.below HR.out (by omega))
        have hZ1 := (show Hid _ from HZ.out.below HR.out (by omega))
        have hB1 := (show Hid _ from HB.out.trans (HR.out.mono (by omega)))
        clear HM HX HY HZ HB
        generalize mixTo 2 x y k = mm at *
        have HM1 := (show Hid _ from hM1)
        clear hM1
        go_wp2
        go_roundw
        case rel => exact ⟨k + 1, by omega, by go_num, hX1.out, hY1.out, (by rw [HE.out]; exact HM1.out), ⟨z, hZ1.out⟩, hB1.out⟩
        case measure => simp [intOf]; omega
    · have hke : k = 256 := by omega
      subst hke
      clear hx hy hbel
      have HQ : Hid (mixTo 2 x y 256 = mixS 2 x y) := rfl
      generalize mixTo 2 x y 256 = mm at *
      obtain ⟨l0, c0, c1, c2, c3, f0, f1, f2, f3⟩ := hm
      obtain ⟨l1, d0, d1, d2, d3, g0, g1, g2, g3⟩ := hz
      go_wp2
      rw [← HQ.out]
      refine bodyPost_ret (v := sv mm) (by simp [results, Try.results56, go_sem, *]) rfl ⟨rfl, ?_⟩
      exact (((HB.out.setCell (by simp; omega) _).setCell (by simp; omega) _).setCell (by simp; omega) _).setCell (by simp; omega) _
end Go.Proofs.Ytlcmlipldkpliaa

namespace Go.Proofs.Ytlcmlipldkpliaa
open Go.RowKit

set_option maxHeartbeats 4000000 in
theorem mix3_any (x y : BitVec 256) (w : World) :
    Calls Try.prog 56 #[.int .i64 3, sv x, sv y] w fun e w' => e = .returned (sv (mixS 3 x y)) ∧ Below w.heap.size w w' := by
  go_enter Try.func56, Try.ntmps56
  go_wp2
  go_loopw [8] (fun t wr => ∃ k : Nat, k ≤ 256 ∧ t = .int .i64 k ∧ Holds wr w.heap.size x ∧ Holds wr (w.heap.size + 1) y ∧ Holds wr (w.heap.size + 1 + 1 + 1) (mixTo 3 x y k) ∧ (∃ z, Holds wr (w.heap.size + 1 + 1) z) ∧ Below w.heap.size w wr) (fun t _ => 256 - (intOf t).toNat)
  case atStart =>
    exact ⟨0, by omega, rfl, mix_start0 w x y, mix_start1 w x y, mix_start3 w x y, ⟨0#256, mix_start2 w x y⟩, mix_startB w x y⟩
  case round =>
    obtain ⟨k, hk, rfl, hx, hy, hm, ⟨z, hz⟩, hbel⟩ := hrel
    have hsz : w.heap.size + 1 + 1 + 1 < wr.heap.size := hm.lt
    have HX := (show Hid _ from hx)
    have HY := (show Hid _ from hy)
    have HM := (show Hid _ from hm)
    have HZ := (show Hid _ from hz)
    have HB := (show Hid _ from hbel)
    by_cases hlt : k < 256
    · have HS := (show Hid _ from mixTo_succ 3 x y k hlt)
      clear hm hz hbel
      obtain ⟨l0, c0, c1, c2, c3, f0, f1, f2, f3⟩ := hx
      obtain ⟨l1, d0, d1, d2, d3, g0, g1, g2, g3⟩ := hy
      have HR : Hid (Below wr.heap.size wr wr) := Below.refl _ _
      have hk0 : (0 : Int) ≤ (k : Int) := by omega
      have hk1 : (k : Int) ≤ 255 := by omega
      cases hxb : hasB x k <;> cases hyb : hasB y k
      · have HE : Hid (mixTo 3 x y (k + 1) = mixTo 3 x y k ||| bt k) := (by have h := HS.out; rw [hxb, hyb, if_pos (by decide)] at h; exact h)
        clear HS
        go_wp2
        go_region_held3 (fun w' => w'.cell? ⟨w.heap.size, 0, none⟩ = some (.int .u64 (wd x 0)) ∧ w'.cell? ⟨w.heap.size, 1, none⟩ = some (.int .u64 (wd x 1)) ∧ w'.cell? ⟨w.heap.size, 2, none⟩ = some (.int .u64 (wd x 2)) ∧ w'.cell? ⟨w.heap.size, 3, none⟩ = some (.int .u64 (wd x 3)) ∧ w'.cell? ⟨w.heap.size + 1, 0, none⟩ = some (.int .u64 (wd y 0)) ∧ w'.cell? ⟨w.heap.size + 1, 1, none⟩ = some (.int .u64 (wd y 1)) ∧ w'.cell? ⟨w.heap.size + 1, 2, none⟩ = some (.int .u64 (wd y 2)) ∧ w'.cell? ⟨w.heap.size + 1, 3, none⟩ = some (.int .u64 (wd y 3))) (first | go_keep | (go_split_ands; refine ⟨?_, ?_, ?_, ?_, ?_, ?_, ?_, ?_⟩ <;> (rw [hb.cell (by simp; omega)]; first | assumption | simp [*]))) ((go_at_call 13; refine (hasR_any _ _ _).mono ?_; rintro e w1 ⟨rfl, hb⟩; have hz1 := hb.size; (try simp at hz1); replace HR : Hid (Below wr.heap.size wr w1) := (by first | exact HR.out.trans (hb.mono (by omega)) | exact HR.out.drew.trans (hb.mono (by simp)))))
        clear c0 c1 c2 c3 f0 f1 f2 f3 d0 d1 d2 d3 g0 g1 g2 g3
        have hM1 := HM.out.below HR.out (by omega)
        have hX1 := (show Hid _ from HX.out.below HR.out (by omega))
        have hY1 := (show Hid _ from HY.out.below HR.out (by omega))
        have hZ1 := (show Hid _ from HZ.out.below HR.out (by omega))
        have hB1 := (show Hid _ from HB.out.trans (HR.out.mono (by omega)))
        clear HM HX HY HZ HB
        generalize mixTo 3 x y k = mm at *
        have HM1 := (show Hid _ from hM1)
        obtain ⟨l5, c0, c1, c2, c3, f0, f1, f2, f3⟩ := hM1
        go_wp2_with fail
        refine (withR_any mm k _ (by omega) (by omega)).mono ?_
        rintro e w2 ⟨rfl, hb2⟩
        clear c0 c1 c2 c3 f0 f1 f2 f3
        obtain ⟨l5, c0, c1, c2, c3, f0, f1, f2, f3⟩ := HM1.out.below hb2 l5
        go_wp2
        go_roundw
        case rel =>
          refine ⟨k + 1, by omega, by go_num, (hX1.out.below hb2 (by omega)).put_other (by omega) _, (hY1.out.below hb2 (by omega)).put_other (by omega) _, ?_, ⟨z, (hZ1.out.below hb2 (by omega)).put_other (by omega) _⟩, ?_⟩
          · rw [HE.out]; exact (HM1.out.below hb2 (by omega)).put _
          · exact ((((hB1.out.trans (hb2.mono (by omega))).setCell (by simp; omega) _).setCell (by simp; omega) _).setCell (by simp; omega) _).setCell (by simp; omega) _
        case measure => simp [intOf]; omega
      · have HE : Hid (mixTo 3 x y (k + 1) = mixTo 3 x y k ||| bt k) := (by have h := HS.out; rw [hxb, hyb, if_pos (by decide)] at h; exact h)
        clear HS
        go_wp2
        go_region_held3 (fun w' => w'.cell? ⟨w.heap.size, 0, none⟩ = some (.int .u64 (wd x 0)) ∧ w'.cell? ⟨w.heap.size, 1, none⟩ = some (.int .u64 (wd x 1)) ∧ w'.cell? ⟨w.heap.size, 2, none⟩ = some (.int .u64 (wd x 2)) ∧ w'.cell? ⟨w.heap.size, 3, none⟩ = some (.int .u64 (wd x 3)) ∧ w'.cell? ⟨w.heap.size + 1, 0, none⟩ = some (.int .u64 (wd y 0)) ∧ w'.cell? ⟨w.heap.size + 1, 1, none⟩ = some (.int .u64 (wd y 1)) ∧ w'.cell? ⟨w.heap.size + 1, 2, none⟩ = some (.int .u64 (wd y 2)) ∧ w'.cell? ⟨w.heap.size + 1, 3, none⟩ = some (.int .u64 (wd y 3))) (first | go_keep | (go_split_ands; refine ⟨?_, ?_, ?_, ?_, ?_, ?_, ?_, ?_⟩ <;> (rw [hb.cell (by simp; omega)]; first | assumption | simp [*]))) ((go_at_call 13; refine (hasR_any _ _ _).mono ?_; rintro e w1 ⟨rfl, hb⟩; have hz1 := hb.size; (try simp at hz1); replace HR : Hid (Below wr.heap.size wr w1) := (by first | exact HR.out.trans (hb.mono (by omega)) | exact HR.out.drew.trans (hb.mono (by simp)))))
        clear c0 c1 c2 c3 f0 f1 f2 f3 d0 d1 d2 d3 g0 g1 g2 g3
        have hM1 := HM.out.below HR.out (by omega)
        have hX1 := (show Hid _ from HX.out.below HR.out (by omega))
        have hY1 := (show Hid _ from HY.out.below HR.out (by omega))
        have hZ1 := (show Hid _ from HZ.out.below HR.out (by omega))
        have hB1 := (show Hid _ from HB.out.trans (HR.out.mono (by omega)))
        clear HM HX HY HZ HB
        generalize mixTo 3 x y k = mm at *
        have HM1 := (show Hid _ from hM1)
        obtain ⟨l5, c0, c1, c2, c3, f0, f1, f2, f3⟩ := hM1
        go_wp2_with fail
        refine (withR_any mm k _ (by omega) (by omega)).mono ?_
        rintro e w2 ⟨rfl, hb2⟩
        clear c0 c1 c2 c3 f0 f1 f2 f3
        obtain ⟨l5, c0, c1, c2, c3, f0, f1, f2, f3⟩ := HM1.out.below hb2 l5
        go_wp2
        go_roundw
        case rel =>
          refine ⟨k + 1, by omega, by go_num, (hX1.out.below hb2 (by omega)).put_other (by omega) _, (hY1.out.below hb2 (by omega)).put_other (by omega) _, ?_, ⟨z, (hZ1.out.below hb2 (by omega)).put_other (by omega) _⟩, ?_⟩
          · rw [HE.out]; exact (HM1.out.below hb2 (by omega)).put _
          · exact ((((hB1.out.trans (hb2.mono (by omega))).setCell (by simp; omega) _).setCell (by simp; omega) _).setCell (by simp; omega) _).setCell (by simp; omega) _
        case measure => simp [intOf]; omega
      · have HE : Hid (mixTo 3 x y (k + 1) = mixTo 3 x y k) := (by have h := HS.out; rw [hxb, hyb, if_neg (by decide)] at h; exact h)
        clear HS
        go_wp2
        go_region_held3 (fun w' => w'.cell? ⟨w.heap.size, 0, none⟩ = some (.int .u64 (wd x 0)) ∧ w'.cell? ⟨w.heap.size, 1, none⟩ = some (.int .u64 (wd x 1)) ∧ w'.cell? ⟨w.heap.size, 2, none⟩ = some (.int .u64 (wd x 2)) ∧ w'.cell? ⟨w.heap.size, 3, none⟩ = some (.int .u64 (wd x 3)) ∧ w'.cell? ⟨w.heap.size + 1, 0, none⟩ = some (.int .u64 (wd y 0)) ∧ w'.cell? ⟨w.heap.size + 1, 1, none⟩ = some (.int .u64 (wd y 1)) ∧ w'.cell? ⟨w.heap.size + 1, 2, none⟩ = some (.int .u64 (wd y 2)) ∧ w'.cell? ⟨w.heap.size + 1, 3, none⟩ = some (.int .u64 (wd y 3))) (first | go_keep | (go_split_ands; refine ⟨?_, ?_, ?_, ?_, ?_, ?_, ?_, ?_⟩ <;> (rw [hb.cell (by simp; omega)]; first | assumption | simp [*]))) ((go_at_call 13; refine (hasR_any _ _ _).mono ?_; rintro e w1 ⟨rfl, hb⟩; have hz1 := hb.size; (try simp at hz1); replace HR : Hid (Below wr.heap.size wr w1) := (by first | exact HR.out.trans (hb.mono (by omega)) | exact HR.out.drew.trans (hb.mono (by simp)))))
        clear c0 c1 c2 c3 f0 f1 f2 f3 d0 d1 d2 d3 g0 g1 g2 g3
        have hM1 := HM.out.below HR.out (by omega)
        have hX1 := (show Hid _ from HX.out.below HR.out (by omega))
        have hY1 := (show Hid _ from HY.out.below HR.out (by omega))
        have hZ1 := (show Hid _ from HZ.out.below HR.out (by omega))
        have hB1 := (show Hid _ from HB.out.trans (HR.out.mono (by omega)))
        clear HM HX HY HZ HB
        generalize mixTo 3 x y k = mm at *
        have HM1 := (show Hid _ from hM1)
        clear hM1
        go_wp2
        go_roundw
        case rel => exact ⟨k + 1, by omega, by go_num, hX1.out, hY1.out, (by rw [HE.out]; exact HM1.out), ⟨z, hZ1.out⟩, hB1.out⟩
        case measure => simp [intOf]; omega
      · have HE : Hid (mixTo 3 x y (k + 1) = mixTo 3 x y k) := (by have h := HS.out; rw [hxb, hyb, if_neg (by decide)] at h; exact h)
        clear HS
        go_wp2
        go_region_held3 (fun w' => w'.cell? ⟨w.heap.size, 0, none⟩ = some (.int .u64 (wd x 0)) ∧ w'.cell? ⟨w.heap.size, 1, none⟩ = some (.int .u64 (wd x 1)) ∧ w'.cell? ⟨w.heap.size, 2, none⟩ = some (.int .u64 (wd x 2)) ∧ w'.cell? ⟨w.heap.size, 3, none⟩ = some (.int .u64 (wd x 3)) ∧ w'.cell? ⟨w.heap.size + 1, 0, none⟩ = some (.int .u64 (wd y 0)) ∧ w'.cell? ⟨w.heap.size + 1, 1, none⟩ = some (.int .u64 (wd y 1)) ∧ w'.cell? ⟨w.heap.size + 1, 2, none⟩ = some (.int .u64 (wd y 2)) ∧ w'.cell? ⟨w.heap.size + 1, 3, none⟩ = some (.int .u64 (wd y 3))) (first | go_keep | (go_split_ands; refine ⟨?_, ?_, ?_, ?_, ?_, ?_, ?_, ?_⟩ <;> (rw [hb.cell (by simp; omega)]; first | assumption | simp [*]))) ((go_at_call 13; refine (hasR_any _ _ _).mono ?_; rintro e w1 ⟨rfl, hb⟩; have hz1 := hb.size; (try simp at hz1); replace HR : Hid (Below wr.heap.size wr w1) := (by first | exact HR.out.trans (hb.mono (by omega)) | exact HR.out.drew.trans (hb.mono (by simp)))))
        clear c0 c1 c2 c3 f0 f1 f2 f3 d0 d1 d2 d3 g0 g1 g2 g3
        have hM1 := HM.out.below HR.out (by omega)
        have hX1 := (show Hid _ from HX.out.below HR.out (by omega))
        have hY1 := (show Hid _ from HY.out.below HR.out (by omega))
        have hZ1 := (show Hid _ from HZ.out.below HR.out (by omega))
        have hB1 := (show Hid _ from HB.out.trans (HR.out.mono (by omega)))
        clear HM HX HY HZ HB
        generalize mixTo 3 x y k = mm at *
        have HM1 := (show Hid _ from hM1)
        clear hM1
        go_wp2
        go_roundw
        case rel => exact ⟨k + 1, by omega, by go_num, hX1.out, hY1.out, (by rw [HE.out]; exact HM1.out), ⟨z, hZ1.out⟩, hB1.out⟩
        case measure => simp [intOf]; omega
    · have hke : k = 256 := by omega
      subst hke
      clear hx hy hbel
      have HQ : Hid (mixTo 3 x y 256 = mixS 3 x y) := rfl
      generalize mixTo 3 x y 256 = mm at *
      obtain ⟨l0, c0, c1, c2, c3, f0, f1, f2, f3⟩ := hm
      obtain ⟨l1, d0, d1, d2, d3, g0, g1, g2, g3⟩ := hz
      go_wp2
      rw [← HQ.out]
      refine bodyPost_ret (v := sv mm) (by simp [results, Try.results56, go_sem, *]) rfl ⟨rfl, ?_⟩
      exact (((HB.out.setCell (by simp; omega) _).setCell (by simp; omega) _).setCell (by simp; omega) _).setCell (by simp; omega) _
end Go.Proofs.Ytlcmlipldkpliaa
