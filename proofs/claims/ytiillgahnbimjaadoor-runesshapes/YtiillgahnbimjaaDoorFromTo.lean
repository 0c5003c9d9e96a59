/- DERIVED. Walks: FromTo, by the document. -/
import Derived.Test.YtiillgahnbimjaaDoorSlots
import Derived.Test.YtiillgahnbimjaaDoorWithB
namespace Go.Proofs.YtiillgahnbimjaaDoor
open Go.RowKit

set_option maxHeartbeats 1000000 in
theorem fromTo_any (lo hi : Int) (w : World) (h0 : 0 ≤ lo) (hle : lo ≤ hi) (h1 : hi ≤ 255) :
    Calls Tryd.prog 42 #[.int .i64 lo, .int .i64 hi] w fun e w' => e = .returned (sv (spn lo hi)) ∧ Below w.heap.size w w' := by
  go_enter Tryd.func42, Tryd.ntmps42
  go_wp2
  go_loopw [6] (fun t wr => ∃ b : Int, lo ≤ b ∧ b ≤ hi + 1 ∧ t = .int .i64 b ∧ Holds wr (w.heap.size + 1) (spn lo (b - 1)) ∧ (∃ z, Holds wr w.heap.size z) ∧ Below w.heap.size w wr) (fun t _ => (hi + 1 - intOf t).toNat)
  case atStart =>
    refine ⟨lo, by omega, by omega, rfl, ?_, ⟨0#256, (Holds.zero w).alloc _⟩, ?_⟩
    · rw [spn_nil lo h0 (by omega)]; exact Holds.zero' w _
    · exact ((Below.refl _ _).alloc (Nat.le_refl _) _).alloc (by simp) _
  case round =>
    obtain ⟨b, hb0, hb1, rfl, hx, ⟨z, hz⟩, hbel⟩ := hrel
    have hsz : w.heap.size + 1 < wr.heap.size := hx.lt
    by_cases hlt : b ≤ hi
    · have HS := (show Hid _ from spn_snoc lo b h0 hb0 (by omega))
      generalize hy : spn lo (b - 1) = y at hx
      have HY := (show Hid _ from hy)
      clear hy
      have HX := (show Hid _ from hx)
      have HZ := (show Hid _ from hz)
      have HB := (show Hid _ from hbel)
      obtain ⟨l0, c0, c1, c2, c3, f0, f1, f2, f3⟩ := hx
      clear hz hbel
      go_wp2_with fail
      refine (withR_any y b _ (by omega) (by omega)).mono ?_
      rintro e w1 ⟨rfl, hb⟩
      obtain ⟨l0, c0, c1, c2, c3, f0, f1, f2, f3⟩ := HX.out.below hb l0
      go_wp2
      go_roundw
      case rel =>
        refine ⟨b + 1, by omega, by omega, rfl, ?_, ⟨z, ?_⟩, ?_⟩
        · rw [show b + 1 - 1 = b from by omega, HS.out, HY.out]
          exact (HX.out.below hb (by omega)).put _
        · exact (HZ.out.below hb (by omega)).put_other (by omega) _
        · exact ((((HB.out.trans (hb.mono (by omega))).setCell (by simp) _).setCell (by simp) _).setCell (by simp) _).setCell (by simp) _
      case measure => simp [intOf]; omega
    · have hbe : b - 1 = hi := by omega
      rw [hbe] at hx
      generalize hy : spn lo hi = y at hx
      have HY := (show Hid _ from hy)
      clear hy
      have HB := (show Hid _ from hbel)
      obtain ⟨l0, c0, c1, c2, c3, f0, f1, f2, f3⟩ := hx
      obtain ⟨l1, d0, d1, d2, d3, g0, g1, g2, g3⟩ := hz
      clear hbel
      go_wp2
      rw [HY.out]
      refine bodyPost_ret (v := sv y) (by simp [results, Tryd.results42, go_sem, *]) rfl ⟨rfl, ?_⟩
      exact (((HB.out.setCell (by simp) _).setCell (by simp) _).setCell (by simp) _).setCell (by simp) _
end Go.Proofs.YtiillgahnbimjaaDoor
