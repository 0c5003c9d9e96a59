/- DERIVED. Walks: fill, by the program. -/
import Derived.Test.YtiillgahnbimjaaDoorSlots
namespace Go.Proofs.YtiillgahnbimjaaDoor
open Go.RowKit

set_option maxHeartbeats 1000000 in
theorem fill_any (x : BitVec 256) (lo hi : Int) (w : World) (h0 : 0 ≤ lo) (hle : lo ≤ hi) (h1 : hi ≤ 255) :
    Calls Tryd.prog 53 #[sv x, .int .i64 lo, .int .i64 hi] w fun e w' => e = .returned (sv (x ||| spn lo hi)) ∧ Below w.heap.size w w' := by
  go_enter Tryd.func53, Tryd.ntmps53
  go_wp2
  go_loopw [7] (fun t wr => ∃ b : Int, lo ≤ b ∧ b ≤ hi + 1 ∧ t = .int .i64 b ∧ Holds wr w.heap.size (x ||| spn lo (b - 1)) ∧ (∃ z, Holds wr (w.heap.size + 1) z) ∧ Below w.heap.size w wr) (fun t _ => (hi + 1 - intOf t).toNat)
  case atStart =>
    refine ⟨lo, by omega, by omega, rfl, ?_, ⟨0#256, Holds.zero' w _⟩, ?_⟩
    · rw [spn_nil lo h0 (by omega), BitVec.or_zero]; exact (Holds.new w x).alloc _
    · exact ((Below.refl _ _).alloc (Nat.le_refl _) _).alloc (by simp) _
  case round =>
    obtain ⟨b, hb0, hb1, rfl, hx, ⟨z, hz⟩, hbel⟩ := hrel
    have hsz : w.heap.size + 1 < wr.heap.size := hz.lt
    by_cases hlt : b ≤ hi
    · have HS := (show Hid _ from spn_snoc lo b h0 hb0 (by omega))
      generalize hy : x ||| spn lo (b - 1) = y at hx
      have HY := (show Hid _ from hy)
      clear hy
      have HX := (show Hid _ from hx)
      have HZ := (show Hid _ from hz)
      have HB := (show Hid _ from hbel)
      obtain ⟨l0, c0, c1, c2, c3, f0, f1, f2, f3⟩ := hx
      clear hz hbel
      go_wp2_with fail
      refine (with_any y b _ (by omega) (by omega)).mono ?_
      rintro e w1 ⟨rfl, hb⟩
      obtain ⟨l0, c0, c1, c2, c3, f0, f1, f2, f3⟩ := HX.out.below hb l0
      go_wp2
      go_roundw
      case rel =>
        refine ⟨b + 1, by omega, by omega, rfl, ?_, ⟨z, ?_⟩, ?_⟩
        · rw [show b + 1 - 1 = b from by omega, HS.out, ← BitVec.or_assoc, HY.out]
          exact (HX.out.below hb (by omega)).put _
        · exact (HZ.out.below hb (by omega)).put_other (by omega) _
        · exact ((((HB.out.trans (hb.mono (by omega))).setCell (Nat.le_refl _) _).setCell (Nat.le_refl _) _).setCell (Nat.le_refl _) _).setCell (Nat.le_refl _) _
      case measure => simp [intOf]; omega
    · have hbe : b - 1 = hi := by omega
      rw [hbe] at hx
      generalize hy : x ||| spn lo hi = y at hx
      have HY := (show Hid _ from hy)
      clear hy
      have HZ := (show Hid _ from hz)
      have HB := (show Hid _ from hbel)
      obtain ⟨l0, c0, c1, c2, c3, f0, f1, f2, f3⟩ := hx
      obtain ⟨l1, d0, d1, d2, d3, g0, g1, g2, g3⟩ := hz
      clear hbel
      go_wp2
      rw [HY.out]
      refine bodyPost_ret (v := sv y) (by simp [results, Tryd.results53, go_sem, *]) rfl ⟨rfl, ?_⟩
      exact (((HB.out.setCell (by simp) _).setCell (by simp) _).setCell (by simp) _).setCell (by simp) _
end Go.Proofs.YtiillgahnbimjaaDoor
