/- DERIVED. Walks: Of, by the program. -/
import Derived.Test.YtlcmlipldkpliabSlots
import Derived.Test.YtlcmlipldkpliabWithA
import Derived.Test.YtlcmlipldkpliabTexts
namespace Go.Proofs.Ytlcmlipldkpliab
open Go.RowKit

set_option maxHeartbeats 1000000 in
theorem of_any (s : ByteArray) (w : World) (hs : s.size ≤ maxLen) :
    Calls Try.prog 20 #[.string s] w fun e w' => e = .returned (sv (ofL s.data.toList)) ∧ Below w.heap.size w w' := by
  unfold maxLen at hs
  go_enter Try.func20, Try.ntmps20
  go_wp2
  go_loopw [4] (fun t wr => ∃ k : Nat, k ≤ s.size ∧ t = .int .i64 k ∧ Holds wr (w.heap.size + 1) (ofL (s.data.toList.take k)) ∧ (∃ z, Holds wr w.heap.size z) ∧ Below w.heap.size w wr) (fun t _ => s.size - (intOf t).toNat)
  case atStart =>
    exact ⟨0, by omega, rfl, Holds.zero' w _, ⟨0#256, (Holds.zero w).alloc _⟩, ((Below.refl _ _).alloc (Nat.le_refl _) _).alloc (by simp) _⟩
  case round =>
    obtain ⟨k, hk, rfl, hx, ⟨z, hz⟩, hbel⟩ := hrel
    have hsz : w.heap.size + 1 < wr.heap.size := hx.lt
    by_cases hlt : k < s.size
    · have HS := (show Hid _ from ofL_take s k hlt)
      have h8 : (s[k].toNat : Int) ≤ 255 := by have := s[k].toNat_lt; omega
      have hw8 : IntKind.i64.wrap (s[k].toNat : Int) = (s[k].toNat : Int) := by rw [IntKind.wrap_i64]; omega
      generalize hy : ofL (s.data.toList.take k) = y at hx
      have HY := (show Hid _ from hy)
      clear hy
      have HX := (show Hid _ from hx)
      have HZ := (show Hid _ from hz)
      have HB := (show Hid _ from hbel)
      obtain ⟨l0, c0, c1, c2, c3, f0, f1, f2, f3⟩ := hx
      clear hz hbel
      go_wp2
      go_region_with ((go_at_call 32; refine (with_any y _ _ (by omega) (by omega)).mono ?_; rintro e w1 ⟨rfl, hb⟩; obtain ⟨l0, c0, c1, c2, c3, f0, f1, f2, f3⟩ := HX.out.drew.below hb (by simpa using l0)))
      all_goals
        go_wp2
        go_roundw
        case rel =>
          have hb2 : Below wr.heap.size wr w1 := (Below.refl wr.heap.size wr).drew.trans hb
          refine ⟨k + 1, by omega, by go_num, ?_, ⟨z, ?_⟩, ?_⟩
          · rw [HS.out, HY.out]
            exact (HX.out.below hb2 (by omega)).put _
          · exact (HZ.out.below hb2 (by omega)).put_other (by omega) _
          · exact ((((HB.out.trans (hb2.mono (by omega))).setCell (by simp) _).setCell (by simp) _).setCell (by simp) _).setCell (by simp) _
        case measure => simp [intOf]; omega
    · have hke : s.data.toList.take k = s.data.toList := List.take_of_length_le (by simp; omega)
      rw [hke] at hx
      clear hke
      generalize hy : ofL s.data.toList = y at hx
      have HY := (show Hid _ from hy)
      clear hy
      have HB := (show Hid _ from hbel)
      obtain ⟨l0, c0, c1, c2, c3, f0, f1, f2, f3⟩ := hx
      obtain ⟨l1, d0, d1, d2, d3, g0, g1, g2, g3⟩ := hz
      clear hbel
      go_wp2
      rw [HY.out]
      refine bodyPost_ret (v := sv y) (by simp [results, Try.results20, go_sem, *]) rfl ⟨rfl, ?_⟩
      exact (((HB.out.setCell (by simp) _).setCell (by simp) _).setCell (by simp) _).setCell (by simp) _
end Go.Proofs.Ytlcmlipldkpliab
