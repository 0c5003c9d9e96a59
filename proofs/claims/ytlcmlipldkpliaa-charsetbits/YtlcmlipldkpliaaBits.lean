/- DERIVED. The law CharsetBits, walked. -/
import Derived.Test.YtlcmlipldkpliaaRefs
import Derived.Test.YtlcmlipldkpliaaOfA
import Derived.Test.YtlcmlipldkpliaaOfB
import Derived.Test.YtlcmlipldkpliaaEqs
namespace Go.Proofs.Ytlcmlipldkpliaa
open Go.RowKit

theorem holds2 (w : World) (a : Obj) (y : BitVec 256) : Holds ((w.alloc a).alloc (c4 y)) (w.heap.size + 1) y := by
  have h := Holds.new (w.alloc a) y
  rw [size1] at h
  exact h

set_option maxRecDepth 100000 in
set_option maxHeartbeats 4000000 in
theorem charsetBits_any (x y : BitVec 256) (s : ByteArray) (w : World) (hs : s.size ≤ maxLen) :
    Calls Try.prog 3 #[sv x, sv y, .string s] w fun e w' => e = .returned (.bool true) ∧ Below w.heap.size w w' := by
  have hsz := size2 w (c4 x) (c4 y)
  have HX := (show Hid _ from (Holds.new w x).alloc (c4 y))
  have HY := (show Hid _ from holds2 w (c4 x) y)
  have HB := (show Hid _ from below2 w (c4 x) (c4 y))
  have heq := eq24
  go_enter Try.func3, Try.ntmps3
  go_wp2_with fail
  refine (names_any _).mono ?_
  rintro e w1 ⟨rfl, rfl⟩
  go_wp2_with fail
  refine (of_any s _ hs).mono ?_
  rintro e w1 ⟨rfl, hb1⟩
  go_wp2_with fail
  refine (ofR_any s _ hs).mono ?_
  rintro e w2 ⟨rfl, hb2⟩
  have HB2 := (show Hid (Below (w.heap.size + 1 + 1) ((w.alloc (c4 x)).alloc (c4 y)) w2) from (hb1.trans (hb2.mono hb1.size)).mono (by rw [hsz]; omega))
  have hX2 := (show Hid _ from HX.out.below HB2.out (by omega))
  have hY2 := (show Hid _ from HY.out.below HB2.out (by omega))
  have hB2 := (show Hid _ from HB.out.trans (HB2.out.mono (by omega)))
  clear hsz hb1 hb2 HB2 HX HY HB
  generalize ofL s.data.toList = os
  go_wp2_with fail
  go_loopw [7] (fun t wr => ∃ i : Int, -2 ≤ i ∧ i ≤ 260 ∧ t = .int .i64 i ∧ Holds wr w.heap.size x ∧ Holds wr (w.heap.size + 1) y ∧ Below w.heap.size w wr) (fun t _ => (260 - intOf t).toNat)
  case atStart => exact ⟨-2, by omega, by omega, rfl, hX2.out, hY2.out, hB2.out⟩
  case round =>
    obtain ⟨i, hi0, hi1, rfl, hx, hy, hbel⟩ := hrel
    have hsz : w.heap.size + 1 < wr.heap.size := hy.lt
    have HX := (show Hid _ from hx)
    have HY := (show Hid _ from hy)
    have HB := (show Hid _ from hbel)
    clear hbel hX2 hY2 hB2
    have HR : Hid (Below wr.heap.size wr wr) := Below.refl _ _
    obtain ⟨l0, c0, c1, c2, c3, f0, f1, f2, f3⟩ := hx
    obtain ⟨l1, d0, d1, d2, d3, g0, g1, g2, g3⟩ := hy
    by_cases hlt : i < 260
    · clear d0 d1 d2 d3 g0 g1 g2 g3
      go_wp2
      go_region_held3 (fun w' => w'.cell? ⟨w.heap.size, 0, none⟩ = some (.int .u64 (wd x 0)) ∧ w'.cell? ⟨w.heap.size, 1, none⟩ = some (.int .u64 (wd x 1)) ∧ w'.cell? ⟨w.heap.size, 2, none⟩ = some (.int .u64 (wd x 2)) ∧ w'.cell? ⟨w.heap.size, 3, none⟩ = some (.int .u64 (wd x 3))) (first | go_keep | (go_split_ands; refine ⟨?_, ?_, ?_, ?_⟩ <;> (rw [hb.cell (by simp <;> omega)]; first | assumption | simp [*]))) (first | (go_at_call 12; refine (has_any _ _ _).mono ?_; rintro e w1 ⟨rfl, hb⟩; have hz1 := hb.size; (try simp at hz1); replace HR : Hid (Below wr.heap.size wr w1) := (by first | exact HR.out.trans (hb.mono (by omega)) | exact HR.out.drew.trans (hb.mono (by simp)))) | (go_at_call 13; refine (hasR_any _ _ _).mono ?_; rintro e w1 ⟨rfl, hb⟩; have hz1 := hb.size; (try simp at hz1); replace HR : Hid (Below wr.heap.size wr w1) := (by first | exact HR.out.trans (hb.mono (by omega)) | exact HR.out.drew.trans (hb.mono (by simp)))))
      clear c0 c1 c2 c3 f0 f1 f2 f3
      have hX1 := (show Hid _ from HX.out.below HR.out (by omega))
      have hY1 := (show Hid _ from HY.out.below HR.out (by omega))
      have hB1 := (show Hid _ from HB.out.trans (HR.out.mono (by omega)))
      go_wp2
      go_roundw
      case rel => exact ⟨i + 1, by omega, by omega, rfl, hX1.out, hY1.out, hB1.out⟩
      case measure => simp [intOf]; omega
    · go_wp2
      go_region_held3 (fun w' => w'.cell? ⟨w.heap.size, 0, none⟩ = some (.int .u64 (wd x 0)) ∧ w'.cell? ⟨w.heap.size, 1, none⟩ = some (.int .u64 (wd x 1)) ∧ w'.cell? ⟨w.heap.size, 2, none⟩ = some (.int .u64 (wd x 2)) ∧ w'.cell? ⟨w.heap.size, 3, none⟩ = some (.int .u64 (wd x 3)) ∧ w'.cell? ⟨w.heap.size + 1, 0, none⟩ = some (.int .u64 (wd y 0)) ∧ w'.cell? ⟨w.heap.size + 1, 1, none⟩ = some (.int .u64 (wd y 1)) ∧ w'.cell? ⟨w.heap.size + 1, 2, none⟩ = some (.int .u64 (wd y 2)) ∧ w'.cell? ⟨w.heap.size + 1, 3, none⟩ = some (.int .u64 (wd y 3))) (first | go_keep | (go_split_ands; refine ⟨?_, ?_, ?_, ?_, ?_, ?_, ?_, ?_⟩ <;> (rw [hb.cell (by simp <;> omega)]; first | assumption | simp [*]))) (first | (go_at_call 14; refine (union_any _ _ _).mono ?_; rintro e w1 ⟨rfl, hb⟩; have hz1 := hb.size; (try simp at hz1); replace HR : Hid (Below wr.heap.size wr w1) := (by first | exact HR.out.trans (hb.mono (by omega)) | exact HR.out.drew.trans (hb.mono (by simp)))) | (go_at_call 15; refine (unionR_any _ _ _).mono ?_; rintro e w1 ⟨rfl, hb⟩; have hz1 := hb.size; (try simp at hz1); replace HR : Hid (Below wr.heap.size wr w1) := (by first | exact HR.out.trans (hb.mono (by omega)) | exact HR.out.drew.trans (hb.mono (by simp)))) | (go_at_call 16; refine (meet_any _ _ _).mono ?_; rintro e w1 ⟨rfl, hb⟩; have hz1 := hb.size; (try simp at hz1); replace HR : Hid (Below wr.heap.size wr w1) := (by first | exact HR.out.trans (hb.mono (by omega)) | exact HR.out.drew.trans (hb.mono (by simp)))) | (go_at_call 17; refine (meetR_any _ _ _).mono ?_; rintro e w1 ⟨rfl, hb⟩; have hz1 := hb.size; (try simp at hz1); replace HR : Hid (Below wr.heap.size wr w1) := (by first | exact HR.out.trans (hb.mono (by omega)) | exact HR.out.drew.trans (hb.mono (by simp)))) | (go_at_call 18; refine (less_any _ _ _).mono ?_; rintro e w1 ⟨rfl, hb⟩; have hz1 := hb.size; (try simp at hz1); replace HR : Hid (Below wr.heap.size wr w1) := (by first | exact HR.out.trans (hb.mono (by omega)) | exact HR.out.drew.trans (hb.mono (by simp)))) | (go_at_call 19; refine (lessR_any _ _ _).mono ?_; rintro e w1 ⟨rfl, hb⟩; have hz1 := hb.size; (try simp at hz1); replace HR : Hid (Below wr.heap.size wr w1) := (by first | exact HR.out.trans (hb.mono (by omega)) | exact HR.out.drew.trans (hb.mono (by simp)))) | (go_at_call 20; refine (not_any _ _).mono ?_; rintro e w1 ⟨rfl, hb⟩; have hz1 := hb.size; (try simp at hz1); replace HR : Hid (Below wr.heap.size wr w1) := (by first | exact HR.out.trans (hb.mono (by omega)) | exact HR.out.drew.trans (hb.mono (by simp)))) | (go_at_call 21; refine (notR_any _ _).mono ?_; rintro e w1 ⟨rfl, hb⟩; have hz1 := hb.size; (try simp at hz1); replace HR : Hid (Below wr.heap.size wr w1) := (by first | exact HR.out.trans (hb.mono (by omega)) | exact HR.out.drew.trans (hb.mono (by simp)))))
      go_wp2
      go_ret
      exact ⟨rfl, HB.out.trans (HR.out.mono (by omega))⟩
end Go.Proofs.Ytlcmlipldkpliaa
