/- DERIVED. Plain mathematics and walks, laid together (11). -/
import Derived.Test.YtbnihflihelimaaGreatHa10
namespace Go.Proofs.YtbnihflihelimaaGreat.N
open Go.RowKit Go.Maps
open Go.Proofs.YtbnihflihelimaaGreat.T

open U (below_grown)
set_option maxRecDepth 100000 in
set_option maxHeartbeats 8000000 in
theorem fsSeq_1 (xs ys : BitVec 256) (ye yh cx cy : Bool) (w : World) : Calls Tryz.prog 61 #[qG ⟨xs, false, false⟩ cx, qG ⟨ys, ye, yh⟩ cy] w fun e w' => e = .returned (fG (sqF ⟨xs, false, false⟩ ⟨ys, ye, yh⟩ cy)) ∧ Below w.heap.size w w' := by
  have hs := SqS.new w ⟨xs, false, false⟩ ⟨ys, ye, yh⟩ cx cy
  obtain ⟨w1, hw1⟩ : ∃ w1, w1 = ((w.alloc (.cells #[.int .u64 (wd xs 0), .int .u64 (wd xs 1), .int .u64 (wd xs 2), .int .u64 (wd xs 3), .bool false, .bool false, .bool cx] 96)).alloc (.cells #[.int .u64 (wd ys 0), .int .u64 (wd ys 1), .int .u64 (wd ys 2), .int .u64 (wd ys 3), .bool ye, .bool yh, .bool cy] 96)).alloc (.cells #[.int .u64 0, .int .u64 0, .int .u64 0, .int .u64 0, .bool false, .bool false] 36) := ⟨_, rfl⟩
  have HE := (show Hid (((w.alloc (.cells #[.int .u64 (wd xs 0), .int .u64 (wd xs 1), .int .u64 (wd xs 2), .int .u64 (wd xs 3), .bool false, .bool false, .bool cx] 96)).alloc (.cells #[.int .u64 (wd ys 0), .int .u64 (wd ys 1), .int .u64 (wd ys 2), .int .u64 (wd ys 3), .bool ye, .bool yh, .bool cy] 96)).alloc (.cells #[.int .u64 0, .int .u64 0, .int .u64 0, .int .u64 0, .bool false, .bool false] 36) = w1) from hw1.symm)
  have hs : SqS w w1 ⟨xs, false, false⟩ ⟨ys, ye, yh⟩ cx cy f0 := by rw [hw1]; exact hs
  obtain ⟨w2, hw2⟩ : ∃ w2, w2 = w1.alloc (.cells #[.int .u64 (wd xs 0), .int .u64 (wd xs 1), .int .u64 (wd xs 2), .int .u64 (wd xs 3), .bool false, .bool false] 36) := ⟨_, rfl⟩
  have HE2 := (show Hid (w1.alloc (.cells #[.int .u64 (wd xs 0), .int .u64 (wd xs 1), .int .u64 (wd xs 2), .int .u64 (wd xs 3), .bool false, .bool false] 36) = w2) from hw2.symm)
  have HS2 := (show Hid (SqS w w2 ⟨xs, false, false⟩ ⟨ys, ye, yh⟩ cx cy f0 ∧ FX w2 w1.heap.size ⟨xs, false, false⟩ ∧ w1.heap.size = w.heap.size + 3 ∧ Below w1.heap.size w1 w2) from by
    have hb : Below w1.heap.size w1 w2 := by rw [hw2]; exact below_box _ _
    refine ⟨hs.later hb, by rw [hw2]; exact FX.new w1 ⟨xs, false, false⟩, ?_, hb⟩
    rw [hw1, World.size_alloc, World.size_alloc, World.size_alloc])
  have x0 := hs.x.c0
  have x1 := hs.x.c1
  have x2 := hs.x.c2
  have x3 := hs.x.c3
  have x4 := hs.x.c4
  have x5 := hs.x.c5
  have y4 := hs.y.c4
  have y6 := hs.y.c6
  have u4 := HS2.out.1.x.c4
  have u0 := HS2.out.1.x.c0
  have u1 := HS2.out.1.x.c1
  have u2 := HS2.out.1.x.c2
  have u3 := HS2.out.1.x.c3
  have v0 := HS2.out.1.y.c0
  have v1 := HS2.out.1.y.c1
  have v2 := HS2.out.1.y.c2
  have v3 := HS2.out.1.y.c3
  have m0 := HS2.out.2.1.c0
  have m1 := HS2.out.2.1.c1
  have m2 := HS2.out.2.1.c2
  have m3 := HS2.out.2.1.c3
  have m4 := HS2.out.2.1.c4
  have m5 := HS2.out.2.1.c5
  have z0 := HS2.out.1.z.c0
  have z1 := HS2.out.1.z.c1
  have z2 := HS2.out.1.z.c2
  have z3 := HS2.out.1.z.c3
  have z4 := HS2.out.1.z.c4
  have z5 := HS2.out.1.z.c5
  have zf := HS2.out.1.z.fz
  simp only at x0 x1 x2 x3 x4 x5 y4 y6 u4 u0 u1 u2 u3 v0 v1 v2 v3 m0 m1 m2 m3 m4 m5
  clear hw1 hw2 hs
  have HU := (show Hid (∀ W, Calls Tryz.prog 80 #[sv xs, sv ys] W fun e w' => e = .returned (sv (xs ||| ys)) ∧ Below W.heap.size W w') from fun W => union_any _ _ W)
  go_enter Tryz.func61, Tryz.ntmps61
  have HF := (show Hid (FX (sF w2 (w.heap.size + 1 + 1) ⟨xs, false, false⟩) (w.heap.size + 1 + 1) ⟨xs, false, false⟩ ∧ Below w.heap.size w (sF w2 (w.heap.size + 1 + 1) ⟨xs, false, false⟩)) from ⟨sF_fx HS2.out.1.z _, sF_below _ _ HS2.out.1.b (by omega)⟩)
  unfold sF at HF
  go_wp2_with (first | rw [HE.out] | rw [HE2.out])
  exact ret_f rfl rfl rfl HF.out.1 ⟨rfl, HF.out.2⟩

set_option maxRecDepth 100000 in
set_option maxHeartbeats 8000000 in
theorem fsSeq_2 (xs ys : BitVec 256) (ye yh cx cy : Bool) (w : World) : Calls Tryz.prog 61 #[qG ⟨xs, false, true⟩ cx, qG ⟨ys, ye, yh⟩ cy] w fun e w' => e = .returned (fG (sqF ⟨xs, false, true⟩ ⟨ys, ye, yh⟩ cy)) ∧ Below w.heap.size w w' := by
  have hs := SqS.new w ⟨xs, false, true⟩ ⟨ys, ye, yh⟩ cx cy
  obtain ⟨w1, hw1⟩ : ∃ w1, w1 = ((w.alloc (.cells #[.int .u64 (wd xs 0), .int .u64 (wd xs 1), .int .u64 (wd xs 2), .int .u64 (wd xs 3), .bool false, .bool true, .bool cx] 96)).alloc (.cells #[.int .u64 (wd ys 0), .int .u64 (wd ys 1), .int .u64 (wd ys 2), .int .u64 (wd ys 3), .bool ye, .bool yh, .bool cy] 96)).alloc (.cells #[.int .u64 0, .int .u64 0, .int .u64 0, .int .u64 0, .bool false, .bool false] 36) := ⟨_, rfl⟩
  have HE := (show Hid (((w.alloc (.cells #[.int .u64 (wd xs 0), .int .u64 (wd xs 1), .int .u64 (wd xs 2), .int .u64 (wd xs 3), .bool false, .bool true, .bool cx] 96)).alloc (.cells #[.int .u64 (wd ys 0), .int .u64 (wd ys 1), .int .u64 (wd ys 2), .int .u64 (wd ys 3), .bool ye, .bool yh, .bool cy] 96)).alloc (.cells #[.int .u64 0, .int .u64 0, .int .u64 0, .int .u64 0, .bool false, .bool false] 36) = w1) from hw1.symm)
  have hs : SqS w w1 ⟨xs, false, true⟩ ⟨ys, ye, yh⟩ cx cy f0 := by rw [hw1]; exact hs
  obtain ⟨w2, hw2⟩ : ∃ w2, w2 = w1.alloc (.cells #[.int .u64 (wd xs 0), .int .u64 (wd xs 1), .int .u64 (wd xs 2), .int .u64 (wd xs 3), .bool false, .bool (!cy)] 36) := ⟨_, rfl⟩
  have HE2 := (show Hid (w1.alloc (.cells #[.int .u64 (wd xs 0), .int .u64 (wd xs 1), .int .u64 (wd xs 2), .int .u64 (wd xs 3), .bool false, .bool (!cy)] 36) = w2) from hw2.symm)
  have HS2 := (show Hid (SqS w w2 ⟨xs, false, true⟩ ⟨ys, ye, yh⟩ cx cy f0 ∧ FX w2 w1.heap.size ⟨xs, false, !cy⟩ ∧ w1.heap.size = w.heap.size + 3 ∧ Below w1.heap.size w1 w2) from by
    have hb : Below w1.heap.size w1 w2 := by rw [hw2]; exact below_box _ _
    refine ⟨hs.later hb, by rw [hw2]; exact FX.new w1 ⟨xs, false, !cy⟩, ?_, hb⟩
    rw [hw1, World.size_alloc, World.size_alloc, World.size_alloc])
  have x0 := hs.x.c0
  have x1 := hs.x.c1
  have x2 := hs.x.c2
  have x3 := hs.x.c3
  have x4 := hs.x.c4
  have x5 := hs.x.c5
  have y4 := hs.y.c4
  have y6 := hs.y.c6
  have u4 := HS2.out.1.x.c4
  have u0 := HS2.out.1.x.c0
  have u1 := HS2.out.1.x.c1
  have u2 := HS2.out.1.x.c2
  have u3 := HS2.out.1.x.c3
  have v0 := HS2.out.1.y.c0
  have v1 := HS2.out.1.y.c1
  have v2 := HS2.out.1.y.c2
  have v3 := HS2.out.1.y.c3
  have m0 := HS2.out.2.1.c0
  have m1 := HS2.out.2.1.c1
  have m2 := HS2.out.2.1.c2
  have m3 := HS2.out.2.1.c3
  have m4 := HS2.out.2.1.c4
  have m5 := HS2.out.2.1.c5
  have z0 := HS2.out.1.z.c0
  have z1 := HS2.out.1.z.c1
  have z2 := HS2.out.1.z.c2
  have z3 := HS2.out.1.z.c3
  have z4 := HS2.out.1.z.c4
  have z5 := HS2.out.1.z.c5
  have zf := HS2.out.1.z.fz
  simp only at x0 x1 x2 x3 x4 x5 y4 y6 u4 u0 u1 u2 u3 v0 v1 v2 v3 m0 m1 m2 m3 m4 m5
  clear hw1 hw2 hs
  have HU := (show Hid (∀ W, Calls Tryz.prog 80 #[sv xs, sv ys] W fun e w' => e = .returned (sv (xs ||| ys)) ∧ Below W.heap.size W w') from fun W => union_any _ _ W)
  go_enter Tryz.func61, Tryz.ntmps61
  have HF := (show Hid (FX (sF w2 (w.heap.size + 1 + 1) ⟨xs, false, !cy⟩) (w.heap.size + 1 + 1) ⟨xs, false, !cy⟩ ∧ Below w.heap.size w (sF w2 (w.heap.size + 1 + 1) ⟨xs, false, !cy⟩)) from ⟨sF_fx HS2.out.1.z _, sF_below _ _ HS2.out.1.b (by omega)⟩)
  unfold sF at HF
  go_wp2_with (first | rw [HE.out] | rw [HE2.out])
  exact ret_f rfl rfl rfl HF.out.1 ⟨rfl, HF.out.2⟩

set_option maxRecDepth 100000 in
set_option maxHeartbeats 8000000 in
theorem fsSeq_3 (xs ys : BitVec 256) (ye yh cx cy : Bool) (w : World) : Calls Tryz.prog 61 #[qG ⟨xs, true, false⟩ cx, qG ⟨ys, ye, yh⟩ cy] w fun e w' => e = .returned (fG (sqF ⟨xs, true, false⟩ ⟨ys, ye, yh⟩ cy)) ∧ Below w.heap.size w w' := by
  have hs := SqS.new w ⟨xs, true, false⟩ ⟨ys, ye, yh⟩ cx cy
  obtain ⟨w1, hw1⟩ : ∃ w1, w1 = ((w.alloc (.cells #[.int .u64 (wd xs 0), .int .u64 (wd xs 1), .int .u64 (wd xs 2), .int .u64 (wd xs 3), .bool true, .bool false, .bool cx] 96)).alloc (.cells #[.int .u64 (wd ys 0), .int .u64 (wd ys 1), .int .u64 (wd ys 2), .int .u64 (wd ys 3), .bool ye, .bool yh, .bool cy] 96)).alloc (.cells #[.int .u64 0, .int .u64 0, .int .u64 0, .int .u64 0, .bool false, .bool false] 36) := ⟨_, rfl⟩
  have HE := (show Hid (((w.alloc (.cells #[.int .u64 (wd xs 0), .int .u64 (wd xs 1), .int .u64 (wd xs 2), .int .u64 (wd xs 3), .bool true, .bool false, .bool cx] 96)).alloc (.cells #[.int .u64 (wd ys 0), .int .u64 (wd ys 1), .int .u64 (wd ys 2), .int .u64 (wd ys 3), .bool ye, .bool yh, .bool cy] 96)).alloc (.cells #[.int .u64 0, .int .u64 0, .int .u64 0, .int .u64 0, .bool false, .bool false] 36) = w1) from hw1.symm)
  have hs : SqS w w1 ⟨xs, true, false⟩ ⟨ys, ye, yh⟩ cx cy f0 := by rw [hw1]; exact hs
  obtain ⟨w2, hw2⟩ : ∃ w2, w2 = w1.alloc (.cells #[.int .u64 (wd xs 0), .int .u64 (wd xs 1), .int .u64 (wd xs 2), .int .u64 (wd xs 3), .bool ye, .bool false] 36) := ⟨_, rfl⟩
  have HE2 := (show Hid (w1.alloc (.cells #[.int .u64 (wd xs 0), .int .u64 (wd xs 1), .int .u64 (wd xs 2), .int .u64 (wd xs 3), .bool ye, .bool false] 36) = w2) from hw2.symm)
  have HS2 := (show Hid (SqS w w2 ⟨xs, true, false⟩ ⟨ys, ye, yh⟩ cx cy f0 ∧ FX w2 w1.heap.size ⟨xs, ye, false⟩ ∧ w1.heap.size = w.heap.size + 3 ∧ Below w1.heap.size w1 w2) from by
    have hb : Below w1.heap.size w1 w2 := by rw [hw2]; exact below_box _ _
    refine ⟨hs.later hb, by rw [hw2]; exact FX.new w1 ⟨xs, ye, false⟩, ?_, hb⟩
    rw [hw1, World.size_alloc, World.size_alloc, World.size_alloc])
  have x0 := hs.x.c0
  have x1 := hs.x.c1
  have x2 := hs.x.c2
  have x3 := hs.x.c3
  have x4 := hs.x.c4
  have x5 := hs.x.c5
  have y4 := hs.y.c4
  have y6 := hs.y.c6
  have u4 := HS2.out.1.x.c4
  have u0 := HS2.out.1.x.c0
  have u1 := HS2.out.1.x.c1
  have u2 := HS2.out.1.x.c2
  have u3 := HS2.out.1.x.c3
  have v0 := HS2.out.1.y.c0
  have v1 := HS2.out.1.y.c1
  have v2 := HS2.out.1.y.c2
  have v3 := HS2.out.1.y.c3
  have m0 := HS2.out.2.1.c0
  have m1 := HS2.out.2.1.c1
  have m2 := HS2.out.2.1.c2
  have m3 := HS2.out.2.1.c3
  have m4 := HS2.out.2.1.c4
  have m5 := HS2.out.2.1.c5
  have z0 := HS2.out.1.z.c0
  have z1 := HS2.out.1.z.c1
  have z2 := HS2.out.1.z.c2
  have z3 := HS2.out.1.z.c3
  have z4 := HS2.out.1.z.c4
  have z5 := HS2.out.1.z.c5
  have zf := HS2.out.1.z.fz
  simp only at x0 x1 x2 x3 x4 x5 y4 y6 u4 u0 u1 u2 u3 v0 v1 v2 v3 m0 m1 m2 m3 m4 m5
  clear hw1 hw2 hs
  have HU := (show Hid (∀ W, Calls Tryz.prog 80 #[sv xs, sv ys] W fun e w' => e = .returned (sv (xs ||| ys)) ∧ Below W.heap.size W w') from fun W => union_any _ _ W)
  go_enter Tryz.func61, Tryz.ntmps61
  clear z0 z1 z2 z3 z4 z5 zf m0 m1 m2 m3 m4 m5
  go_wp2_with (first | rw [HE.out] | rw [HE2.out])
  refine (HU.out _).mono ?_
  rintro e w3 ⟨rfl, b3⟩
  have HS3 := (show Hid (SqS w w3 ⟨xs, true, false⟩ ⟨ys, ye, yh⟩ cx cy f0 ∧ FX w3 w1.heap.size ⟨xs, ye, false⟩ ∧ w1.heap.size = w.heap.size + 3) from ⟨HS2.out.1.later b3, HS2.out.2.1.below b3, HS2.out.2.2.1⟩)
  have m0 := HS3.out.2.1.c0
  have m1 := HS3.out.2.1.c1
  have m2 := HS3.out.2.1.c2
  have m3 := HS3.out.2.1.c3
  have m4 := HS3.out.2.1.c4
  have m5 := HS3.out.2.1.c5
  have mf := HS3.out.2.1.fz
  have z0 := HS3.out.1.z.c0
  have z1 := HS3.out.1.z.c1
  have z2 := HS3.out.1.z.c2
  have z3 := HS3.out.1.z.c3
  have z4 := HS3.out.1.z.c4
  have z5 := HS3.out.1.z.c5
  have zf := HS3.out.1.z.fz
  simp only at m0 m1 m2 m3 m4 m5
  obtain ⟨w4, hw4⟩ : ∃ w4, w4 = (((w3.setCell ⟨w1.heap.size, 0, none⟩ (.int .u64 (wd (xs ||| ys) 0))).setCell ⟨w1.heap.size, 1, none⟩ (.int .u64 (wd (xs ||| ys) 1))).setCell ⟨w1.heap.size, 2, none⟩ (.int .u64 (wd (xs ||| ys) 2))).setCell ⟨w1.heap.size, 3, none⟩ (.int .u64 (wd (xs ||| ys) 3)) := ⟨_, rfl⟩
  have HE4 := (show Hid ((((w3.setCell ⟨w1.heap.size, 0, none⟩ (.int .u64 (wd (xs ||| ys) 0))).setCell ⟨w1.heap.size, 1, none⟩ (.int .u64 (wd (xs ||| ys) 1))).setCell ⟨w1.heap.size, 2, none⟩ (.int .u64 (wd (xs ||| ys) 2))).setCell ⟨w1.heap.size, 3, none⟩ (.int .u64 (wd (xs ||| ys) 3)) = w4) from hw4.symm)
  have HS4 := (show Hid (FX w4 w1.heap.size ⟨xs ||| ys, ye, false⟩ ∧ FX w4 (w.heap.size + 2) f0 ∧ Below w.heap.size w w4) from by
    have e0 := heap_setCell_same w3 w1.heap.size 0 _ 36 (.int .u64 (wd (xs ||| ys) 0)) HS3.out.2.1.heap
    have e1 := heap_setCell_same _ w1.heap.size 1 _ 36 (.int .u64 (wd (xs ||| ys) 1)) e0
    have e2 := heap_setCell_same _ w1.heap.size 2 _ 36 (.int .u64 (wd (xs ||| ys) 2)) e1
    have e3 := heap_setCell_same _ w1.heap.size 3 _ 36 (.int .u64 (wd (xs ||| ys) 3)) e2
    have hne : w.heap.size + 2 ≠ w1.heap.size := by have h := HS3.out.2.2; omega
    have hge : w.heap.size ≤ w1.heap.size := by have h := HS3.out.2.2; omega
    refine ⟨⟨by rw [hw4, e3]; rfl⟩, HS3.out.1.z.same (by rw [hw4]; repeat rw [heap_setCell_other _ _ _ _ hne]), ?_⟩
    rw [hw4]
    exact (((HS3.out.1.b.setCell (p := ⟨w1.heap.size, 0, none⟩) hge _).setCell (p := ⟨w1.heap.size, 1, none⟩) hge _).setCell (p := ⟨w1.heap.size, 2, none⟩) hge _).setCell (p := ⟨w1.heap.size, 3, none⟩) hge _)
  have n0 := HS4.out.1.c0
  have n1 := HS4.out.1.c1
  have n2 := HS4.out.1.c2
  have n3 := HS4.out.1.c3
  have n4 := HS4.out.1.c4
  have n5 := HS4.out.1.c5
  have q0 := HS4.out.2.1.c0
  have q1 := HS4.out.2.1.c1
  have q2 := HS4.out.2.1.c2
  have q3 := HS4.out.2.1.c3
  have q4 := HS4.out.2.1.c4
  have q5 := HS4.out.2.1.c5
  have qf := HS4.out.2.1.fz
  simp only at n0 n1 n2 n3 n4 n5
  have HF := (show Hid (FX (sF w4 (w.heap.size + 1 + 1) ⟨xs ||| ys, ye, false⟩) (w.heap.size + 1 + 1) ⟨xs ||| ys, ye, false⟩ ∧ Below w.heap.size w (sF w4 (w.heap.size + 1 + 1) ⟨xs ||| ys, ye, false⟩)) from ⟨sF_fx HS4.out.2.1 _, sF_below _ _ HS4.out.2.2 (by omega)⟩)
  unfold sF at HF
  clear hw4 b3 HU HE HE2
  go_wp2_with (rw [HE4.out])
  exact ret_f rfl rfl rfl HF.out.1 ⟨rfl, HF.out.2⟩

set_option maxRecDepth 100000 in
set_option maxHeartbeats 8000000 in
theorem fsSeq_4 (xs ys : BitVec 256) (ye yh cx cy : Bool) (w : World) : Calls Tryz.prog 61 #[qG ⟨xs, true, true⟩ cx, qG ⟨ys, ye, yh⟩ cy] w fun e w' => e = .returned (fG (sqF ⟨xs, true, true⟩ ⟨ys, ye, yh⟩ cy)) ∧ Below w.heap.size w w' := by
  have hs := SqS.new w ⟨xs, true, true⟩ ⟨ys, ye, yh⟩ cx cy
  obtain ⟨w1, hw1⟩ : ∃ w1, w1 = ((w.alloc (.cells #[.int .u64 (wd xs 0), .int .u64 (wd xs 1), .int .u64 (wd xs 2), .int .u64 (wd xs 3), .bool true, .bool true, .bool cx] 96)).alloc (.cells #[.int .u64 (wd ys 0), .int .u64 (wd ys 1), .int .u64 (wd ys 2), .int .u64 (wd ys 3), .bool ye, .bool yh, .bool cy] 96)).alloc (.cells #[.int .u64 0, .int .u64 0, .int .u64 0, .int .u64 0, .bool false, .bool false] 36) := ⟨_, rfl⟩
  have HE := (show Hid (((w.alloc (.cells #[.int .u64 (wd xs 0), .int .u64 (wd xs 1), .int .u64 (wd xs 2), .int .u64 (wd xs 3), .bool true, .bool true, .bool cx] 96)).alloc (.cells #[.int .u64 (wd ys 0), .int .u64 (wd ys 1), .int .u64 (wd ys 2), .int .u64 (wd ys 3), .bool ye, .bool yh, .bool cy] 96)).alloc (.cells #[.int .u64 0, .int .u64 0, .int .u64 0, .int .u64 0, .bool false, .bool false] 36) = w1) from hw1.symm)
  have hs : SqS w w1 ⟨xs, true, true⟩ ⟨ys, ye, yh⟩ cx cy f0 := by rw [hw1]; exact hs
  obtain ⟨w2, hw2⟩ : ∃ w2, w2 = w1.alloc (.cells #[.int .u64 (wd xs 0), .int .u64 (wd xs 1), .int .u64 (wd xs 2), .int .u64 (wd xs 3), .bool ye, .bool (!cy)] 36) := ⟨_, rfl⟩
  have HE2 := (show Hid (w1.alloc (.cells #[.int .u64 (wd xs 0), .int .u64 (wd xs 1), .int .u64 (wd xs 2), .int .u64 (wd xs 3), .bool ye, .bool (!cy)] 36) = w2) from hw2.symm)
  have HS2 := (show Hid (SqS w w2 ⟨xs, true, true⟩ ⟨ys, ye, yh⟩ cx cy f0 ∧ FX w2 w1.heap.size ⟨xs, ye, !cy⟩ ∧ w1.heap.size = w.heap.size + 3 ∧ Below w1.heap.size w1 w2) from by
    have hb : Below w1.heap.size w1 w2 := by rw [hw2]; exact below_box _ _
    refine ⟨hs.later hb, by rw [hw2]; exact FX.new w1 ⟨xs, ye, !cy⟩, ?_, hb⟩
    rw [hw1, World.size_alloc, World.size_alloc, World.size_alloc])
  have x0 := hs.x.c0
  have x1 := hs.x.c1
  have x2 := hs.x.c2
  have x3 := hs.x.c3
  have x4 := hs.x.c4
  have x5 := hs.x.c5
  have y4 := hs.y.c4
  have y6 := hs.y.c6
  have u4 := HS2.out.1.x.c4
  have u0 := HS2.out.1.x.c0
  have u1 := HS2.out.1.x.c1
  have u2 := HS2.out.1.x.c2
  have u3 := HS2.out.1.x.c3
  have v0 := HS2.out.1.y.c0
  have v1 := HS2.out.1.y.c1
  have v2 := HS2.out.1.y.c2
  have v3 := HS2.out.1.y.c3
  have m0 := HS2.out.2.1.c0
  have m1 := HS2.out.2.1.c1
  have m2 := HS2.out.2.1.c2
  have m3 := HS2.out.2.1.c3
  have m4 := HS2.out.2.1.c4
  have m5 := HS2.out.2.1.c5
  have z0 := HS2.out.1.z.c0
  have z1 := HS2.out.1.z.c1
  have z2 := HS2.out.1.z.c2
  have z3 := HS2.out.1.z.c3
  have z4 := HS2.out.1.z.c4
  have z5 := HS2.out.1.z.c5
  have zf := HS2.out.1.z.fz
  simp only at x0 x1 x2 x3 x4 x5 y4 y6 u4 u0 u1 u2 u3 v0 v1 v2 v3 m0 m1 m2 m3 m4 m5
  clear hw1 hw2 hs
  have HU := (show Hid (∀ W, Calls Tryz.prog 80 #[sv xs, sv ys] W fun e w' => e = .returned (sv (xs ||| ys)) ∧ Below W.heap.size W w') from fun W => union_any _ _ W)
  go_enter Tryz.func61, Tryz.ntmps61
  clear z0 z1 z2 z3 z4 z5 zf m0 m1 m2 m3 m4 m5
  go_wp2_with (first | rw [HE.out] | rw [HE2.out])
  refine (HU.out _).mono ?_
  rintro e w3 ⟨rfl, b3⟩
  have HS3 := (show Hid (SqS w w3 ⟨xs, true, true⟩ ⟨ys, ye, yh⟩ cx cy f0 ∧ FX w3 w1.heap.size ⟨xs, ye, !cy⟩ ∧ w1.heap.size = w.heap.size + 3) from ⟨HS2.out.1.later b3, HS2.out.2.1.below b3, HS2.out.2.2.1⟩)
  have m0 := HS3.out.2.1.c0
  have m1 := HS3.out.2.1.c1
  have m2 := HS3.out.2.1.c2
  have m3 := HS3.out.2.1.c3
  have m4 := HS3.out.2.1.c4
  have m5 := HS3.out.2.1.c5
  have mf := HS3.out.2.1.fz
  have z0 := HS3.out.1.z.c0
  have z1 := HS3.out.1.z.c1
  have z2 := HS3.out.1.z.c2
  have z3 := HS3.out.1.z.c3
  have z4 := HS3.out.1.z.c4
  have z5 := HS3.out.1.z.c5
  have zf := HS3.out.1.z.fz
  simp only at m0 m1 m2 m3 m4 m5
  obtain ⟨w4, hw4⟩ : ∃ w4, w4 = (((w3.setCell ⟨w1.heap.size, 0, none⟩ (.int .u64 (wd (xs ||| ys) 0))).setCell ⟨w1.heap.size, 1, none⟩ (.int .u64 (wd (xs ||| ys) 1))).setCell ⟨w1.heap.size, 2, none⟩ (.int .u64 (wd (xs ||| ys) 2))).setCell ⟨w1.heap.size, 3, none⟩ (.int .u64 (wd (xs ||| ys) 3)) := ⟨_, rfl⟩
  have HE4 := (show Hid ((((w3.setCell ⟨w1.heap.size, 0, none⟩ (.int .u64 (wd (xs ||| ys) 0))).setCell ⟨w1.heap.size, 1, none⟩ (.int .u64 (wd (xs ||| ys) 1))).setCell ⟨w1.heap.size, 2, none⟩ (.int .u64 (wd (xs ||| ys) 2))).setCell ⟨w1.heap.size, 3, none⟩ (.int .u64 (wd (xs ||| ys) 3)) = w4) from hw4.symm)
  have HS4 := (show Hid (FX w4 w1.heap.size ⟨xs ||| ys, ye, !cy⟩ ∧ FX w4 (w.heap.size + 2) f0 ∧ Below w.heap.size w w4) from by
    have e0 := heap_setCell_same w3 w1.heap.size 0 _ 36 (.int .u64 (wd (xs ||| ys) 0)) HS3.out.2.1.heap
    have e1 := heap_setCell_same _ w1.heap.size 1 _ 36 (.int .u64 (wd (xs ||| ys) 1)) e0
    have e2 := heap_setCell_same _ w1.heap.size 2 _ 36 (.int .u64 (wd (xs ||| ys) 2)) e1
    have e3 := heap_setCell_same _ w1.heap.size 3 _ 36 (.int .u64 (wd (xs ||| ys) 3)) e2
    have hne : w.heap.size + 2 ≠ w1.heap.size := by have h := HS3.out.2.2; omega
    have hge : w.heap.size ≤ w1.heap.size := by have h := HS3.out.2.2; omega
    refine ⟨⟨by rw [hw4, e3]; rfl⟩, HS3.out.1.z.same (by rw [hw4]; repeat rw [heap_setCell_other _ _ _ _ hne]), ?_⟩
    rw [hw4]
    exact (((HS3.out.1.b.setCell (p := ⟨w1.heap.size, 0, none⟩) hge _).setCell (p := ⟨w1.heap.size, 1, none⟩) hge _).setCell (p := ⟨w1.heap.size, 2, none⟩) hge _).setCell (p := ⟨w1.heap.size, 3, none⟩) hge _)
  have n0 := HS4.out.1.c0
  have n1 := HS4.out.1.c1
  have n2 := HS4.out.1.c2
  have n3 := HS4.out.1.c3
  have n4 := HS4.out.1.c4
  have n5 := HS4.out.1.c5
  have q0 := HS4.out.2.1.c0
  have q1 := HS4.out.2.1.c1
  have q2 := HS4.out.2.1.c2
  have q3 := HS4.out.2.1.c3
  have q4 := HS4.out.2.1.c4
  have q5 := HS4.out.2.1.c5
  have qf := HS4.out.2.1.fz
  simp only at n0 n1 n2 n3 n4 n5
  have HF := (show Hid (FX (sF w4 (w.heap.size + 1 + 1) ⟨xs ||| ys, ye, !cy⟩) (w.heap.size + 1 + 1) ⟨xs ||| ys, ye, !cy⟩ ∧ Below w.heap.size w (sF w4 (w.heap.size + 1 + 1) ⟨xs ||| ys, ye, !cy⟩)) from ⟨sF_fx HS4.out.2.1 _, sF_below _ _ HS4.out.2.2 (by omega)⟩)
  unfold sF at HF
  clear hw4 b3 HU HE HE2
  go_wp2_with (rw [HE4.out])
  exact ret_f rfl rfl rfl HF.out.1 ⟨rfl, HF.out.2⟩

theorem fsSeq_any (x y : Fs) (cx cy : Bool) (w : World) : Calls Tryz.prog 61 #[qG x cx, qG y cy] w fun e w' => e = .returned (fG (sqF x y cy)) ∧ Below w.heap.size w w' := by
  obtain ⟨xs, xe, xh⟩ := x
  obtain ⟨ys, ye, yh⟩ := y
  cases xe <;> cases xh
  · exact fsSeq_1 xs ys ye yh cx cy w
  · exact fsSeq_2 xs ys ye yh cx cy w
  · exact fsSeq_3 xs ys ye yh cx cy w
  · exact fsSeq_4 xs ys ye yh cx cy w
end Go.Proofs.YtbnihflihelimaaGreat.N

namespace Go.Proofs.YtbnihflihelimaaGreat.N
open Go.RowKit Go.Maps
open Go.Proofs.YtbnihflihelimaaGreat.T

open U (below_grown)
/-- What is known of the rules, in a box. -/
structure KyX (W : World) (b : Nat) (m k bd r : Value) : Prop where
  heap : W.heap[b]? = some (.cells #[m, k, bd, r] 56 (0, 0))
theorem KyX.lt {W : World} {b : Nat} {m k bd r : Value} (h : KyX W b m k bd r) : b < W.heap.size := (Array.getElem?_eq_some_iff.1 h.heap).1
theorem KyX.same {W W' : World} {b : Nat} {m k bd r : Value} (h : KyX W b m k bd r) (hb : W'.heap[b]? = W.heap[b]?) : KyX W' b m k bd r := ⟨hb.trans h.heap⟩
theorem KyX.below {W W' : World} {b : Nat} {m k bd r : Value} (h : KyX W b m k bd r) (hb : Below W.heap.size W W') : KyX W' b m k bd r := h.same (hb.block b h.lt)
theorem KyX.c0 {W : World} {b : Nat} {m k bd r : Value} (h : KyX W b m k bd r) : W.cell? ⟨b, 0, none⟩ = some m := by rw [cell_of_row W b 0 _ 56 (0, 0) h.heap]; rfl
theorem KyX.c1 {W : World} {b : Nat} {m k bd r : Value} (h : KyX W b m k bd r) : W.cell? ⟨b, 1, none⟩ = some k := by rw [cell_of_row W b 1 _ 56 (0, 0) h.heap]; rfl
theorem KyX.c2 {W : World} {b : Nat} {m k bd r : Value} (h : KyX W b m k bd r) : W.cell? ⟨b, 2, none⟩ = some bd := by rw [cell_of_row W b 2 _ 56 (0, 0) h.heap]; rfl
theorem KyX.c3 {W : World} {b : Nat} {m k bd r : Value} (h : KyX W b m k bd r) : W.cell? ⟨b, 3, none⟩ = some r := by rw [cell_of_row W b 3 _ 56 (0, 0) h.heap]; rfl
theorem KyX.fz {W : World} {b : Nat} {m k bd r : Value} (h : KyX W b m k bd r) (j : Nat) : W.frozen? ⟨b, j, none⟩ = false := frozen_of_row W b j _ 56 h.heap
theorem KyX.new (W : World) (m k bd r : Value) : KyX (W.alloc (.cells #[m, k, bd, r] 56)) W.heap.size m k bd r := ⟨heap_alloc_new W _⟩
/-- What is known of a list of patterns, read. -/
def RdF (W : World) (A : Option Addr) (l : List Fs) : Prop := ∀ (j : Nat) a, l[j]? = some a → ∃ g o, A = some ⟨g, o, none⟩ ∧ g < W.heap.size ∧ W.cell? ⟨g, o + j * 6, none⟩ = some (.int .u64 (wd a.st 0)) ∧ W.cell? ⟨g, o + j * 6 + 1, none⟩ = some (.int .u64 (wd a.st 1)) ∧ W.cell? ⟨g, o + j * 6 + 2, none⟩ = some (.int .u64 (wd a.st 2)) ∧ W.cell? ⟨g, o + j * 6 + 3, none⟩ = some (.int .u64 (wd a.st 3)) ∧ W.cell? ⟨g, o + j * 6 + 4, none⟩ = some (.bool a.em) ∧ W.cell? ⟨g, o + j * 6 + 5, none⟩ = some (.bool a.hf)
theorem RdF.later {W W' : World} {A : Option Addr} {l : List Fs} (h : RdF W A l) (hb : Below W.heap.size W W') : RdF W' A l := fun j a hj => by
  obtain ⟨g, o, e, lt, c0, c1, c2, c3, c4, c5⟩ := h j a hj
  have k : ∀ q, W'.cell? ⟨g, q, none⟩ = W.cell? ⟨g, q, none⟩ := fun q => hb.cell (p := ⟨g, q, none⟩) lt
  exact ⟨g, o, e, Nat.lt_of_lt_of_le lt hb.size, (k _).trans c0, (k _).trans c1, (k _).trans c2, (k _).trans c3, (k _).trans c4, (k _).trans c5⟩
/-- Parts, read. -/
def RdQ (W : World) (A : Option Addr) (l : List (Fs × Bool)) : Prop := ∀ (j : Nat) a, l[j]? = some a → ∃ g o, A = some ⟨g, o, none⟩ ∧ g < W.heap.size ∧ W.cell? ⟨g, o + j * 7, none⟩ = some (.int .u64 (wd a.1.st 0)) ∧ W.cell? ⟨g, o + j * 7 + 1, none⟩ = some (.int .u64 (wd a.1.st 1)) ∧ W.cell? ⟨g, o + j * 7 + 2, none⟩ = some (.int .u64 (wd a.1.st 2)) ∧ W.cell? ⟨g, o + j * 7 + 3, none⟩ = some (.int .u64 (wd a.1.st 3)) ∧ W.cell? ⟨g, o + j * 7 + 4, none⟩ = some (.bool a.1.em) ∧ W.cell? ⟨g, o + j * 7 + 5, none⟩ = some (.bool a.1.hf) ∧ W.cell? ⟨g, o + j * 7 + 6, none⟩ = some (.bool a.2)
theorem RdQ.later {W W' : World} {A : Option Addr} {l : List (Fs × Bool)} (h : RdQ W A l) (hb : Below W.heap.size W W') : RdQ W' A l := fun j a hj => by
  obtain ⟨g, o, e, lt, c0, c1, c2, c3, c4, c5, c6⟩ := h j a hj
  have k : ∀ q, W'.cell? ⟨g, q, none⟩ = W.cell? ⟨g, q, none⟩ := fun q => hb.cell (p := ⟨g, q, none⟩) lt
  exact ⟨g, o, e, Nat.lt_of_lt_of_le lt hb.size, (k _).trans c0, (k _).trans c1, (k _).trans c2, (k _).trans c3, (k _).trans c4, (k _).trans c5, (k _).trans c6⟩
/-- Boxes of node: what is known, the node, the answer. -/
structure NoF (w wr : World) (m k bd r : Value) (n : Nd) : Prop where
  b : Below w.heap.size w wr
  k : KyX wr w.heap.size m k bd r
  n : NX wr (w.heap.size + 1) n
  z : FX wr (w.heap.size + 1 + 1) f0
theorem NoF.later {w wr w2 : World} {m k bd r : Value} {n : Nd} (h : NoF w wr m k bd r n) (hb : Below wr.heap.size wr w2) : NoF w w2 m k bd r n := ⟨h.b.trans (hb.mono h.b.size), h.k.below hb, nx_later h.n hb, h.z.below hb⟩
theorem NoF.new (w : World) (m k bd r : Value) (n : Nd) : NoF w (((w.alloc (.cells #[m, k, bd, r] 56)).alloc (ndO n)).alloc (.cells #[.int .u64 0, .int .u64 0, .int .u64 0, .int .u64 0, .bool false, .bool false] 36)) m k bd r n := by
  have e1 := World.size_alloc w (.cells #[m, k, bd, r] 56)
  have e2 := World.size_alloc (w.alloc (.cells #[m, k, bd, r] 56)) (ndO n)
  have hz := FX.new ((w.alloc (.cells #[m, k, bd, r] 56)).alloc (ndO n)) f0
  have z0 : ∀ i, wd f0.st i = 0 := fun i => wd_zero i
  rw [z0, z0, z0, z0] at hz
  have hn : NX ((w.alloc (.cells #[m, k, bd, r] 56)).alloc (ndO n)) (w.alloc (.cells #[m, k, bd, r] 56)).heap.size n := ⟨heap_alloc_new _ _⟩
  refine ⟨((below_box w _).trans ((below_box _ _).mono (by omega))).trans ((below_box _ _).mono (by omega)), ((KyX.new w m k bd r).below (below_box _ _)).below (below_box _ _), ?_, ?_⟩
  · rw [e1] at hn
    exact nx_later hn (below_box _ _)
  · rw [e2, e1] at hz
    exact hz
/-- What the answer's box holds in the end. -/
theorem NoF.fin {w wr : World} {m k bd r : Value} {n : Nd} (h : NoF w wr m k bd r n) (a : Fs) : FX (sF wr (w.heap.size + 1 + 1) a) (w.heap.size + 1 + 1) a ∧ Below w.heap.size w (sF wr (w.heap.size + 1 + 1) a) := ⟨sF_fx h.z _, sF_below _ _ h.b (by omega)⟩

set_option maxRecDepth 100000 in
set_option maxHeartbeats 8000000 in
theorem fsNode_1 (nn : Int) (tx : ByteArray) (s0 s1 s2 s3 : Int) (m k bd r : Value) (A : Option Addr) (np cp : Nat)  (w : World)  :
    Calls Tryz.prog 44 #[.agg #[m, k, bd, r], .agg #[.int .i64 1, .int .i64 nn, .string tx, .int .u64 s0, .int .u64 s1, .int .u64 s2, .int .u64 s3], .slice A np cp] w fun e w' => e = .returned (fG ⟨0#256, true, false⟩) ∧ Below w.heap.size w w' := by
  have hs := NoF.new w m k bd r ⟨1, nn, tx, s0, s1, s2, s3⟩
  obtain ⟨w1, hw1⟩ : ∃ w1, w1 = ((w.alloc (.cells #[m, k, bd, r] 56)).alloc (.cells #[.int .i64 1, .int .i64 nn, .string tx, .int .u64 s0, .int .u64 s1, .int .u64 s2, .int .u64 s3] 70)).alloc (.cells #[.int .u64 0, .int .u64 0, .int .u64 0, .int .u64 0, .bool false, .bool false] 36) := ⟨_, rfl⟩
  have hs : NoF w w1 m k bd r ⟨1, nn, tx, s0, s1, s2, s3⟩ := by rw [hw1]; exact hs
  have HE := (show Hid (((w.alloc (.cells #[m, k, bd, r] 56)).alloc (.cells #[.int .i64 1, .int .i64 nn, .string tx, .int .u64 s0, .int .u64 s1, .int .u64 s2, .int .u64 s3] 70)).alloc (.cells #[.int .u64 0, .int .u64 0, .int .u64 0, .int .u64 0, .bool false, .bool false] 36) = w1) from hw1.symm)
  have HS := (show Hid (NoF w w1 m k bd r ⟨1, nn, tx, s0, s1, s2, s3⟩) from hs)
  have c0 : w1.cell? ⟨w.heap.size + 1, 0, none⟩ = some (.int .i64 1) := hs.n.nb.c0
  have c1 : w1.cell? ⟨w.heap.size + 1, 1, none⟩ = some (.int .i64 nn) := hs.n.nb.c1
  have c2 : w1.cell? ⟨w.heap.size + 1, 2, none⟩ = some (.string tx) := hs.n.nb.c2
  have c3 : w1.cell? ⟨w.heap.size + 1, 3, none⟩ = some (.int .u64 s0) := hs.n.nb.c3
  have c4 : w1.cell? ⟨w.heap.size + 1, 4, none⟩ = some (.int .u64 s1) := hs.n.nb.c4
  have c5 : w1.cell? ⟨w.heap.size + 1, 5, none⟩ = some (.int .u64 s2) := hs.n.nb.c5
  have c6 : w1.cell? ⟨w.heap.size + 1, 6, none⟩ = some (.int .u64 s3) := hs.n.nb.c6
  have z0 := hs.z.c0
  have z1 := hs.z.c1
  have z2 := hs.z.c2
  have z3 := hs.z.c3
  have z4 := hs.z.c4
  have z5 := hs.z.c5
  have zf := hs.z.fz
  clear hw1
  have HF := (show Hid _ from HS.out.fin ⟨0#256, true, false⟩)
  unfold sF at HF
  simp only [wd_zero] at HF
  clear hs
  go_enter Tryz.func44, Tryz.ntmps44
  go_wp2_with (rw [HE.out])
  exact ret_f rfl rfl rfl HF.out.1 ⟨rfl, HF.out.2⟩

set_option maxRecDepth 100000 in
set_option maxHeartbeats 8000000 in
theorem fsNode_17 (nn : Int) (tx : ByteArray) (s0 s1 s2 s3 : Int) (m k bd r : Value) (A : Option Addr) (np cp : Nat)  (w : World)  :
    Calls Tryz.prog 44 #[.agg #[m, k, bd, r], .agg #[.int .i64 17, .int .i64 nn, .string tx, .int .u64 s0, .int .u64 s1, .int .u64 s2, .int .u64 s3], .slice A np cp] w fun e w' => e = .returned (fG ⟨0#256, true, false⟩) ∧ Below w.heap.size w w' := by
  have hs := NoF.new w m k bd r ⟨17, nn, tx, s0, s1, s2, s3⟩
  obtain ⟨w1, hw1⟩ : ∃ w1, w1 = ((w.alloc (.cells #[m, k, bd, r] 56)).alloc (.cells #[.int .i64 17, .int .i64 nn, .string tx, .int .u64 s0, .int .u64 s1, .int .u64 s2, .int .u64 s3] 70)).alloc (.cells #[.int .u64 0, .int .u64 0, .int .u64 0, .int .u64 0, .bool false, .bool false] 36) := ⟨_, rfl⟩
  have hs : NoF w w1 m k bd r ⟨17, nn, tx, s0, s1, s2, s3⟩ := by rw [hw1]; exact hs
  have HE := (show Hid (((w.alloc (.cells #[m, k, bd, r] 56)).alloc (.cells #[.int .i64 17, .int .i64 nn, .string tx, .int .u64 s0, .int .u64 s1, .int .u64 s2, .int .u64 s3] 70)).alloc (.cells #[.int .u64 0, .int .u64 0, .int .u64 0, .int .u64 0, .bool false, .bool false] 36) = w1) from hw1.symm)
  have HS := (show Hid (NoF w w1 m k bd r ⟨17, nn, tx, s0, s1, s2, s3⟩) from hs)
  have c0 : w1.cell? ⟨w.heap.size + 1, 0, none⟩ = some (.int .i64 17) := hs.n.nb.c0
  have c1 : w1.cell? ⟨w.heap.size + 1, 1, none⟩ = some (.int .i64 nn) := hs.n.nb.c1
  have c2 : w1.cell? ⟨w.heap.size + 1, 2, none⟩ = some (.string tx) := hs.n.nb.c2
  have c3 : w1.cell? ⟨w.heap.size + 1, 3, none⟩ = some (.int .u64 s0) := hs.n.nb.c3
  have c4 : w1.cell? ⟨w.heap.size + 1, 4, none⟩ = some (.int .u64 s1) := hs.n.nb.c4
  have c5 : w1.cell? ⟨w.heap.size + 1, 5, none⟩ = some (.int .u64 s2) := hs.n.nb.c5
  have c6 : w1.cell? ⟨w.heap.size + 1, 6, none⟩ = some (.int .u64 s3) := hs.n.nb.c6
  have z0 := hs.z.c0
  have z1 := hs.z.c1
  have z2 := hs.z.c2
  have z3 := hs.z.c3
  have z4 := hs.z.c4
  have z5 := hs.z.c5
  have zf := hs.z.fz
  clear hw1
  have HF := (show Hid _ from HS.out.fin ⟨0#256, true, false⟩)
  unfold sF at HF
  simp only [wd_zero] at HF
  clear hs
  go_enter Tryz.func44, Tryz.ntmps44
  go_wp2_with (rw [HE.out])
  exact ret_f rfl rfl rfl HF.out.1 ⟨rfl, HF.out.2⟩

set_option maxRecDepth 100000 in
set_option maxHeartbeats 8000000 in
theorem fsNode_2 (nn : Int) (tx : ByteArray) (s0 s1 s2 s3 : Int) (m k bd r : Value) (A : Option Addr) (np cp : Nat)  (w : World)  :
    Calls Tryz.prog 44 #[.agg #[m, k, bd, r], .agg #[.int .i64 2, .int .i64 nn, .string tx, .int .u64 s0, .int .u64 s1, .int .u64 s2, .int .u64 s3], .slice A np cp] w fun e w' => e = .returned (fG ⟨0#256, false, true⟩) ∧ Below w.heap.size w w' := by
  have hs := NoF.new w m k bd r ⟨2, nn, tx, s0, s1, s2, s3⟩
  obtain ⟨w1, hw1⟩ : ∃ w1, w1 = ((w.alloc (.cells #[m, k, bd, r] 56)).alloc (.cells #[.int .i64 2, .int .i64 nn, .string tx, .int .u64 s0, .int .u64 s1, .int .u64 s2, .int .u64 s3] 70)).alloc (.cells #[.int .u64 0, .int .u64 0, .int .u64 0, .int .u64 0, .bool false, .bool false] 36) := ⟨_, rfl⟩
  have hs : NoF w w1 m k bd r ⟨2, nn, tx, s0, s1, s2, s3⟩ := by rw [hw1]; exact hs
  have HE := (show Hid (((w.alloc (.cells #[m, k, bd, r] 56)).alloc (.cells #[.int .i64 2, .int .i64 nn, .string tx, .int .u64 s0, .int .u64 s1, .int .u64 s2, .int .u64 s3] 70)).alloc (.cells #[.int .u64 0, .int .u64 0, .int .u64 0, .int .u64 0, .bool false, .bool false] 36) = w1) from hw1.symm)
  have HS := (show Hid (NoF w w1 m k bd r ⟨2, nn, tx, s0, s1, s2, s3⟩) from hs)
  have c0 : w1.cell? ⟨w.heap.size + 1, 0, none⟩ = some (.int .i64 2) := hs.n.nb.c0
  have c1 : w1.cell? ⟨w.heap.size + 1, 1, none⟩ = some (.int .i64 nn) := hs.n.nb.c1
  have c2 : w1.cell? ⟨w.heap.size + 1, 2, none⟩ = some (.string tx) := hs.n.nb.c2
  have c3 : w1.cell? ⟨w.heap.size + 1, 3, none⟩ = some (.int .u64 s0) := hs.n.nb.c3
  have c4 : w1.cell? ⟨w.heap.size + 1, 4, none⟩ = some (.int .u64 s1) := hs.n.nb.c4
  have c5 : w1.cell? ⟨w.heap.size + 1, 5, none⟩ = some (.int .u64 s2) := hs.n.nb.c5
  have c6 : w1.cell? ⟨w.heap.size + 1, 6, none⟩ = some (.int .u64 s3) := hs.n.nb.c6
  have z0 := hs.z.c0
  have z1 := hs.z.c1
  have z2 := hs.z.c2
  have z3 := hs.z.c3
  have z4 := hs.z.c4
  have z5 := hs.z.c5
  have zf := hs.z.fz
  clear hw1
  have HF := (show Hid _ from HS.out.fin ⟨0#256, false, true⟩)
  unfold sF at HF
  simp only [wd_zero] at HF
  clear hs
  go_enter Tryz.func44, Tryz.ntmps44
  go_wp2_with (rw [HE.out])
  exact ret_f rfl rfl rfl HF.out.1 ⟨rfl, HF.out.2⟩

set_option maxRecDepth 100000 in
set_option maxHeartbeats 8000000 in
theorem fsNode_5 (nn : Int) (tx : ByteArray) (x : BitVec 256) (m k bd r : Value) (A : Option Addr) (np cp : Nat)  (w : World)  :
    Calls Tryz.prog 44 #[.agg #[m, k, bd, r], .agg #[.int .i64 5, .int .i64 nn, .string tx, .int .u64 (wd x 0), .int .u64 (wd x 1), .int .u64 (wd x 2), .int .u64 (wd x 3)], .slice A np cp] w fun e w' => e = .returned (fG ⟨x, false, true⟩) ∧ Below w.heap.size w w' := by
  have hs := NoF.new w m k bd r ⟨5, nn, tx, (wd x 0), (wd x 1), (wd x 2), (wd x 3)⟩
  obtain ⟨w1, hw1⟩ : ∃ w1, w1 = ((w.alloc (.cells #[m, k, bd, r] 56)).alloc (.cells #[.int .i64 5, .int .i64 nn, .string tx, .int .u64 (wd x 0), .int .u64 (wd x 1), .int .u64 (wd x 2), .int .u64 (wd x 3)] 70)).alloc (.cells #[.int .u64 0, .int .u64 0, .int .u64 0, .int .u64 0, .bool false, .bool false] 36) := ⟨_, rfl⟩
  have hs : NoF w w1 m k bd r ⟨5, nn, tx, (wd x 0), (wd x 1), (wd x 2), (wd x 3)⟩ := by rw [hw1]; exact hs
  have HE := (show Hid (((w.alloc (.cells #[m, k, bd, r] 56)).alloc (.cells #[.int .i64 5, .int .i64 nn, .string tx, .int .u64 (wd x 0), .int .u64 (wd x 1), .int .u64 (wd x 2), .int .u64 (wd x 3)] 70)).alloc (.cells #[.int .u64 0, .int .u64 0, .int .u64 0, .int .u64 0, .bool false, .bool false] 36) = w1) from hw1.symm)
  have HS := (show Hid (NoF w w1 m k bd r ⟨5, nn, tx, (wd x 0), (wd x 1), (wd x 2), (wd x 3)⟩) from hs)
  have c0 : w1.cell? ⟨w.heap.size + 1, 0, none⟩ = some (.int .i64 5) := hs.n.nb.c0
  have c1 : w1.cell? ⟨w.heap.size + 1, 1, none⟩ = some (.int .i64 nn) := hs.n.nb.c1
  have c2 : w1.cell? ⟨w.heap.size + 1, 2, none⟩ = some (.string tx) := hs.n.nb.c2
  have c3 : w1.cell? ⟨w.heap.size + 1, 3, none⟩ = some (.int .u64 (wd x 0)) := hs.n.nb.c3
  have c4 : w1.cell? ⟨w.heap.size + 1, 4, none⟩ = some (.int .u64 (wd x 1)) := hs.n.nb.c4
  have c5 : w1.cell? ⟨w.heap.size + 1, 5, none⟩ = some (.int .u64 (wd x 2)) := hs.n.nb.c5
  have c6 : w1.cell? ⟨w.heap.size + 1, 6, none⟩ = some (.int .u64 (wd x 3)) := hs.n.nb.c6
  have z0 := hs.z.c0
  have z1 := hs.z.c1
  have z2 := hs.z.c2
  have z3 := hs.z.c3
  have z4 := hs.z.c4
  have z5 := hs.z.c5
  have zf := hs.z.fz
  clear hw1
  have HF := (show Hid _ from HS.out.fin ⟨x, false, true⟩)
  unfold sF at HF
  simp only [] at HF
  clear hs
  go_enter Tryz.func44, Tryz.ntmps44
  go_wp2_with (rw [HE.out])
  exact ret_f rfl rfl rfl HF.out.1 ⟨rfl, HF.out.2⟩

set_option maxRecDepth 100000 in
set_option maxHeartbeats 8000000 in
theorem fsNode_3 (nn : Int) (tx : ByteArray) (s0 s1 s2 s3 : Int) (m k bd r : Value) (A : Option Addr) (np cp : Nat)  (w : World)  :
    Calls Tryz.prog 44 #[.agg #[m, k, bd, r], .agg #[.int .i64 3, .int .i64 nn, .string tx, .int .u64 s0, .int .u64 s1, .int .u64 s2, .int .u64 s3], .slice A np cp] w fun e w' => e = .returned (fG ⟨~~~ 0#256, false, true⟩) ∧ Below w.heap.size w w' := by
  have hs := NoF.new w m k bd r ⟨3, nn, tx, s0, s1, s2, s3⟩
  obtain ⟨w1, hw1⟩ : ∃ w1, w1 = ((w.alloc (.cells #[m, k, bd, r] 56)).alloc (.cells #[.int .i64 3, .int .i64 nn, .string tx, .int .u64 s0, .int .u64 s1, .int .u64 s2, .int .u64 s3] 70)).alloc (.cells #[.int .u64 0, .int .u64 0, .int .u64 0, .int .u64 0, .bool false, .bool false] 36) := ⟨_, rfl⟩
  have hs : NoF w w1 m k bd r ⟨3, nn, tx, s0, s1, s2, s3⟩ := by rw [hw1]; exact hs
  have HE := (show Hid (((w.alloc (.cells #[m, k, bd, r] 56)).alloc (.cells #[.int .i64 3, .int .i64 nn, .string tx, .int .u64 s0, .int .u64 s1, .int .u64 s2, .int .u64 s3] 70)).alloc (.cells #[.int .u64 0, .int .u64 0, .int .u64 0, .int .u64 0, .bool false, .bool false] 36) = w1) from hw1.symm)
  have HS := (show Hid (NoF w w1 m k bd r ⟨3, nn, tx, s0, s1, s2, s3⟩) from hs)
  have c0 : w1.cell? ⟨w.heap.size + 1, 0, none⟩ = some (.int .i64 3) := hs.n.nb.c0
  have c1 : w1.cell? ⟨w.heap.size + 1, 1, none⟩ = some (.int .i64 nn) := hs.n.nb.c1
  have c2 : w1.cell? ⟨w.heap.size + 1, 2, none⟩ = some (.string tx) := hs.n.nb.c2
  have c3 : w1.cell? ⟨w.heap.size + 1, 3, none⟩ = some (.int .u64 s0) := hs.n.nb.c3
  have c4 : w1.cell? ⟨w.heap.size + 1, 4, none⟩ = some (.int .u64 s1) := hs.n.nb.c4
  have c5 : w1.cell? ⟨w.heap.size + 1, 5, none⟩ = some (.int .u64 s2) := hs.n.nb.c5
  have c6 : w1.cell? ⟨w.heap.size + 1, 6, none⟩ = some (.int .u64 s3) := hs.n.nb.c6
  have z0 := hs.z.c0
  have z1 := hs.z.c1
  have z2 := hs.z.c2
  have z3 := hs.z.c3
  have z4 := hs.z.c4
  have z5 := hs.z.c5
  have zf := hs.z.fz
  clear hw1
  have HNt := (show Hid (∀ W, Calls Tryz.prog 60 #[.agg #[.int .u64 0, .int .u64 0, .int .u64 0, .int .u64 0]] W fun e w' => e = .returned (sv (~~~ 0#256)) ∧ Below W.heap.size W w') from fun W => by
    have h := not_any 0#256 W
    unfold sv at h
    rw [wd_zero, wd_zero, wd_zero, wd_zero] at h
    exact h)
  clear hs z0 z1 z2 z3 z4 z5 zf
  go_enter Tryz.func44, Tryz.ntmps44
  go_wp2_with (rw [HE.out])
  refine (HNt.out _).mono ?_
  rintro e w2 ⟨rfl, b2⟩
  have HS2 := (show Hid (NoF w w2 m k bd r ⟨3, nn, tx, s0, s1, s2, s3⟩) from HS.out.later b2)
  have z0 := HS2.out.z.c0
  have z1 := HS2.out.z.c1
  have z2 := HS2.out.z.c2
  have z3 := HS2.out.z.c3
  have z4 := HS2.out.z.c4
  have z5 := HS2.out.z.c5
  have zf := HS2.out.z.fz
  have HF := (show Hid _ from HS2.out.fin ⟨~~~ 0#256, false, true⟩)
  unfold sF at HF
  clear b2 HNt HE HS
  go_wp2_with fail
  exact ret_f rfl rfl rfl HF.out.1 ⟨rfl, HF.out.2⟩

set_option maxRecDepth 100000 in
set_option maxHeartbeats 8000000 in
theorem fsNode_6 (nn : Int) (tx : ByteArray) (s0 s1 s2 s3 : Int) (k bd : Value) (A : Option Addr) (np cp : Nat) (gs : GL) (fs : List Fs) (i mb : Nat) (a : Fs) (Ar : Option Addr) (cr : Nat) (w : World) (hm : NmM w mb gs) (ht : tx.size ≤ 140737488355328) (hi : fdG gs tx = some i) (hl : fs.length = gs.length) (ha : fs[i]? = some a) (hr : RdF w Ar fs) :
    Calls Tryz.prog 44 #[.agg #[.map (some mb), k, bd, .slice Ar gs.length cr], .agg #[.int .i64 6, .int .i64 nn, .string tx, .int .u64 s0, .int .u64 s1, .int .u64 s2, .int .u64 s3], .slice A np cp] w fun e w' => e = .returned (fG a) ∧ Below w.heap.size w w' := by
  have hs := NoF.new w (.map (some mb)) k bd (.slice Ar gs.length cr) ⟨6, nn, tx, s0, s1, s2, s3⟩
  obtain ⟨w1, hw1⟩ : ∃ w1, w1 = ((w.alloc (.cells #[.map (some mb), k, bd, .slice Ar gs.length cr] 56)).alloc (.cells #[.int .i64 6, .int .i64 nn, .string tx, .int .u64 s0, .int .u64 s1, .int .u64 s2, .int .u64 s3] 70)).alloc (.cells #[.int .u64 0, .int .u64 0, .int .u64 0, .int .u64 0, .bool false, .bool false] 36) := ⟨_, rfl⟩
  have hs : NoF w w1 (.map (some mb)) k bd (.slice Ar gs.length cr) ⟨6, nn, tx, s0, s1, s2, s3⟩ := by rw [hw1]; exact hs
  have HE := (show Hid (((w.alloc (.cells #[.map (some mb), k, bd, .slice Ar gs.length cr] 56)).alloc (.cells #[.int .i64 6, .int .i64 nn, .string tx, .int .u64 s0, .int .u64 s1, .int .u64 s2, .int .u64 s3] 70)).alloc (.cells #[.int .u64 0, .int .u64 0, .int .u64 0, .int .u64 0, .bool false, .bool false] 36) = w1) from hw1.symm)
  have HS := (show Hid (NoF w w1 (.map (some mb)) k bd (.slice Ar gs.length cr) ⟨6, nn, tx, s0, s1, s2, s3⟩) from hs)
  have c0 : w1.cell? ⟨w.heap.size + 1, 0, none⟩ = some (.int .i64 6) := hs.n.nb.c0
  have c1 : w1.cell? ⟨w.heap.size + 1, 1, none⟩ = some (.int .i64 nn) := hs.n.nb.c1
  have c2 : w1.cell? ⟨w.heap.size + 1, 2, none⟩ = some (.string tx) := hs.n.nb.c2
  have c3 : w1.cell? ⟨w.heap.size + 1, 3, none⟩ = some (.int .u64 s0) := hs.n.nb.c3
  have c4 : w1.cell? ⟨w.heap.size + 1, 4, none⟩ = some (.int .u64 s1) := hs.n.nb.c4
  have c5 : w1.cell? ⟨w.heap.size + 1, 5, none⟩ = some (.int .u64 s2) := hs.n.nb.c5
  have c6 : w1.cell? ⟨w.heap.size + 1, 6, none⟩ = some (.int .u64 s3) := hs.n.nb.c6
  have z0 := hs.z.c0
  have z1 := hs.z.c1
  have z2 := hs.z.c2
  have z3 := hs.z.c3
  have z4 := hs.z.c4
  have z5 := hs.z.c5
  have zf := hs.z.fz
  clear hw1
  obtain ⟨g, o, rfl, lg, r0, r1, r2, r3, r4, r5⟩ := (hr.later hs.b) i a ha
  have hrun := NmM.look0 (hm.later hs.b) ht hi
  have hil := (List.getElem?_eq_some_iff.1 ha).1
  have y0 := hs.k.c0
  have y3 := hs.k.c3
  have q0 : (0 : Int) ≤ (i : Int) := by omega
  have q1 : (i : Int) < (gs.length : Int) := by omega
  have HF := (show Hid _ from HS.out.fin a)
  unfold sF at HF
  clear hs hm hi ha hr hl lg hil
  go_enter Tryz.func44, Tryz.ntmps44
  go_wp2_with (rw [HE.out])
  exact ret_f rfl rfl rfl HF.out.1 ⟨rfl, HF.out.2⟩
end Go.Proofs.YtbnihflihelimaaGreat.N

namespace Go.Proofs.YtbnihflihelimaaGreat.N
open Go.RowKit Go.Maps
open Go.Proofs.YtbnihflihelimaaGreat.T
/-- A call gives way to a node that can fail just if the rule can. -/
def cfB (gs : GL) (now : List Em) (s : ByteArray) : Bool := !(lkE gs now s).cf

open U (below_grown)
theorem seL_at {nu : ByteArray → Bool} {L : List Nd} {k : Nat} {n : Nd} (hn : L[k]? = some n) : (((L.take k).map (seN nu) ++ L.drop k).set k (seN nu n)) = (L.take (k + 1)).map (seN nu) ++ L.drop (k + 1) := by
  have hk := (List.getElem?_eq_some_iff.1 hn).1
  have hl : ((L.take k).map (seN nu)).length = k := by rw [List.length_map, List.length_take]; omega
  rw [List.set_append_right _ _ (by omega), hl, Nat.sub_self, List.take_add_one, hn, List.map_append]
  have hd : L.drop k = n :: L.drop (k + 1) := by
    rw [List.drop_eq_getElem_cons hk]
    congr 1
    exact Option.some.inj ((List.getElem?_eq_getElem hk).symm.trans hn)
  rw [hd, List.set_cons_zero]
  simp
theorem seL_get {nu : ByteArray → Bool} {L : List Nd} {k : Nat} {n : Nd} (hn : L[k]? = some n) : ((L.take k).map (seN nu) ++ L.drop k)[k]? = some n := by
  have hk := (List.getElem?_eq_some_iff.1 hn).1
  have hl : ((L.take k).map (seN nu)).length = k := by rw [List.length_map, List.length_take]; omega
  rw [List.getElem?_append_right (by omega), hl, Nat.sub_self, List.getElem?_drop]
  exact hn
/-- While calls give way. -/
structure SeS (w wr : World) (m kn bd rv : Value) (g cap n0 : Nat) (M : List Nd) : Prop where
  b : Below w.heap.size w wr
  x : KyX wr w.heap.size m kn bd rv
  o : wr.ownsRow (w.heap.size + 1) 70 7 (.slice (some ⟨g, 0, none⟩) n0 cap) n0 (ndc M)
  l : M.length = n0
  g1 : w.heap.size + 1 ≤ g
  g2 : g < wr.heap.size
theorem SeS.later {w wr w2 : World} {m kn bd rv : Value} {g cap n0 : Nat} {M : List Nd} (h : SeS w wr m kn bd rv g cap n0 M) (hb : Below wr.heap.size wr w2) : SeS w w2 m kn bd rv g cap n0 M :=
  ⟨h.b.trans (hb.mono h.b.size), h.x.below hb, U.own_below h.o hb, h.l, h.g1, Nat.lt_of_lt_of_le h.g2 hb.size⟩
theorem SeS.put {w wr : World} {m kn bd rv : Value} {g cap n0 k : Nat} {M : List Nd} (h : SeS w wr m kn bd rv g cap n0 M) (hk : k < n0) (n : Nd) : SeS w (nw7 wr g (k * 7) n) m kn bd rv g cap n0 (M.set k n) ∧ (∀ j, j ≠ g → (nw7 wr g (k * 7) n).heap[j]? = wr.heap[j]?) ∧ (nw7 wr g (k * 7) n).heap.size = wr.heap.size := by
  obtain ⟨h1, h2⟩ := nw7_own n h.o (by rw [h.l]; exact hk)
  have hz : (nw7 wr g (k * 7) n).heap.size = wr.heap.size := by unfold nw7; simp only [World.size_setCell]
  have hj : ∀ j, j ≠ g → (nw7 wr g (k * 7) n).heap[j]? = wr.heap[j]? := fun j hj => by
    unfold nw7
    exact ((((((heap_setCell_other _ ⟨g, _, none⟩ j _ hj).trans (heap_setCell_other _ ⟨g, _, none⟩ j _ hj)).trans (heap_setCell_other _ ⟨g, _, none⟩ j _ hj)).trans (heap_setCell_other _ ⟨g, _, none⟩ j _ hj)).trans (heap_setCell_other _ ⟨g, _, none⟩ j _ hj)).trans (heap_setCell_other _ ⟨g, _, none⟩ j _ hj)).trans (heap_setCell_other _ ⟨g, _, none⟩ j _ hj)
  have hg := h.g1
  refine ⟨⟨below_grown h.b h2 (fun k e => by cases e; omega), h.x.same (hj _ (by omega)), h1, by rw [List.length_set]; exact h.l, h.g1, by rw [hz]; exact h.g2⟩, hj, hz⟩
set_option maxRecDepth 100000 in
set_option maxHeartbeats 32000000 in
theorem fsSettled_any {gs : GL} {now : List Em} {L : List Nd} (mb : Nat) (bd rv : Value) (Ak : Option Addr) (ad : Addr) (ck cp : Nat) (hl : L.length ≤ 2048) (h0 : L ≠ []) (hsz : ∀ n ∈ L, n.tx.size ≤ 140737488355328) (hfd : ∀ n ∈ L, n.op = 6 → ∃ i, fdG gs n.tx = some i) (w : World) (hm : NmM w mb gs) (hk : RdE w Ak now) (hn : now.length = gs.length) (hL : RdN w (some ad) L) :
    Calls Tryz.prog 69 #[.agg #[.map (some mb), .slice Ak gs.length ck, bd, rv], .slice (some ad) L.length cp] w fun e w' => (∃ g cap, e = .returned (.slice (some ⟨g, 0, none⟩) L.length cap) ∧ w'.ownsRow w.heap.size 70 7 (.slice (some ⟨g, 0, none⟩) L.length cap) L.length (ndc (seL (cfB gs now) L))) ∧ Below w.heap.size w w' := by
  obtain ⟨nu, hnu⟩ : ∃ nu, nu = cfB gs now := ⟨_, rfl⟩
  obtain ⟨w1, hw1⟩ : ∃ w1, w1 = w.alloc (.cells #[.map (some mb), .slice Ak gs.length ck, bd, rv] 56) := ⟨_, rfl⟩
  have HE1 := (show Hid (w.alloc (.cells #[.map (some mb), .slice Ak gs.length ck, bd, rv] 56) = w1) from hw1.symm)
  have hb1 : Below w.heap.size w w1 := by rw [hw1]; exact below_box _ _
  have hs1 : w1.heap.size = w.heap.size + 1 := by rw [hw1, World.size_alloc]
  have hx1 : KyX w1 w.heap.size (.map (some mb)) (.slice Ak gs.length ck) bd rv := by rw [hw1]; exact KyX.new w _ _ _ _
  have hml := hm.lt
  have HL := (show Hid (∀ (j : Nat) u, (ndc L)[j]? = some u → w1.cell? (ad.add j) = some u) from fun j u hj => in_cells (hL.below hb1 (Nat.le_refl _)) j u hj)
  have HCl := (show Hid (∀ _ : Unit, Calls Tryz.prog 85 #[.slice (some ad) L.length cp] w1 fun e w' => (∃ g cap, e = .returned (.slice (some ⟨g, 0, none⟩) L.length cap) ∧ w'.ownsRow w1.heap.size 70 7 (.slice (some ⟨g, 0, none⟩) L.length cap) L.length (ndc L)) ∧ Below w1.heap.size w1 w') from fun _ => clone_any ad cp L w1 h0 (by omega) HL.out)
  have HP := (show Hid (L ≠ [] ∧ Below w.heap.size w w1 ∧ w1.heap.size = w.heap.size + 1 ∧ KyX w1 w.heap.size (.map (some mb)) (.slice Ak gs.length ck) bd rv) from ⟨h0, hb1, hs1, hx1⟩)
  have HM := (show Hid (NmM w mb gs ∧ mb < w.heap.size ∧ RdE w Ak now ∧ now.length = gs.length) from ⟨hm, hml, hk, hn⟩)
  have HF := (show Hid (∀ n ∈ L, n.op = 6 → ∃ i e, fdG gs n.tx = some i ∧ now[i]? = some e ∧ e.cf = !nu n.tx ∧ n.tx.size ≤ 140737488355328) from fun n hn6 h6 => by
    obtain ⟨i, hi⟩ := hfd n hn6 h6
    have hil : i < now.length := by rw [hn]; exact fdG_lt hi
    refine ⟨i, now[i], hi, List.getElem?_eq_getElem hil, ?_, hsz n hn6⟩
    rw [hnu]
    unfold cfB lkE
    rw [hi]
    show _ = !!((now[i]?).getD e0).cf
    rw [List.getElem?_eq_getElem hil, Bool.not_not]
    rfl)
  have HR := (show Hid (∀ (g cap : Nat) (w' : World), w'.ownsRow w.heap.size 70 7 (.slice (some ⟨g, 0, none⟩) L.length cap) L.length (ndc (seL nu L)) → w'.ownsRow w.heap.size 70 7 (.slice (some ⟨g, 0, none⟩) L.length cap) L.length (ndc (seL (cfB gs now) L))) from fun g cap w' h => by rw [← hnu]; exact h)
  clear hw1 hb1 hs1 hx1 hml hm hk hn hL hfd hsz HL hnu h0
  go_enter Tryz.func69, Tryz.ntmps69
  go_wp2_with (rw [HE1.out])
  clear HE1
  refine (HCl.out ()).mono ?_
  rintro e w2 ⟨⟨g, cap, rfl, ho⟩, b2⟩
  have hg := ho.lt g rfl
  have HS := (show Hid (SeS w w2 (.map (some mb)) (.slice Ak gs.length ck) bd rv g cap L.length ((L.take 0).map (seN nu) ++ L.drop 0)) from by
    obtain ⟨h1, h2, h3, h4⟩ := HP.out
    rw [h3] at ho hg
    exact ⟨h2.trans (b2.mono h2.size), h4.below b2, ho, by simp, hg.1, hg.2⟩)
  clear ho hg b2 HCl HP
  go_wp2_with fail
  go_loopw [12] (fun t wr => ∃ k : Nat, k ≤ L.length ∧ t = .int .i64 (k : Int) ∧ Hid (SeS w wr (.map (some mb)) (.slice Ak gs.length ck) bd rv g cap L.length ((L.take k).map (seN nu) ++ L.drop k))) (fun t _ => L.length - (intOf t).toNat)
  case atStart => exact ⟨0, Nat.zero_le _, by go_num, HS⟩
  case round =>
    obtain ⟨k, hk, rfl, HW⟩ := hrel
    clear HS
    by_cases hlt : k < L.length
    · obtain ⟨n, hn⟩ : ∃ n, L[k]? = some n := ⟨_, List.getElem?_eq_getElem hlt⟩
      have HSt := (show Hid ((((L.take k).map (seN nu) ++ L.drop k).set k (seN nu n)) = (L.take (k + 1)).map (seN nu) ++ L.drop (k + 1)) from seL_at hn)
      have HGt := (show Hid (((L.take k).map (seN nu) ++ L.drop k)[k]? = some n) from seL_get hn)
      have HF2 := (show Hid (n.op = 6 → ∃ i e, fdG gs n.tx = some i ∧ now[i]? = some e ∧ e.cf = !nu n.tx ∧ n.tx.size ≤ 140737488355328) from HF.out n (List.mem_of_getElem? hn))
      clear hn
      generalize hM : (L.take k).map (seN nu) ++ L.drop k = M at HW HSt HGt
      clear hM
      generalize hM2 : (L.take (k + 1)).map (seN nu) ++ L.drop (k + 1) = M2 at HSt
      have HM2 := (show Hid ((L.take (k + 1)).map (seN nu) ++ L.drop (k + 1) = M2) from hM2)
      clear hM2
      obtain ⟨d0, d1, d2, d3, d4, d5, d6⟩ := own_ndl (xs := []) (by rw [List.append_nil]; exact HW.out.o) k n HGt.out
      rw [Nat.zero_add] at d0 d1 d2 d3 d4 d5 d6
      obtain ⟨w4, hw4⟩ : ∃ w4, w4 = wr.alloc (.cells #[.int .i64 n.op, .int .i64 n.nn, .string n.tx, .int .u64 n.s0, .int .u64 n.s1, .int .u64 n.s2, .int .u64 n.s3] 70) := ⟨_, rfl⟩
      have HE4 := (show Hid (wr.alloc (.cells #[.int .i64 n.op, .int .i64 n.nn, .string n.tx, .int .u64 n.s0, .int .u64 n.s1, .int .u64 n.s2, .int .u64 n.s3] 70) = w4) from hw4.symm)
      have hb4 : Below wr.heap.size wr w4 := by rw [hw4]; exact below_box _ _
      have HN4 := (show Hid (NX w4 wr.heap.size n) from by rw [hw4]; exact ⟨heap_alloc_new wr _⟩)
      have HS4 := (show Hid (SeS w w4 (.map (some mb)) (.slice Ak gs.length ck) bd rv g cap L.length M) from HW.out.later hb4)
      have q0 : w4.cell? ⟨wr.heap.size, 0, none⟩ = some (.int .i64 n.op) := HN4.out.nb.c0
      have z0 : (0 : Int) ≤ (k : Int) := by omega
      have z1 : (k : Int) < (L.length : Int) := by omega
      have hgr := HW.out.g2
      clear hw4 hb4 HW
      by_cases h6 : n.op = 6
      · have t6 : (n.op != 6) = false := by rw [h6]; rfl
        obtain ⟨i, e, hi, he, hnu, hts⟩ := HF2.out h6
        have hil := (List.getElem?_eq_some_iff.1 he).1
        have hne : now ≠ [] := by rintro rfl; cases he
        obtain ⟨w5, hw5⟩ : ∃ w5, w5 = nw7 w4 g (k * 7) (zN 1) := ⟨_, rfl⟩
        have HE5 := (show Hid (nw7 w4 g (k * 7) (zN 1) = w5) from hw5.symm)
        unfold nw7 zN at HE5
        simp only at HE5
        obtain ⟨p1, p2, p3⟩ := HS4.out.put hlt (zN 1)
        rw [← hw5] at p1 p2 p3
        have HS5 := (show Hid (SeS w w5 (.map (some mb)) (.slice Ak gs.length ck) bd rv g cap L.length (M.set k (zN 1))) from p1)
        have HN5 := (show Hid (NX w5 wr.heap.size n) from HN4.out.same (p2 _ (by omega)))
        have q2 : w5.cell? ⟨wr.heap.size, 2, none⟩ = some (.string n.tx) := HN5.out.nb.c2
        have v1 := HS5.out.x.c0
        have v2 := HS5.out.x.c1
        obtain ⟨ge, oe, rfl, lge, hEB⟩ := HM.out.2.2.1 hne
        obtain ⟨_, r0, _, _⟩ := (hEB i e he).same (HS5.out.b.block ge lge)
        have hrun := NmM.look0 (HM.out.1.same (HS5.out.b.block mb HM.out.2.1)) hts hi
        have z2 : (0 : Int) ≤ (i : Int) := by omega
        have z3 : (i : Int) < (gs.length : Int) := by have := HM.out.2.2.2; omega
        obtain ⟨e0', e1', e2', e3', e4', e5', e6'⟩ := own_ndl (xs := []) (by rw [List.append_nil]; exact HS4.out.o) k n HGt.out
        rw [Nat.zero_add] at e0' e1' e2' e3' e4' e5' e6'
        have f0 := HS4.out.o.frozenAt (k * 7)
        have f1 := HS4.out.o.frozenAt (k * 7 + 1)
        have f2 := HS4.out.o.frozenAt (k * 7 + 2)
        have f3 := HS4.out.o.frozenAt (k * 7 + 3)
        have f4 := HS4.out.o.frozenAt (k * 7 + 4)
        have f5 := HS4.out.o.frozenAt (k * 7 + 5)
        have f6 := HS4.out.o.frozenAt (k * 7 + 6)
        have H6 := (show Hid (n.op = 6) from h6)
        clear hw5 p1 p2 p3 hi he hts hne lge hEB hil HN4 HN5 h6
        cases hb : e.cf with
        | false =>
          rw [hb] at r0 hnu
          have hnx : nu n.tx = true := by cases h : nu n.tx <;> rw [h] at hnu <;> simp at hnu ⊢
          have HN := (show Hid (SeS w w5 (.map (some mb)) (.slice (some ⟨ge, oe, none⟩) gs.length ck) bd rv g cap L.length ((L.take (k + 1)).map (seN nu) ++ L.drop (k + 1))) from by
            rw [HM2.out, ← HSt.out]
            have e : seN nu n = zN 1 := by unfold seN; rw [if_pos H6.out, if_pos hnx]; rfl
            rw [e]
            exact HS5.out)
          clear HS4 HS5 HM2 HSt HGt HF2 HM HF HR hb hnu hnx H6
          go_wp2_with (first | rw [HE4.out] | rw [HE5.out])
          go_roundw
          case rel => exact ⟨k + 1, by omega, by go_num, HN⟩
          case measure => simp [intOf] <;> omega
        | true =>
          rw [hb] at r0 hnu
          have hnx : nu n.tx = false := by cases h : nu n.tx <;> rw [h] at hnu <;> simp at hnu ⊢
          obtain ⟨w6, hw6⟩ : ∃ w6, w6 = nw7 w5 g (k * 7) (zN 3) := ⟨_, rfl⟩
          have HE6 := (show Hid (nw7 w5 g (k * 7) (zN 3) = w6) from hw6.symm)
          unfold nw7 zN at HE6
          simp only at HE6
          have HGt5 := (show Hid ((M.set k (zN 1))[k]? = some (zN 1)) from List.getElem?_set_self (by rw [HS4.out.l]; exact hlt))
          have HN := (show Hid (SeS w w6 (.map (some mb)) (.slice (some ⟨ge, oe, none⟩) gs.length ck) bd rv g cap L.length ((L.take (k + 1)).map (seN nu) ++ L.drop (k + 1))) from by
            rw [HM2.out, ← HSt.out]
            have e : seN nu n = zN 3 := by unfold seN; rw [if_pos H6.out, if_neg (by rw [hnx]; exact Bool.noConfusion)]; rfl
            rw [e, hw6]
            have h := (HS5.out.put hlt (zN 3)).1
            rw [List.set_set] at h
            exact h)
          obtain ⟨g0', g1', g2', g3', g4', g5', g6'⟩ := own_ndl (xs := []) (by rw [List.append_nil]; exact HS5.out.o) k _ HGt5.out
          unfold zN at g0' g1' g2' g3' g4' g5' g6'
          rw [Nat.zero_add] at g0' g1' g2' g3' g4' g5' g6'
          simp only at g0' g1' g2' g3' g4' g5' g6'
          have k0 := HS5.out.o.frozenAt (k * 7)
          have k1 := HS5.out.o.frozenAt (k * 7 + 1)
          have k2 := HS5.out.o.frozenAt (k * 7 + 2)
          have k3 := HS5.out.o.frozenAt (k * 7 + 3)
          have k4 := HS5.out.o.frozenAt (k * 7 + 4)
          have k5 := HS5.out.o.frozenAt (k * 7 + 5)
          have k6 := HS5.out.o.frozenAt (k * 7 + 6)
          clear hw6 HS4 HS5 HM2 HSt HGt HGt5 HF2 HM HF HR hb hnu hnx H6
          go_wp2_with (first | rw [HE4.out] | rw [HE5.out] | rw [HE6.out])
          go_roundw
          case rel => exact ⟨k + 1, by omega, by go_num, HN⟩
          case measure => simp [intOf] <;> omega
      · have t6 : (n.op != 6) = true := by rw [bne, beq_eq_false_iff_ne.2 h6]; rfl
        have HS5 := (show Hid (SeS w w4 (.map (some mb)) (.slice Ak gs.length ck) bd rv g cap L.length ((L.take (k + 1)).map (seN nu) ++ L.drop (k + 1))) from by
          rw [HM2.out, ← HSt.out, seN_6 h6]
          have e : M.set k n = M := by
            apply List.ext_getElem?
            intro j
            by_cases q : j = k
            · subst q
              rw [List.getElem?_set_self (by rw [HS4.out.l]; exact hlt), HGt.out]
            · rw [List.getElem?_set_ne (Ne.symm q)]
          rw [e]
          exact HS4.out)
        clear h6 HS4 HN4 HM2 HSt HGt HF2 HM HF HR
        go_wp2_with (rw [HE4.out])
        go_roundw
        case rel => exact ⟨k + 1, by omega, by go_num, HS5⟩
        case measure => simp [intOf] <;> omega
    · obtain rfl : k = L.length := by omega
      have HO := (show Hid (wr.ownsRow w.heap.size 70 7 (.slice (some ⟨g, 0, none⟩) L.length cap) L.length (ndc (seL nu L)) ∧ Below w.heap.size w wr) from by
        have h := HW.out.o
        rw [List.take_length, List.drop_length, List.append_nil] at h
        exact ⟨U.own_base h (Nat.le_succ _), HW.out.b⟩)
      clear HW HM HF
      go_wp2_with fail
      go_ret
      exact ⟨⟨g, cap, rfl, HR.out _ _ _ HO.out.1⟩, HO.out.2⟩
end Go.Proofs.YtbnihflihelimaaGreat.N

namespace Go.Proofs.YtbnihflihelimaaGreat.N
open Go.RowKit Go.Maps
open Go.Proofs.YtbnihflihelimaaGreat.T
/-- What is known, in cells. -/
def fsV (p : Fs) : List Value := [.int .u64 (wd p.st 0), .int .u64 (wd p.st 1), .int .u64 (wd p.st 2), .int .u64 (wd p.st 3), .bool p.em, .bool p.hf]
def fsc (l : List (Fs)) : List Value := l.flatMap fsV
theorem fsV_len (p : Fs) : (fsV p).length = 6 := rfl
theorem fsV_one (p : Fs) : ∀ u ∈ fsV p, u.oneCell' = true := fun u hu => by
  unfold fsV at hu
  simp only [List.mem_cons, List.not_mem_nil, or_false] at hu
  rcases hu with rfl | rfl | rfl | rfl | rfl | rfl <;> rfl
theorem fsc_app (a b : List (Fs)) : fsc (a ++ b) = fsc a ++ fsc b := List.flatMap_append
theorem fsc_one (p : Fs) : fsc [p] = fsV p := by unfold fsc; rw [List.flatMap_cons, List.flatMap_nil, List.append_nil]
theorem fsc_get (l : List (Fs)) : ∀ (j : Nat) (p : Fs), l[j]? = some p → ∀ i, i < 6 → (fsc l)[j * 6 + i]? = (fsV p)[i]? := by
  induction l with
  | nil => intro j p h; cases h
  | cons a l ih =>
    intro j p h i hi
    have e : fsc (a :: l) = fsV a ++ fsc l := rfl
    rw [e]
    cases j with
    | zero =>
      cases h
      rw [Nat.zero_mul, Nat.zero_add, List.getElem?_append_left (by rw [fsV_len]; exact hi)]
    | succ j =>
      have h2 : l[j]? = some p := by simpa using h
      rw [List.getElem?_append_right (by rw [fsV_len]; omega), fsV_len, show (j + 1) * 6 + i - 6 = j * 6 + i from by omega]
      exact ih j p h2 i hi
theorem fs_read {W : World} {B g n cap : Nat} {l : List (Fs)} (h : W.ownsRow B 36 6 (.slice (some ⟨g, 0, none⟩) n cap) n (fsc l)) (a b : List (Fs)) (hl : l = a ++ b) : RdF W (some ⟨g, a.length * 6, none⟩) b := fun j p hp => by
  have hc := h.cells (g := g) rfl
  have hg : l[a.length + j]? = some p := by rw [hl, List.getElem?_append_right (by omega), Nat.add_sub_cancel_left]; exact hp
  have key : ∀ (i : Nat) u, i < 6 → (fsV p)[i]? = some u → W.cell? ⟨g, a.length * 6 + j * 6 + i, none⟩ = some u := fun i u hi hu => by
    have := hc ((a.length + j) * 6 + i) u (by rw [fsc_get l _ p hg i hi]; exact hu)
    rw [Addr.add_lit, Nat.zero_add, Nat.add_mul] at this
    exact this
  exact ⟨g, a.length * 6, rfl, (h.lt g rfl).2, key 0 _ (by omega) rfl, key 1 _ (by omega) rfl, key 2 _ (by omega) rfl, key 3 _ (by omega) rfl, key 4 _ (by omega) rfl, key 5 _ (by omega) rfl⟩
/-- A part, in cells. -/
def pqV (p : Fs × Bool) : List Value := [.int .u64 (wd p.1.st 0), .int .u64 (wd p.1.st 1), .int .u64 (wd p.1.st 2), .int .u64 (wd p.1.st 3), .bool p.1.em, .bool p.1.hf, .bool p.2]
def pqc (l : List (Fs × Bool)) : List Value := l.flatMap pqV
theorem pqV_len (p : Fs × Bool) : (pqV p).length = 7 := rfl
theorem pqV_one (p : Fs × Bool) : ∀ u ∈ pqV p, u.oneCell' = true := fun u hu => by
  unfold pqV at hu
  simp only [List.mem_cons, List.not_mem_nil, or_false] at hu
  rcases hu with rfl | rfl | rfl | rfl | rfl | rfl | rfl <;> rfl
theorem pqc_app (a b : List (Fs × Bool)) : pqc (a ++ b) = pqc a ++ pqc b := List.flatMap_append
theorem pqc_one (p : Fs × Bool) : pqc [p] = pqV p := by unfold pqc; rw [List.flatMap_cons, List.flatMap_nil, List.append_nil]
theorem pqc_len (l : List (Fs × Bool)) : (pqc l).length = l.length * 7 := by
  induction l with
  | nil => rfl
  | cons a l ih => show (pqV a ++ pqc l).length = _; rw [List.length_append, ih, List.length_cons, pqV_len]; omega
theorem pqc_get (l : List (Fs × Bool)) : ∀ (j : Nat) (p : Fs × Bool), l[j]? = some p → ∀ i, i < 7 → (pqc l)[j * 7 + i]? = (pqV p)[i]? := by
  induction l with
  | nil => intro j p h; cases h
  | cons a l ih =>
    intro j p h i hi
    have e : pqc (a :: l) = pqV a ++ pqc l := rfl
    rw [e]
    cases j with
    | zero =>
      cases h
      rw [Nat.zero_mul, Nat.zero_add, List.getElem?_append_left (by rw [pqV_len]; exact hi)]
    | succ j =>
      have h2 : l[j]? = some p := by simpa using h
      rw [List.getElem?_append_right (by rw [pqV_len]; omega), pqV_len, show (j + 1) * 7 + i - 7 = j * 7 + i from by omega]
      exact ih j p h2 i hi
theorem pq_read {W : World} {B g n cap : Nat} {l : List (Fs × Bool)} (h : W.ownsRow B 96 7 (.slice (some ⟨g, 0, none⟩) n cap) n (pqc l)) (a b : List (Fs × Bool)) (hl : l = a ++ b) : RdQ W (some ⟨g, a.length * 7, none⟩) b := fun j p hp => by
  have hc := h.cells (g := g) rfl
  have hg : l[a.length + j]? = some p := by rw [hl, List.getElem?_append_right (by omega), Nat.add_sub_cancel_left]; exact hp
  have key : ∀ (i : Nat) u, i < 7 → (pqV p)[i]? = some u → W.cell? ⟨g, a.length * 7 + j * 7 + i, none⟩ = some u := fun i u hi hu => by
    have := hc ((a.length + j) * 7 + i) u (by rw [pqc_get l _ p hg i hi]; exact hu)
    rw [Addr.add_lit, Nat.zero_add, Nat.add_mul] at this
    exact this
  exact ⟨g, a.length * 7, rfl, (h.lt g rfl).2, key 0 _ (by omega) rfl, key 1 _ (by omega) rfl, key 2 _ (by omega) rfl, key 3 _ (by omega) rfl, key 4 _ (by omega) rfl, key 5 _ (by omega) rfl, key 6 _ (by omega) rfl⟩
theorem pq_front {W : World} {B m r cA : Nat} {A : Option Addr} {l a b : List (Fs × Bool)} (h : W.ownsRow B 96 7 (.slice A m cA) m (pqc l)) (hl : l = a ++ b) (ha : a.length = r) (hm : r ≤ m) (hA : A = none ∧ m = 0 ∧ cA = 0 ∨ ∃ g, A = some ⟨g, 0, none⟩) : W.ownsRow B 96 7 (.slice A r cA) r (pqc a) := by
  rcases hA with ⟨rfl, h2, h3⟩ | ⟨g, rfl⟩
  · have e : r = 0 := by omega
    subst e
    have ea : a = [] := List.eq_nil_of_length_eq_zero ha
    rw [ea, h3]
    exact World.ownsRow_nil _ _ _ _
  · have h2 := T.own_cut h hm
    have e : (pqc l).take (r * 7) = pqc a := by
      rw [hl, pqc_app, List.take_append_of_le_length (by rw [pqc_len, ha]; exact Nat.le_refl _)]
      exact List.take_of_length_le (by rw [pqc_len, ha]; exact Nat.le_refl _)
    rw [e] at h2
    exact h2

/-- What is known of the parts that belong to no node yet. -/
def pqS (E : Nat → Fs × Bool) (st : List Pt) : List (Fs × Bool) := (st.map fun p => E p.2.1).reverse
theorem pqS_len (E : Nat → Fs × Bool) (st : List Pt) : (pqS E st).length = st.length := by unfold pqS; rw [List.length_reverse, List.length_map]
theorem pqS_cons (E : Nat → Fs × Bool) (p : Pt) (st : List Pt) : pqS E (p :: st) = pqS E st ++ [E p.2.1] := by unfold pqS; rw [List.map_cons, List.reverse_cons]
theorem pqS_split (E : Nat → Fs × Bool) (st : List Pt) (a : Nat) : pqS E st = pqS E (st.drop a) ++ pqS E (st.take a) := by
  unfold pqS
  rw [← List.reverse_append, ← List.map_append, List.take_append_drop]
theorem pqS_at {L : List Nd} {E : Nat → Fs × Bool} {k : Nat} {n : Nd} (hn : L[k]? = some n) : pqS E ((run L k).take (arN n.op)) = (kdR L k).map E := by
  unfold pqS kdR
  rw [op_of hn, List.map_map, ← List.map_reverse]
  rfl
def q0 : Fs × Bool := (f0, false)
/-- What is known of the part that ends with a node, and whether it can fail. -/
def EF (gs : GL) (now : List Em) (fs : List Fs) (L : List Nd) (j : Nat) : Fs × Bool := (faR gs now fs L j, cfR gs now L j)
/-- The table's row is what is known. -/
theorem ef_step {gs : GL} {now : List Em} {fs : List Fs} {L : List Nd} (hks : Kds (kdR L) L) {k : Nat} {n : Nd} (hn : L[k]? = some n) (_hal : alE n = 0) : (EF gs now fs L k).1 = faN n (seV n) ((((pqS (EF gs now fs L) ((run L k).take (arN n.op)))[0]?).getD q0).1) ((((pqS (EF gs now fs L) ((run L k).take (arN n.op)))[1]?).getD q0).1) ((((pqS (EF gs now fs L) ((run L k).take (arN n.op)))[1]?).getD q0).2) (lkF gs fs) := by
  rw [pqS_at hn]
  have hl := hks.n k n hn
  have h : faR gs now fs L k = _ := faA_step (se := seV) (cf := cfR gs now L) (r := lkF gs fs) hks hn
  show faR gs now fs L k = _
  rw [h]
  have key : ∀ i : Nat, ((((kdR L k).map (EF gs now fs L))[i]?).getD q0).1 = (((kdR L k).map (faA (kdR L) seV (cfR gs now L) (lkF gs fs) L))[i]?).getD f0 := fun i => by
    rw [List.getElem?_map, List.getElem?_map]
    cases (kdR L k)[i]? <;> rfl
  rw [key 0, key 1]
  by_cases h7 : n.op = 7
  · have a2 := arN_2 (n := n) (.inl h7)
    have e3 : ((((kdR L k).map (EF gs now fs L))[1]?).getD q0).2 = ((((kdR L k).map (cfR gs now L))[1]?).getD (cfR gs now L k)) := by
      rw [List.getElem?_map, List.getElem?_map, List.getElem?_eq_getElem (by omega)]
      rfl
    rw [e3]
  · exact faN_8 h7
end Go.Proofs.YtbnihflihelimaaGreat.N

namespace Go.Proofs.YtbnihflihelimaaGreat.N
open Go.RowKit Go.Maps
open Go.Proofs.YtbnihflihelimaaGreat.T

open U (below_grown)
set_option maxRecDepth 100000 in
set_option maxHeartbeats 8000000 in
theorem fsNode_7 (nn : Int) (tx : ByteArray) (s0 s1 s2 s3 : Int) (m k bd r : Value) (A : Option Addr) (cp : Nat) (a0 a1 : Fs) (e0 e1 : Bool) (w : World) (hp : RdQ w A [(a0, e0), (a1, e1)]) :
    Calls Tryz.prog 44 #[.agg #[m, k, bd, r], .agg #[.int .i64 7, .int .i64 nn, .string tx, .int .u64 s0, .int .u64 s1, .int .u64 s2, .int .u64 s3], .slice A 2 cp] w fun e w' => e = .returned (fG (sqF a0 a1 e1)) ∧ Below w.heap.size w w' := by
  have hs := NoF.new w m k bd r ⟨7, nn, tx, s0, s1, s2, s3⟩
  obtain ⟨w1, hw1⟩ : ∃ w1, w1 = ((w.alloc (.cells #[m, k, bd, r] 56)).alloc (.cells #[.int .i64 7, .int .i64 nn, .string tx, .int .u64 s0, .int .u64 s1, .int .u64 s2, .int .u64 s3] 70)).alloc (.cells #[.int .u64 0, .int .u64 0, .int .u64 0, .int .u64 0, .bool false, .bool false] 36) := ⟨_, rfl⟩
  have hs : NoF w w1 m k bd r ⟨7, nn, tx, s0, s1, s2, s3⟩ := by rw [hw1]; exact hs
  have HE := (show Hid (((w.alloc (.cells #[m, k, bd, r] 56)).alloc (.cells #[.int .i64 7, .int .i64 nn, .string tx, .int .u64 s0, .int .u64 s1, .int .u64 s2, .int .u64 s3] 70)).alloc (.cells #[.int .u64 0, .int .u64 0, .int .u64 0, .int .u64 0, .bool false, .bool false] 36) = w1) from hw1.symm)
  have HS := (show Hid (NoF w w1 m k bd r ⟨7, nn, tx, s0, s1, s2, s3⟩) from hs)
  have c0 : w1.cell? ⟨w.heap.size + 1, 0, none⟩ = some (.int .i64 7) := hs.n.nb.c0
  have c1 : w1.cell? ⟨w.heap.size + 1, 1, none⟩ = some (.int .i64 nn) := hs.n.nb.c1
  have c2 : w1.cell? ⟨w.heap.size + 1, 2, none⟩ = some (.string tx) := hs.n.nb.c2
  have c3 : w1.cell? ⟨w.heap.size + 1, 3, none⟩ = some (.int .u64 s0) := hs.n.nb.c3
  have c4 : w1.cell? ⟨w.heap.size + 1, 4, none⟩ = some (.int .u64 s1) := hs.n.nb.c4
  have c5 : w1.cell? ⟨w.heap.size + 1, 5, none⟩ = some (.int .u64 s2) := hs.n.nb.c5
  have c6 : w1.cell? ⟨w.heap.size + 1, 6, none⟩ = some (.int .u64 s3) := hs.n.nb.c6
  have z0 := hs.z.c0
  have z1 := hs.z.c1
  have z2 := hs.z.c2
  have z3 := hs.z.c3
  have z4 := hs.z.c4
  have z5 := hs.z.c5
  have zf := hs.z.fz
  clear hw1
  obtain ⟨g2, o2, e2, lg0, _⟩ := hp 0 (a0, e0) rfl
  obtain ⟨g, o, rfl, lg, p0⟩ := (hp.later hs.b) 0 (a0, e0) rfl
  have hgg : g = g2 := by injection e2 with e3; injection e3
  subst hgg
  obtain ⟨g', o', e', _, p1⟩ := (hp.later hs.b) 1 (a1, e1) rfl
  cases e'
  have HKe := (show Hid (∀ W, Below w1.heap.size w1 W → (fun W => W.cell? ⟨g, o, none⟩ = some (.int .u64 (wd a0.st 0)) ∧ W.cell? ⟨g, o + 1, none⟩ = some (.int .u64 (wd a0.st 1)) ∧ W.cell? ⟨g, o + 2, none⟩ = some (.int .u64 (wd a0.st 2)) ∧ W.cell? ⟨g, o + 3, none⟩ = some (.int .u64 (wd a0.st 3)) ∧ W.cell? ⟨g, o + 4, none⟩ = some (.bool a0.em) ∧ W.cell? ⟨g, o + 5, none⟩ = some (.bool a0.hf) ∧ W.cell? ⟨g, o + 6, none⟩ = some (.bool e0) ∧ W.cell? ⟨g, o + 1 * 7, none⟩ = some (.int .u64 (wd a1.st 0)) ∧ W.cell? ⟨g, o + 1 * 7 + 1, none⟩ = some (.int .u64 (wd a1.st 1)) ∧ W.cell? ⟨g, o + 1 * 7 + 2, none⟩ = some (.int .u64 (wd a1.st 2)) ∧ W.cell? ⟨g, o + 1 * 7 + 3, none⟩ = some (.int .u64 (wd a1.st 3)) ∧ W.cell? ⟨g, o + 1 * 7 + 4, none⟩ = some (.bool a1.em) ∧ W.cell? ⟨g, o + 1 * 7 + 5, none⟩ = some (.bool a1.hf) ∧ W.cell? ⟨g, o + 1 * 7 + 6, none⟩ = some (.bool e1)) W) from fun W hW => by
    have k : ∀ q, W.cell? ⟨g, q, none⟩ = w1.cell? ⟨g, q, none⟩ := fun q => hW.cell (p := ⟨g, q, none⟩) lg
    simp only [k]
    obtain ⟨q0, q1, q2, q3, q4, q5, q6⟩ := p0
    rw [Nat.zero_mul, Nat.add_zero] at q0 q1 q2 q3 q4 q5 q6
    obtain ⟨r0, r1, r2, r3, r4, r5, r6⟩ := p1
    exact ⟨q0, q1, q2, q3, q4, q5, q6, r0, r1, r2, r3, r4, r5, r6⟩)
  have HKz := (show Hid (∀ W, Below w1.heap.size w1 W → W.cell? ⟨w.heap.size + 1 + 1, 0, none⟩ = some (.int .u64 (wd f0.st 0)) ∧ W.cell? ⟨w.heap.size + 1 + 1, 1, none⟩ = some (.int .u64 (wd f0.st 1)) ∧ W.cell? ⟨w.heap.size + 1 + 1, 2, none⟩ = some (.int .u64 (wd f0.st 2)) ∧ W.cell? ⟨w.heap.size + 1 + 1, 3, none⟩ = some (.int .u64 (wd f0.st 3)) ∧ W.cell? ⟨w.heap.size + 1 + 1, 4, none⟩ = some (.bool f0.em) ∧ W.cell? ⟨w.heap.size + 1 + 1, 5, none⟩ = some (.bool f0.hf) ∧ W.frozen? ⟨w.heap.size + 1 + 1, 0, none⟩ = false ∧ W.frozen? ⟨w.heap.size + 1 + 1, 1, none⟩ = false ∧ W.frozen? ⟨w.heap.size + 1 + 1, 2, none⟩ = false ∧ W.frozen? ⟨w.heap.size + 1 + 1, 3, none⟩ = false ∧ W.frozen? ⟨w.heap.size + 1 + 1, 4, none⟩ = false ∧ W.frozen? ⟨w.heap.size + 1 + 1, 5, none⟩ = false) from fun W hW => by
    have h := (HS.out.later hW).z
    exact ⟨h.c0, h.c1, h.c2, h.c3, h.c4, h.c5, h.fz 0, h.fz 1, h.fz 2, h.fz 3, h.fz 4, h.fz 5⟩)
  have HKs := (show ∀ W, Below w1.heap.size w1 W → (fun W => W.cell? ⟨g, o, none⟩ = some (.int .u64 (wd a0.st 0)) ∧ W.cell? ⟨g, o + 1, none⟩ = some (.int .u64 (wd a0.st 1)) ∧ W.cell? ⟨g, o + 2, none⟩ = some (.int .u64 (wd a0.st 2)) ∧ W.cell? ⟨g, o + 3, none⟩ = some (.int .u64 (wd a0.st 3)) ∧ W.cell? ⟨g, o + 4, none⟩ = some (.bool a0.em) ∧ W.cell? ⟨g, o + 5, none⟩ = some (.bool a0.hf) ∧ W.cell? ⟨g, o + 6, none⟩ = some (.bool e0) ∧ W.cell? ⟨g, o + 1 * 7, none⟩ = some (.int .u64 (wd a1.st 0)) ∧ W.cell? ⟨g, o + 1 * 7 + 1, none⟩ = some (.int .u64 (wd a1.st 1)) ∧ W.cell? ⟨g, o + 1 * 7 + 2, none⟩ = some (.int .u64 (wd a1.st 2)) ∧ W.cell? ⟨g, o + 1 * 7 + 3, none⟩ = some (.int .u64 (wd a1.st 3)) ∧ W.cell? ⟨g, o + 1 * 7 + 4, none⟩ = some (.bool a1.em) ∧ W.cell? ⟨g, o + 1 * 7 + 5, none⟩ = some (.bool a1.hf) ∧ W.cell? ⟨g, o + 1 * 7 + 6, none⟩ = some (.bool e1)) (sF W (w.heap.size + 1 + 1) ((sqF a0 a1 e1))) from fun W hW => by
    have hz : g ≠ w.heap.size + 1 + 1 := by omega
    have k : ∀ q, (sF W (w.heap.size + 1 + 1) ((sqF a0 a1 e1))).cell? ⟨g, q, none⟩ = W.cell? ⟨g, q, none⟩ := fun q => World.cell?_of_block (a := ⟨g, q, none⟩) (sF_other W _ _ hz)
    have h := HKe.out W hW
    simp only [k]
    exact h)
  unfold sF at HKs
  have HKs := (show Hid _ from HKs)
  have HKd := (show Hid _ from HKe.out w1.drew ((Below.refl _ _).drew))
  have HC := (show Hid (∀ W, Below w1.heap.size w1 W → Calls Tryz.prog 61 #[qG a0 e0, qG a1 e1] W fun e w' => e = .returned (fG (sqF a0 a1 e1)) ∧ Below w1.heap.size w1 w') from fun W hW => (fsSeq_any a0 a1 e0 e1 W).mono fun e w' ⟨h1, h2⟩ => ⟨h1, hW.trans (h2.mono hW.size)⟩)
  have HZ := (show ∀ W, Below w1.heap.size w1 W → Hid _ from fun W hW => (HS.out.later hW).fin (sqF a0 a1 e1))
  unfold sF at HZ
  have HZ := (show Hid _ from HZ)
  clear hs p0 p1 lg lg0 hp e2
  go_enter Tryz.func44, Tryz.ntmps44
  go_wp2_with (rw [HE.out])
  first | (go_region_held3 (fun W => W.cell? ⟨g, o, none⟩ = some (.int .u64 (wd a0.st 0)) ∧ W.cell? ⟨g, o + 1, none⟩ = some (.int .u64 (wd a0.st 1)) ∧ W.cell? ⟨g, o + 2, none⟩ = some (.int .u64 (wd a0.st 2)) ∧ W.cell? ⟨g, o + 3, none⟩ = some (.int .u64 (wd a0.st 3)) ∧ W.cell? ⟨g, o + 4, none⟩ = some (.bool a0.em) ∧ W.cell? ⟨g, o + 5, none⟩ = some (.bool a0.hf) ∧ W.cell? ⟨g, o + 6, none⟩ = some (.bool e0) ∧ W.cell? ⟨g, o + 1 * 7, none⟩ = some (.int .u64 (wd a1.st 0)) ∧ W.cell? ⟨g, o + 1 * 7 + 1, none⟩ = some (.int .u64 (wd a1.st 1)) ∧ W.cell? ⟨g, o + 1 * 7 + 2, none⟩ = some (.int .u64 (wd a1.st 2)) ∧ W.cell? ⟨g, o + 1 * 7 + 3, none⟩ = some (.int .u64 (wd a1.st 3)) ∧ W.cell? ⟨g, o + 1 * 7 + 4, none⟩ = some (.bool a1.em) ∧ W.cell? ⟨g, o + 1 * 7 + 5, none⟩ = some (.bool a1.hf) ∧ W.cell? ⟨g, o + 1 * 7 + 6, none⟩ = some (.bool e1)) (first | with_reducible exact HKd.out | with_reducible exact HKe.out _ b5 | with_reducible exact HKs.out _ b5) ((go_at_call 61; with_reducible refine (HC.out _ ((Below.refl _ _).drew)).mono ?_; rintro e w5 ⟨rfl, b5⟩; obtain ⟨g0, g1, g2, g3, g4, g5, g6, g7, g8, g9, g10, g11⟩ := HKz.out w5 b5)))
  have HF := HZ.out w5 b5
  rename_i hHeld
  clear hHeld HKs HKe HKz HKd HZ HC
  go_wp2_with fail
  exact ret_f rfl rfl rfl HF.out.1 ⟨rfl, HF.out.2⟩
end Go.Proofs.YtbnihflihelimaaGreat.N
