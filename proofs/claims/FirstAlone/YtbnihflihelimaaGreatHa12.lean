/- DERIVED. Plain mathematics and walks, laid together (12). -/
import Derived.Test.YtbnihflihelimaaGreatHa11
namespace Go.Proofs.YtbnihflihelimaaGreat.N
open Go.RowKit Go.Maps
open Go.Proofs.YtbnihflihelimaaGreat.T

open U (below_grown)
set_option maxRecDepth 100000 in
set_option maxHeartbeats 8000000 in
theorem fsCho_1 (xs : BitVec 256) (y : Fs) (cx cy : Bool) (w : World) : Calls Tryz.prog 62 #[qG ⟨xs, false, false⟩ cx, qG y cy] w fun e w' => e = .returned (fG (chF ⟨xs, false, false⟩ y)) ∧ Below w.heap.size w w' := by
  have hs := SqS.new w ⟨xs, false, false⟩ y cx cy
  obtain ⟨w1, hw1⟩ : ∃ w1, w1 = ((w.alloc (.cells #[.int .u64 (wd xs 0), .int .u64 (wd xs 1), .int .u64 (wd xs 2), .int .u64 (wd xs 3), .bool false, .bool false, .bool cx] 96)).alloc (.cells #[.int .u64 (wd y.st 0), .int .u64 (wd y.st 1), .int .u64 (wd y.st 2), .int .u64 (wd y.st 3), .bool y.em, .bool y.hf, .bool cy] 96)).alloc (.cells #[.int .u64 0, .int .u64 0, .int .u64 0, .int .u64 0, .bool false, .bool false] 36) := ⟨_, rfl⟩
  rw [← hw1] at hs
  have HE := (show Hid (((w.alloc (.cells #[.int .u64 (wd xs 0), .int .u64 (wd xs 1), .int .u64 (wd xs 2), .int .u64 (wd xs 3), .bool false, .bool false, .bool cx] 96)).alloc (.cells #[.int .u64 (wd y.st 0), .int .u64 (wd y.st 1), .int .u64 (wd y.st 2), .int .u64 (wd y.st 3), .bool y.em, .bool y.hf, .bool cy] 96)).alloc (.cells #[.int .u64 0, .int .u64 0, .int .u64 0, .int .u64 0, .bool false, .bool false] 36) = w1) from hw1.symm)
  have HS := (show Hid (SqS w w1 ⟨xs, false, false⟩ y cx cy f0) from hs)
  have HU := (show Hid (∀ W, Below w1.heap.size w1 W → Calls Tryz.prog 80 #[sv xs, sv y.st] W fun e w' => e = .returned (sv (xs ||| y.st)) ∧ Below w1.heap.size w1 w') from fun W hW => (union_any _ _ W).mono fun e w' ⟨h1, h2⟩ => ⟨h1, hW.trans (h2.mono hW.size)⟩)
  have HKp := (show Hid (∀ W, Below w1.heap.size w1 W → SqS w W ⟨xs, false, false⟩ y cx cy f0) from fun W hW => HS.out.later hW)
  have x0 := hs.x.c0
  have x1 := hs.x.c1
  have x2 := hs.x.c2
  have x3 := hs.x.c3
  have x4 := hs.x.c4
  have x5 := hs.x.c5
  have y0 := hs.y.c0
  have y1 := hs.y.c1
  have y2 := hs.y.c2
  have y3 := hs.y.c3
  have y4 := hs.y.c4
  have y5 := hs.y.c5
  clear hw1 hs
  obtain ⟨ys, ye, yh⟩ := y
  simp only at *
  have HKz := (show Hid (∀ W, Below w1.heap.size w1 W → W.cell? ⟨w.heap.size + 1 + 1, 0, none⟩ = some (.int .u64 (wd f0.st 0)) ∧ W.cell? ⟨w.heap.size + 1 + 1, 1, none⟩ = some (.int .u64 (wd f0.st 1)) ∧ W.cell? ⟨w.heap.size + 1 + 1, 2, none⟩ = some (.int .u64 (wd f0.st 2)) ∧ W.cell? ⟨w.heap.size + 1 + 1, 3, none⟩ = some (.int .u64 (wd f0.st 3)) ∧ W.cell? ⟨w.heap.size + 1 + 1, 4, none⟩ = some (.bool f0.em) ∧ W.cell? ⟨w.heap.size + 1 + 1, 5, none⟩ = some (.bool f0.hf) ∧ W.frozen? ⟨w.heap.size + 1 + 1, 0, none⟩ = false ∧ W.frozen? ⟨w.heap.size + 1 + 1, 1, none⟩ = false ∧ W.frozen? ⟨w.heap.size + 1 + 1, 2, none⟩ = false ∧ W.frozen? ⟨w.heap.size + 1 + 1, 3, none⟩ = false ∧ W.frozen? ⟨w.heap.size + 1 + 1, 4, none⟩ = false ∧ W.frozen? ⟨w.heap.size + 1 + 1, 5, none⟩ = false) from fun W hW => by
    have h := (HKp.out W hW).z
    exact ⟨h.c0, h.c1, h.c2, h.c3, h.c4, h.c5, h.fz 0, h.fz 1, h.fz 2, h.fz 3, h.fz 4, h.fz 5⟩)
  have HZ := (show ∀ W, Below w1.heap.size w1 W → Hid (FX (sF W (w.heap.size + 1 + 1) (chF ⟨xs, false, false⟩ ⟨ys, ye, yh⟩)) (w.heap.size + 1 + 1) (chF ⟨xs, false, false⟩ ⟨ys, ye, yh⟩) ∧ Below w.heap.size w (sF W (w.heap.size + 1 + 1) (chF ⟨xs, false, false⟩ ⟨ys, ye, yh⟩))) from fun W hW => ⟨sF_fx (HKp.out W hW).z _, sF_below _ _ (HKp.out W hW).b (by omega)⟩)
  have HZ := (show Hid _ from HZ)
  have HKe := (show Hid (∀ W, Below w1.heap.size w1 W → (fun W => W.cell? ⟨w.heap.size, 0, none⟩ = some (.int .u64 (wd xs 0)) ∧ W.cell? ⟨w.heap.size, 1, none⟩ = some (.int .u64 (wd xs 1)) ∧ W.cell? ⟨w.heap.size, 2, none⟩ = some (.int .u64 (wd xs 2)) ∧ W.cell? ⟨w.heap.size, 3, none⟩ = some (.int .u64 (wd xs 3)) ∧ W.cell? ⟨w.heap.size, 4, none⟩ = some (.bool false) ∧ W.cell? ⟨w.heap.size, 5, none⟩ = some (.bool false) ∧ W.cell? ⟨w.heap.size + 1, 0, none⟩ = some (.int .u64 (wd ys 0)) ∧ W.cell? ⟨w.heap.size + 1, 1, none⟩ = some (.int .u64 (wd ys 1)) ∧ W.cell? ⟨w.heap.size + 1, 2, none⟩ = some (.int .u64 (wd ys 2)) ∧ W.cell? ⟨w.heap.size + 1, 3, none⟩ = some (.int .u64 (wd ys 3)) ∧ W.cell? ⟨w.heap.size + 1, 4, none⟩ = some (.bool ye) ∧ W.cell? ⟨w.heap.size + 1, 5, none⟩ = some (.bool yh)) W) from fun W hW => by
    have h := HKp.out W hW
    exact ⟨h.x.c0, h.x.c1, h.x.c2, h.x.c3, h.x.c4, h.x.c5, h.y.c0, h.y.c1, h.y.c2, h.y.c3, h.y.c4, h.y.c5⟩)
  have HKs := (show ∀ W, Below w1.heap.size w1 W → (fun W => W.cell? ⟨w.heap.size, 0, none⟩ = some (.int .u64 (wd xs 0)) ∧ W.cell? ⟨w.heap.size, 1, none⟩ = some (.int .u64 (wd xs 1)) ∧ W.cell? ⟨w.heap.size, 2, none⟩ = some (.int .u64 (wd xs 2)) ∧ W.cell? ⟨w.heap.size, 3, none⟩ = some (.int .u64 (wd xs 3)) ∧ W.cell? ⟨w.heap.size, 4, none⟩ = some (.bool false) ∧ W.cell? ⟨w.heap.size, 5, none⟩ = some (.bool false) ∧ W.cell? ⟨w.heap.size + 1, 0, none⟩ = some (.int .u64 (wd ys 0)) ∧ W.cell? ⟨w.heap.size + 1, 1, none⟩ = some (.int .u64 (wd ys 1)) ∧ W.cell? ⟨w.heap.size + 1, 2, none⟩ = some (.int .u64 (wd ys 2)) ∧ W.cell? ⟨w.heap.size + 1, 3, none⟩ = some (.int .u64 (wd ys 3)) ∧ W.cell? ⟨w.heap.size + 1, 4, none⟩ = some (.bool ye) ∧ W.cell? ⟨w.heap.size + 1, 5, none⟩ = some (.bool yh)) (sF W (w.heap.size + 1 + 1) (chF ⟨xs, false, false⟩ ⟨ys, ye, yh⟩)) from fun W hW => by
    have h := HKp.out W hW
    have hx := h.x.same (sF_other W (w.heap.size + 1 + 1) (chF ⟨xs, false, false⟩ ⟨ys, ye, yh⟩) (j := w.heap.size) (by omega))
    have hy := h.y.same (sF_other W (w.heap.size + 1 + 1) (chF ⟨xs, false, false⟩ ⟨ys, ye, yh⟩) (j := w.heap.size + 1) (by omega))
    exact ⟨hx.c0, hx.c1, hx.c2, hx.c3, hx.c4, hx.c5, hy.c0, hy.c1, hy.c2, hy.c3, hy.c4, hy.c5⟩)
  unfold sF chF at HKs
  simp only [Bool.false_or, Bool.false_and] at HKs
  have HKs := (show Hid _ from HKs)
  have HKd := (show Hid _ from HKe.out w1.drew ((Below.refl _ _).drew))
  clear x0 x1 x2 x3 x4 x5 y0 y1 y2 y3 y4 y5
  go_enter Tryz.func62, Tryz.ntmps62
  go_wp2_with (rw [HE.out])
  refine wp_region_noPanic ?_
  refine wp_region_held_drew (S := fun W => W.cell? ⟨w.heap.size, 0, none⟩ = some (.int .u64 (wd xs 0)) ∧ W.cell? ⟨w.heap.size, 1, none⟩ = some (.int .u64 (wd xs 1)) ∧ W.cell? ⟨w.heap.size, 2, none⟩ = some (.int .u64 (wd xs 2)) ∧ W.cell? ⟨w.heap.size, 3, none⟩ = some (.int .u64 (wd xs 3)) ∧ W.cell? ⟨w.heap.size, 4, none⟩ = some (.bool false) ∧ W.cell? ⟨w.heap.size, 5, none⟩ = some (.bool false) ∧ W.cell? ⟨w.heap.size + 1, 0, none⟩ = some (.int .u64 (wd ys 0)) ∧ W.cell? ⟨w.heap.size + 1, 1, none⟩ = some (.int .u64 (wd ys 1)) ∧ W.cell? ⟨w.heap.size + 1, 2, none⟩ = some (.int .u64 (wd ys 2)) ∧ W.cell? ⟨w.heap.size + 1, 3, none⟩ = some (.int .u64 (wd ys 3)) ∧ W.cell? ⟨w.heap.size + 1, 4, none⟩ = some (.bool ye) ∧ W.cell? ⟨w.heap.size + 1, 5, none⟩ = some (.bool yh)) (by kernel_rfl) HKd.out (fun hHeld => ?_)
  refine wpAnyH_take (i := 0) (oi := _) (v := ?_) rfl (by kernel_rfl) (by kernel_rfl) (by kernel_rfl) (fun _ _ _ h => h) (Or.inl ⟨by rfl, ?_⟩) (by assumption) ?_
  rotate_left
  · intro w hSw
    (try dsimp only at hSw)
    go_simp
    (try with_reducible rfl)
  (try simp only [Act.put, List.setIfInBounds_toArray])
  refine wpAnyH_take (i := 1) (oi := _) (v := ?_) rfl (by kernel_rfl) (by kernel_rfl) (by kernel_rfl) (fun _ _ _ h => h) (Or.inl ⟨by rfl, ?_⟩) (by assumption) ?_
  rotate_left
  · intro w hSw
    (try dsimp only at hSw)
    go_simp
    (try with_reducible rfl)
  (try simp only [Act.put])
  refine wpAnyH_take (i := 2) (oi := _) (v := ?_) rfl (by kernel_rfl) (by kernel_rfl) (by kernel_rfl) (fun _ _ _ h => h) (Or.inl ⟨by rfl, ?_⟩) (by assumption) ?_
  rotate_left
  · intro w hSw
    (try dsimp only at hSw)
    go_simp
    (try with_reducible rfl)
  (try simp only [Act.put])
  refine wpAnyH_take (i := 3) (oi := _) (v := ?_) rfl (by kernel_rfl) (by kernel_rfl) (by kernel_rfl) (fun _ _ _ h => h) (Or.inl ⟨by rfl, ?_⟩) (by assumption) ?_
  rotate_left
  · intro w hSw
    (try dsimp only at hSw)
    go_simp
    (try with_reducible rfl)
  (try simp only [Act.put])
  refine wpAnyH_take (i := 4) (oi := _) (v := ?_) rfl (by kernel_rfl) (by kernel_rfl) (by kernel_rfl) (fun _ _ _ h => h) (Or.inl ⟨by rfl, ?_⟩) (by assumption) ?_
  rotate_left
  · intro w hSw
    (try dsimp only at hSw)
    go_simp
    (try with_reducible rfl)
  (try simp only [Act.put])
  refine wpAnyH_take (i := 5) (oi := _) (v := ?_) rfl (by kernel_rfl) (by kernel_rfl) (by kernel_rfl) (fun _ _ _ h => h) (Or.inl ⟨by rfl, ?_⟩) (by assumption) ?_
  rotate_left
  · intro w hSw
    (try dsimp only at hSw)
    go_simp
    (try with_reducible rfl)
  (try simp only [Act.put])
  refine wpAnyH_take (i := 7) (oi := _) (v := ?_) rfl (by kernel_rfl) (by kernel_rfl) (by kernel_rfl) (fun _ _ _ h => h) (Or.inl ⟨by rfl, ?_⟩) (by assumption) ?_
  rotate_left
  · intro w hSw
    (try dsimp only at hSw)
    go_simp
    (try with_reducible rfl)
  (try simp only [Act.put])
  refine wpAnyH_take (i := 8) (oi := _) (v := ?_) rfl (by kernel_rfl) (by kernel_rfl) (by kernel_rfl) (fun _ _ _ h => h) (Or.inl ⟨by rfl, ?_⟩) (by assumption) ?_
  rotate_left
  · intro w hSw
    (try dsimp only at hSw)
    go_simp
    (try with_reducible rfl)
  (try simp only [Act.put])
  refine wpAnyH_take (i := 9) (oi := _) (v := ?_) rfl (by kernel_rfl) (by kernel_rfl) (by kernel_rfl) (fun _ _ _ h => h) (Or.inl ⟨by rfl, ?_⟩) (by assumption) ?_
  rotate_left
  · intro w hSw
    (try dsimp only at hSw)
    go_simp
    (try with_reducible rfl)
  (try simp only [Act.put])
  refine wpAnyH_take (i := 15) (oi := _) (v := ?_) rfl (by kernel_rfl) (by kernel_rfl) (by kernel_rfl) (fun _ _ _ h => h) (Or.inl ⟨by rfl, ?_⟩) (by assumption) ?_
  rotate_left
  · intro w hSw
    (try dsimp only at hSw)
    go_simp
    (try with_reducible rfl)
  (try simp only [Act.put])
  refine wpAnyH_take (i := 16) (oi := _) (v := ?_) rfl (by kernel_rfl) (by kernel_rfl) (by kernel_rfl) (fun _ _ _ h => h) (Or.inl ⟨by rfl, ?_⟩) (by assumption) ?_
  rotate_left
  · intro w hSw
    (try dsimp only at hSw)
    go_simp
    (try with_reducible rfl)
  (try simp only [Act.put])
  refine wpAnyH_take (i := 17) (oi := _) (v := ?_) rfl (by kernel_rfl) (by kernel_rfl) (by kernel_rfl) (fun _ _ _ h => h) (Or.inl ⟨by rfl, ?_⟩) (by assumption) ?_
  rotate_left
  · intro w hSw
    (try dsimp only at hSw)
    go_simp
    (try with_reducible rfl)
  (try simp only [Act.put])
  refine wpAnyH_ready (rs := [6]) (by kernel_rfl) (by simp) ?_
  refine AllReadyH.cons (o := _) rfl (fun K hK => ?_) AllReadyH.nil
  go_simp
  go_at_call 80
  with_reducible refine (HU.out _ ((Below.refl _ _).drew)).mono ?_
  rintro e w5 ⟨rfl, b5⟩
  obtain ⟨g0, g1, g2, g3, g4, g5, g6, g7, g8, g9, g10, g11⟩ := HKz.out w5 b5
  refine hK.out _ _ (HKe.out _ b5) (fun hHeld => ?_)
  clear hK K
  (try simp only [Act.put, List.setIfInBounds_toArray, List.set_cons_zero, List.set_cons_succ])
  refine wpAnyH_take (i := 10) (oi := _) (v := ?_) rfl (by kernel_rfl) (by kernel_rfl) (by kernel_rfl) (fun _ _ _ h => h) (Or.inl ⟨by rfl, ?_⟩) (by assumption) ?_
  rotate_left
  · intro w hSw
    (try dsimp only at hSw)
    go_simp
    (try with_reducible rfl)
  (try simp only [Act.put, List.setIfInBounds_toArray])
  refine wpAnyH_take (i := 11) (oi := _) (v := ?_) rfl (by kernel_rfl) (by kernel_rfl) (by kernel_rfl) (fun _ _ _ h => h) (Or.inl ⟨by rfl, ?_⟩) (by assumption) ?_
  rotate_left
  · intro w hSw
    (try dsimp only at hSw)
    go_simp
    (try with_reducible rfl)
  (try simp only [Act.put])
  refine wpAnyH_take (i := 12) (oi := _) (v := ?_) rfl (by kernel_rfl) (by kernel_rfl) (by kernel_rfl) (fun _ _ _ h => h) (Or.inl ⟨by rfl, ?_⟩) (by assumption) ?_
  rotate_left
  · intro w hSw
    (try dsimp only at hSw)
    go_simp
    (try with_reducible rfl)
  (try simp only [Act.put])
  refine wpAnyH_take (i := 13) (oi := _) (v := ?_) rfl (by kernel_rfl) (by kernel_rfl) (by kernel_rfl) (fun _ _ _ h => h) (Or.inl ⟨by rfl, ?_⟩) (by assumption) ?_
  rotate_left
  · intro w hSw
    (try dsimp only at hSw)
    go_simp
    (try with_reducible rfl)
  (try simp only [Act.put])
  refine wpAnyH_take (i := 14) (oi := _) (v := ?_) rfl (by kernel_rfl) (by kernel_rfl) (by kernel_rfl) (fun _ _ _ h => h) (Or.inl ⟨by rfl, ?_⟩) (by assumption) ?_
  rotate_left
  · intro w hSw
    (try dsimp only at hSw)
    go_simp
    (try with_reducible rfl)
  (try simp only [Act.put])
  refine wpAnyH_take (i := 18) (oi := _) (v := ?_) rfl (by kernel_rfl) (by kernel_rfl) (by kernel_rfl) (fun _ _ _ h => h) (Or.inl ⟨by rfl, ?_⟩) (by assumption) ?_
  rotate_left
  · intro w hSw
    (try dsimp only at hSw)
    go_simp
    (try with_reducible rfl)
  (try simp only [Act.put])
  refine wpAnyH_take (i := 19) (oi := _) (v := undef) rfl (by kernel_rfl) (by kernel_rfl) (by kernel_rfl) (fun _ _ _ h => h) (Or.inr ⟨by rfl, rfl⟩) (by assumption) ?_
  (try simp only [Act.put])
  refine wpAnyH_take (i := 20) (oi := _) (v := undef) rfl (by kernel_rfl) (by kernel_rfl) (by kernel_rfl) (fun _ _ _ h => h) (Or.inr ⟨by rfl, rfl⟩) (by assumption) ?_
  (try simp only [Act.put])
  refine wpAnyH_take (i := 21) (oi := _) (v := undef) rfl (by kernel_rfl) (by kernel_rfl) (by kernel_rfl) (fun _ _ _ h => h) (Or.inr ⟨by rfl, rfl⟩) (by assumption) ?_
  (try simp only [Act.put])
  refine wpAnyH_take (i := 22) (oi := _) (v := ?_) rfl (by kernel_rfl) (by kernel_rfl) (by kernel_rfl) (fun _ _ _ h => h) (Or.inl ⟨by rfl, ?_⟩) (by assumption) ?_
  rotate_left
  · intro w hSw
    (try dsimp only at hSw)
    go_simp
    (try with_reducible rfl)
  (try simp only [Act.put])
  refine wpAnyH_take (i := 23) (oi := _) (v := ?_) rfl (by kernel_rfl) (by kernel_rfl) (by kernel_rfl) (fun _ _ _ h => h) (Or.inl ⟨by rfl, ?_⟩) (by assumption) ?_
  rotate_left
  · intro w hSw
    (try dsimp only at hSw)
    go_simp
    (try with_reducible rfl)
  (try simp only [Act.put])
  refine wpAnyH_ready (rs := [24]) (by kernel_rfl) (by simp) ?_
  refine AllReadyH.cons (o := _) rfl (fun K hK => ?_) AllReadyH.nil
  go_simp
  refine hK.out _ _ (by with_reducible exact HKs.out _ b5) (fun hHeld => ?_)
  clear hK K
  (try simp only [Act.put, List.setIfInBounds_toArray, List.set_cons_zero, List.set_cons_succ])
  refine wpAnyH_done (by kernel_rfl) ?_ _
  refine NoPanic.normal ?_
  have HF := HZ.out w5 b5
  unfold sF chF at HF
  simp only [Bool.false_or, Bool.false_and] at HF
  clear hHeld HKs HKe HKz HKd HZ HU HKp
  go_wp2_with fail
  exact ret_f rfl rfl rfl HF.out.1 ⟨rfl, HF.out.2⟩
end Go.Proofs.YtbnihflihelimaaGreat.N

namespace Go.Proofs.YtbnihflihelimaaGreat.N
open Go.RowKit Go.Maps
open Go.Proofs.YtbnihflihelimaaGreat.T

open U (below_grown)
set_option maxRecDepth 100000 in
set_option maxHeartbeats 8000000 in
theorem fsCho_2 (xs : BitVec 256) (y : Fs) (cx cy : Bool) (w : World) : Calls Tryz.prog 62 #[qG ⟨xs, false, true⟩ cx, qG y cy] w fun e w' => e = .returned (fG (chF ⟨xs, false, true⟩ y)) ∧ Below w.heap.size w w' := by
  have hs := SqS.new w ⟨xs, false, true⟩ y cx cy
  obtain ⟨w1, hw1⟩ : ∃ w1, w1 = ((w.alloc (.cells #[.int .u64 (wd xs 0), .int .u64 (wd xs 1), .int .u64 (wd xs 2), .int .u64 (wd xs 3), .bool false, .bool true, .bool cx] 96)).alloc (.cells #[.int .u64 (wd y.st 0), .int .u64 (wd y.st 1), .int .u64 (wd y.st 2), .int .u64 (wd y.st 3), .bool y.em, .bool y.hf, .bool cy] 96)).alloc (.cells #[.int .u64 0, .int .u64 0, .int .u64 0, .int .u64 0, .bool false, .bool false] 36) := ⟨_, rfl⟩
  rw [← hw1] at hs
  have HE := (show Hid (((w.alloc (.cells #[.int .u64 (wd xs 0), .int .u64 (wd xs 1), .int .u64 (wd xs 2), .int .u64 (wd xs 3), .bool false, .bool true, .bool cx] 96)).alloc (.cells #[.int .u64 (wd y.st 0), .int .u64 (wd y.st 1), .int .u64 (wd y.st 2), .int .u64 (wd y.st 3), .bool y.em, .bool y.hf, .bool cy] 96)).alloc (.cells #[.int .u64 0, .int .u64 0, .int .u64 0, .int .u64 0, .bool false, .bool false] 36) = w1) from hw1.symm)
  have HS := (show Hid (SqS w w1 ⟨xs, false, true⟩ y cx cy f0) from hs)
  have HU := (show Hid (∀ W, Below w1.heap.size w1 W → Calls Tryz.prog 80 #[sv xs, sv y.st] W fun e w' => e = .returned (sv (xs ||| y.st)) ∧ Below w1.heap.size w1 w') from fun W hW => (union_any _ _ W).mono fun e w' ⟨h1, h2⟩ => ⟨h1, hW.trans (h2.mono hW.size)⟩)
  have HKp := (show Hid (∀ W, Below w1.heap.size w1 W → SqS w W ⟨xs, false, true⟩ y cx cy f0) from fun W hW => HS.out.later hW)
  have x0 := hs.x.c0
  have x1 := hs.x.c1
  have x2 := hs.x.c2
  have x3 := hs.x.c3
  have x4 := hs.x.c4
  have x5 := hs.x.c5
  have y0 := hs.y.c0
  have y1 := hs.y.c1
  have y2 := hs.y.c2
  have y3 := hs.y.c3
  have y4 := hs.y.c4
  have y5 := hs.y.c5
  clear hw1 hs
  obtain ⟨ys, ye, yh⟩ := y
  simp only at *
  have HKz := (show Hid (∀ W, Below w1.heap.size w1 W → W.cell? ⟨w.heap.size + 1 + 1, 0, none⟩ = some (.int .u64 (wd f0.st 0)) ∧ W.cell? ⟨w.heap.size + 1 + 1, 1, none⟩ = some (.int .u64 (wd f0.st 1)) ∧ W.cell? ⟨w.heap.size + 1 + 1, 2, none⟩ = some (.int .u64 (wd f0.st 2)) ∧ W.cell? ⟨w.heap.size + 1 + 1, 3, none⟩ = some (.int .u64 (wd f0.st 3)) ∧ W.cell? ⟨w.heap.size + 1 + 1, 4, none⟩ = some (.bool f0.em) ∧ W.cell? ⟨w.heap.size + 1 + 1, 5, none⟩ = some (.bool f0.hf) ∧ W.frozen? ⟨w.heap.size + 1 + 1, 0, none⟩ = false ∧ W.frozen? ⟨w.heap.size + 1 + 1, 1, none⟩ = false ∧ W.frozen? ⟨w.heap.size + 1 + 1, 2, none⟩ = false ∧ W.frozen? ⟨w.heap.size + 1 + 1, 3, none⟩ = false ∧ W.frozen? ⟨w.heap.size + 1 + 1, 4, none⟩ = false ∧ W.frozen? ⟨w.heap.size + 1 + 1, 5, none⟩ = false) from fun W hW => by
    have h := (HKp.out W hW).z
    exact ⟨h.c0, h.c1, h.c2, h.c3, h.c4, h.c5, h.fz 0, h.fz 1, h.fz 2, h.fz 3, h.fz 4, h.fz 5⟩)
  have HZ := (show ∀ W, Below w1.heap.size w1 W → Hid (FX (sF W (w.heap.size + 1 + 1) (chF ⟨xs, false, true⟩ ⟨ys, ye, yh⟩)) (w.heap.size + 1 + 1) (chF ⟨xs, false, true⟩ ⟨ys, ye, yh⟩) ∧ Below w.heap.size w (sF W (w.heap.size + 1 + 1) (chF ⟨xs, false, true⟩ ⟨ys, ye, yh⟩))) from fun W hW => ⟨sF_fx (HKp.out W hW).z _, sF_below _ _ (HKp.out W hW).b (by omega)⟩)
  have HZ := (show Hid _ from HZ)
  have HKe := (show Hid (∀ W, Below w1.heap.size w1 W → (fun W => W.cell? ⟨w.heap.size, 0, none⟩ = some (.int .u64 (wd xs 0)) ∧ W.cell? ⟨w.heap.size, 1, none⟩ = some (.int .u64 (wd xs 1)) ∧ W.cell? ⟨w.heap.size, 2, none⟩ = some (.int .u64 (wd xs 2)) ∧ W.cell? ⟨w.heap.size, 3, none⟩ = some (.int .u64 (wd xs 3)) ∧ W.cell? ⟨w.heap.size, 4, none⟩ = some (.bool false) ∧ W.cell? ⟨w.heap.size, 5, none⟩ = some (.bool true) ∧ W.cell? ⟨w.heap.size + 1, 0, none⟩ = some (.int .u64 (wd ys 0)) ∧ W.cell? ⟨w.heap.size + 1, 1, none⟩ = some (.int .u64 (wd ys 1)) ∧ W.cell? ⟨w.heap.size + 1, 2, none⟩ = some (.int .u64 (wd ys 2)) ∧ W.cell? ⟨w.heap.size + 1, 3, none⟩ = some (.int .u64 (wd ys 3)) ∧ W.cell? ⟨w.heap.size + 1, 4, none⟩ = some (.bool ye) ∧ W.cell? ⟨w.heap.size + 1, 5, none⟩ = some (.bool yh)) W) from fun W hW => by
    have h := HKp.out W hW
    exact ⟨h.x.c0, h.x.c1, h.x.c2, h.x.c3, h.x.c4, h.x.c5, h.y.c0, h.y.c1, h.y.c2, h.y.c3, h.y.c4, h.y.c5⟩)
  have HKs := (show ∀ W, Below w1.heap.size w1 W → (fun W => W.cell? ⟨w.heap.size, 0, none⟩ = some (.int .u64 (wd xs 0)) ∧ W.cell? ⟨w.heap.size, 1, none⟩ = some (.int .u64 (wd xs 1)) ∧ W.cell? ⟨w.heap.size, 2, none⟩ = some (.int .u64 (wd xs 2)) ∧ W.cell? ⟨w.heap.size, 3, none⟩ = some (.int .u64 (wd xs 3)) ∧ W.cell? ⟨w.heap.size, 4, none⟩ = some (.bool false) ∧ W.cell? ⟨w.heap.size, 5, none⟩ = some (.bool true) ∧ W.cell? ⟨w.heap.size + 1, 0, none⟩ = some (.int .u64 (wd ys 0)) ∧ W.cell? ⟨w.heap.size + 1, 1, none⟩ = some (.int .u64 (wd ys 1)) ∧ W.cell? ⟨w.heap.size + 1, 2, none⟩ = some (.int .u64 (wd ys 2)) ∧ W.cell? ⟨w.heap.size + 1, 3, none⟩ = some (.int .u64 (wd ys 3)) ∧ W.cell? ⟨w.heap.size + 1, 4, none⟩ = some (.bool ye) ∧ W.cell? ⟨w.heap.size + 1, 5, none⟩ = some (.bool yh)) (sF W (w.heap.size + 1 + 1) (chF ⟨xs, false, true⟩ ⟨ys, ye, yh⟩)) from fun W hW => by
    have h := HKp.out W hW
    have hx := h.x.same (sF_other W (w.heap.size + 1 + 1) (chF ⟨xs, false, true⟩ ⟨ys, ye, yh⟩) (j := w.heap.size) (by omega))
    have hy := h.y.same (sF_other W (w.heap.size + 1 + 1) (chF ⟨xs, false, true⟩ ⟨ys, ye, yh⟩) (j := w.heap.size + 1) (by omega))
    exact ⟨hx.c0, hx.c1, hx.c2, hx.c3, hx.c4, hx.c5, hy.c0, hy.c1, hy.c2, hy.c3, hy.c4, hy.c5⟩)
  unfold sF chF at HKs
  simp only [Bool.false_or, Bool.true_and] at HKs
  have HKs := (show Hid _ from HKs)
  have HKd := (show Hid _ from HKe.out w1.drew ((Below.refl _ _).drew))
  clear x0 x1 x2 x3 x4 x5 y0 y1 y2 y3 y4 y5
  go_enter Tryz.func62, Tryz.ntmps62
  go_wp2_with (rw [HE.out])
  refine wp_region_noPanic ?_
  refine wp_region_held_drew (S := fun W => W.cell? ⟨w.heap.size, 0, none⟩ = some (.int .u64 (wd xs 0)) ∧ W.cell? ⟨w.heap.size, 1, none⟩ = some (.int .u64 (wd xs 1)) ∧ W.cell? ⟨w.heap.size, 2, none⟩ = some (.int .u64 (wd xs 2)) ∧ W.cell? ⟨w.heap.size, 3, none⟩ = some (.int .u64 (wd xs 3)) ∧ W.cell? ⟨w.heap.size, 4, none⟩ = some (.bool false) ∧ W.cell? ⟨w.heap.size, 5, none⟩ = some (.bool true) ∧ W.cell? ⟨w.heap.size + 1, 0, none⟩ = some (.int .u64 (wd ys 0)) ∧ W.cell? ⟨w.heap.size + 1, 1, none⟩ = some (.int .u64 (wd ys 1)) ∧ W.cell? ⟨w.heap.size + 1, 2, none⟩ = some (.int .u64 (wd ys 2)) ∧ W.cell? ⟨w.heap.size + 1, 3, none⟩ = some (.int .u64 (wd ys 3)) ∧ W.cell? ⟨w.heap.size + 1, 4, none⟩ = some (.bool ye) ∧ W.cell? ⟨w.heap.size + 1, 5, none⟩ = some (.bool yh)) (by kernel_rfl) HKd.out (fun hHeld => ?_)
  refine wpAnyH_take (i := 0) (oi := _) (v := ?_) rfl (by kernel_rfl) (by kernel_rfl) (by kernel_rfl) (fun _ _ _ h => h) (Or.inl ⟨by rfl, ?_⟩) (by assumption) ?_
  rotate_left
  · intro w hSw
    (try dsimp only at hSw)
    go_simp
    (try with_reducible rfl)
  (try simp only [Act.put, List.setIfInBounds_toArray])
  refine wpAnyH_take (i := 1) (oi := _) (v := ?_) rfl (by kernel_rfl) (by kernel_rfl) (by kernel_rfl) (fun _ _ _ h => h) (Or.inl ⟨by rfl, ?_⟩) (by assumption) ?_
  rotate_left
  · intro w hSw
    (try dsimp only at hSw)
    go_simp
    (try with_reducible rfl)
  (try simp only [Act.put])
  refine wpAnyH_take (i := 2) (oi := _) (v := ?_) rfl (by kernel_rfl) (by kernel_rfl) (by kernel_rfl) (fun _ _ _ h => h) (Or.inl ⟨by rfl, ?_⟩) (by assumption) ?_
  rotate_left
  · intro w hSw
    (try dsimp only at hSw)
    go_simp
    (try with_reducible rfl)
  (try simp only [Act.put])
  refine wpAnyH_take (i := 3) (oi := _) (v := ?_) rfl (by kernel_rfl) (by kernel_rfl) (by kernel_rfl) (fun _ _ _ h => h) (Or.inl ⟨by rfl, ?_⟩) (by assumption) ?_
  rotate_left
  · intro w hSw
    (try dsimp only at hSw)
    go_simp
    (try with_reducible rfl)
  (try simp only [Act.put])
  refine wpAnyH_take (i := 4) (oi := _) (v := ?_) rfl (by kernel_rfl) (by kernel_rfl) (by kernel_rfl) (fun _ _ _ h => h) (Or.inl ⟨by rfl, ?_⟩) (by assumption) ?_
  rotate_left
  · intro w hSw
    (try dsimp only at hSw)
    go_simp
    (try with_reducible rfl)
  (try simp only [Act.put])
  refine wpAnyH_take (i := 5) (oi := _) (v := ?_) rfl (by kernel_rfl) (by kernel_rfl) (by kernel_rfl) (fun _ _ _ h => h) (Or.inl ⟨by rfl, ?_⟩) (by assumption) ?_
  rotate_left
  · intro w hSw
    (try dsimp only at hSw)
    go_simp
    (try with_reducible rfl)
  (try simp only [Act.put])
  refine wpAnyH_take (i := 7) (oi := _) (v := ?_) rfl (by kernel_rfl) (by kernel_rfl) (by kernel_rfl) (fun _ _ _ h => h) (Or.inl ⟨by rfl, ?_⟩) (by assumption) ?_
  rotate_left
  · intro w hSw
    (try dsimp only at hSw)
    go_simp
    (try with_reducible rfl)
  (try simp only [Act.put])
  refine wpAnyH_take (i := 8) (oi := _) (v := ?_) rfl (by kernel_rfl) (by kernel_rfl) (by kernel_rfl) (fun _ _ _ h => h) (Or.inl ⟨by rfl, ?_⟩) (by assumption) ?_
  rotate_left
  · intro w hSw
    (try dsimp only at hSw)
    go_simp
    (try with_reducible rfl)
  (try simp only [Act.put])
  refine wpAnyH_take (i := 9) (oi := _) (v := ?_) rfl (by kernel_rfl) (by kernel_rfl) (by kernel_rfl) (fun _ _ _ h => h) (Or.inl ⟨by rfl, ?_⟩) (by assumption) ?_
  rotate_left
  · intro w hSw
    (try dsimp only at hSw)
    go_simp
    (try with_reducible rfl)
  (try simp only [Act.put])
  refine wpAnyH_take (i := 15) (oi := _) (v := ?_) rfl (by kernel_rfl) (by kernel_rfl) (by kernel_rfl) (fun _ _ _ h => h) (Or.inl ⟨by rfl, ?_⟩) (by assumption) ?_
  rotate_left
  · intro w hSw
    (try dsimp only at hSw)
    go_simp
    (try with_reducible rfl)
  (try simp only [Act.put])
  refine wpAnyH_take (i := 16) (oi := _) (v := ?_) rfl (by kernel_rfl) (by kernel_rfl) (by kernel_rfl) (fun _ _ _ h => h) (Or.inl ⟨by rfl, ?_⟩) (by assumption) ?_
  rotate_left
  · intro w hSw
    (try dsimp only at hSw)
    go_simp
    (try with_reducible rfl)
  (try simp only [Act.put])
  refine wpAnyH_take (i := 17) (oi := _) (v := ?_) rfl (by kernel_rfl) (by kernel_rfl) (by kernel_rfl) (fun _ _ _ h => h) (Or.inl ⟨by rfl, ?_⟩) (by assumption) ?_
  rotate_left
  · intro w hSw
    (try dsimp only at hSw)
    go_simp
    (try with_reducible rfl)
  (try simp only [Act.put])
  refine wpAnyH_ready (rs := [6]) (by kernel_rfl) (by simp) ?_
  refine AllReadyH.cons (o := _) rfl (fun K hK => ?_) AllReadyH.nil
  go_simp
  go_at_call 80
  with_reducible refine (HU.out _ ((Below.refl _ _).drew)).mono ?_
  rintro e w5 ⟨rfl, b5⟩
  obtain ⟨g0, g1, g2, g3, g4, g5, g6, g7, g8, g9, g10, g11⟩ := HKz.out w5 b5
  refine hK.out _ _ (HKe.out _ b5) (fun hHeld => ?_)
  clear hK K
  (try simp only [Act.put, List.setIfInBounds_toArray, List.set_cons_zero, List.set_cons_succ])
  refine wpAnyH_take (i := 10) (oi := _) (v := ?_) rfl (by kernel_rfl) (by kernel_rfl) (by kernel_rfl) (fun _ _ _ h => h) (Or.inl ⟨by rfl, ?_⟩) (by assumption) ?_
  rotate_left
  · intro w hSw
    (try dsimp only at hSw)
    go_simp
    (try with_reducible rfl)
  (try simp only [Act.put, List.setIfInBounds_toArray])
  refine wpAnyH_take (i := 11) (oi := _) (v := ?_) rfl (by kernel_rfl) (by kernel_rfl) (by kernel_rfl) (fun _ _ _ h => h) (Or.inl ⟨by rfl, ?_⟩) (by assumption) ?_
  rotate_left
  · intro w hSw
    (try dsimp only at hSw)
    go_simp
    (try with_reducible rfl)
  (try simp only [Act.put])
  refine wpAnyH_take (i := 12) (oi := _) (v := ?_) rfl (by kernel_rfl) (by kernel_rfl) (by kernel_rfl) (fun _ _ _ h => h) (Or.inl ⟨by rfl, ?_⟩) (by assumption) ?_
  rotate_left
  · intro w hSw
    (try dsimp only at hSw)
    go_simp
    (try with_reducible rfl)
  (try simp only [Act.put])
  refine wpAnyH_take (i := 13) (oi := _) (v := ?_) rfl (by kernel_rfl) (by kernel_rfl) (by kernel_rfl) (fun _ _ _ h => h) (Or.inl ⟨by rfl, ?_⟩) (by assumption) ?_
  rotate_left
  · intro w hSw
    (try dsimp only at hSw)
    go_simp
    (try with_reducible rfl)
  (try simp only [Act.put])
  refine wpAnyH_take (i := 14) (oi := _) (v := ?_) rfl (by kernel_rfl) (by kernel_rfl) (by kernel_rfl) (fun _ _ _ h => h) (Or.inl ⟨by rfl, ?_⟩) (by assumption) ?_
  rotate_left
  · intro w hSw
    (try dsimp only at hSw)
    go_simp
    (try with_reducible rfl)
  (try simp only [Act.put])
  refine wpAnyH_take (i := 18) (oi := _) (v := ?_) rfl (by kernel_rfl) (by kernel_rfl) (by kernel_rfl) (fun _ _ _ h => h) (Or.inl ⟨by rfl, ?_⟩) (by assumption) ?_
  rotate_left
  · intro w hSw
    (try dsimp only at hSw)
    go_simp
    (try with_reducible rfl)
  (try simp only [Act.put])
  refine wpAnyH_take (i := 19) (oi := _) (v := ?_) rfl (by kernel_rfl) (by kernel_rfl) (by kernel_rfl) (fun _ _ _ h => h) (Or.inl ⟨by rfl, ?_⟩) (by assumption) ?_
  rotate_left
  · intro w hSw
    (try dsimp only at hSw)
    go_simp
    (try with_reducible rfl)
  (try simp only [Act.put])
  refine wpAnyH_take (i := 20) (oi := _) (v := ?_) rfl (by kernel_rfl) (by kernel_rfl) (by kernel_rfl) (fun _ _ _ h => h) (Or.inl ⟨by rfl, ?_⟩) (by assumption) ?_
  rotate_left
  · intro w hSw
    (try dsimp only at hSw)
    go_simp
    (try with_reducible rfl)
  (try simp only [Act.put])
  refine wpAnyH_take (i := 21) (oi := _) (v := ?_) rfl (by kernel_rfl) (by kernel_rfl) (by kernel_rfl) (fun _ _ _ h => h) (Or.inl ⟨by rfl, ?_⟩) (by assumption) ?_
  rotate_left
  · intro w hSw
    (try dsimp only at hSw)
    go_simp
    (try with_reducible rfl)
  (try simp only [Act.put])
  refine wpAnyH_take (i := 22) (oi := _) (v := ?_) rfl (by kernel_rfl) (by kernel_rfl) (by kernel_rfl) (fun _ _ _ h => h) (Or.inl ⟨by rfl, ?_⟩) (by assumption) ?_
  rotate_left
  · intro w hSw
    (try dsimp only at hSw)
    go_simp
    (try with_reducible rfl)
  (try simp only [Act.put])
  refine wpAnyH_take (i := 23) (oi := _) (v := ?_) rfl (by kernel_rfl) (by kernel_rfl) (by kernel_rfl) (fun _ _ _ h => h) (Or.inl ⟨by rfl, ?_⟩) (by assumption) ?_
  rotate_left
  · intro w hSw
    (try dsimp only at hSw)
    go_simp
    (try with_reducible rfl)
  (try simp only [Act.put])
  refine wpAnyH_ready (rs := [24]) (by kernel_rfl) (by simp) ?_
  refine AllReadyH.cons (o := _) rfl (fun K hK => ?_) AllReadyH.nil
  go_simp
  refine hK.out _ _ (by with_reducible exact HKs.out _ b5) (fun hHeld => ?_)
  clear hK K
  (try simp only [Act.put, List.setIfInBounds_toArray, List.set_cons_zero, List.set_cons_succ])
  refine wpAnyH_done (by kernel_rfl) ?_ _
  refine NoPanic.normal ?_
  have HF := HZ.out w5 b5
  unfold sF chF at HF
  simp only [Bool.false_or, Bool.true_and] at HF
  clear hHeld HKs HKe HKz HKd HZ HU HKp
  go_wp2_with fail
  exact ret_f rfl rfl rfl HF.out.1 ⟨rfl, HF.out.2⟩
end Go.Proofs.YtbnihflihelimaaGreat.N

namespace Go.Proofs.YtbnihflihelimaaGreat.N
open Go.RowKit Go.Maps
open Go.Proofs.YtbnihflihelimaaGreat.T

open U (below_grown)
set_option maxRecDepth 100000 in
set_option maxHeartbeats 8000000 in
theorem fsCho_3 (xs : BitVec 256) (y : Fs) (cx cy : Bool) (w : World) : Calls Tryz.prog 62 #[qG ⟨xs, true, false⟩ cx, qG y cy] w fun e w' => e = .returned (fG (chF ⟨xs, true, false⟩ y)) ∧ Below w.heap.size w w' := by
  have hs := SqS.new w ⟨xs, true, false⟩ y cx cy
  obtain ⟨w1, hw1⟩ : ∃ w1, w1 = ((w.alloc (.cells #[.int .u64 (wd xs 0), .int .u64 (wd xs 1), .int .u64 (wd xs 2), .int .u64 (wd xs 3), .bool true, .bool false, .bool cx] 96)).alloc (.cells #[.int .u64 (wd y.st 0), .int .u64 (wd y.st 1), .int .u64 (wd y.st 2), .int .u64 (wd y.st 3), .bool y.em, .bool y.hf, .bool cy] 96)).alloc (.cells #[.int .u64 0, .int .u64 0, .int .u64 0, .int .u64 0, .bool false, .bool false] 36) := ⟨_, rfl⟩
  rw [← hw1] at hs
  have HE := (show Hid (((w.alloc (.cells #[.int .u64 (wd xs 0), .int .u64 (wd xs 1), .int .u64 (wd xs 2), .int .u64 (wd xs 3), .bool true, .bool false, .bool cx] 96)).alloc (.cells #[.int .u64 (wd y.st 0), .int .u64 (wd y.st 1), .int .u64 (wd y.st 2), .int .u64 (wd y.st 3), .bool y.em, .bool y.hf, .bool cy] 96)).alloc (.cells #[.int .u64 0, .int .u64 0, .int .u64 0, .int .u64 0, .bool false, .bool false] 36) = w1) from hw1.symm)
  have HS := (show Hid (SqS w w1 ⟨xs, true, false⟩ y cx cy f0) from hs)
  have HU := (show Hid (∀ W, Below w1.heap.size w1 W → Calls Tryz.prog 80 #[sv xs, sv y.st] W fun e w' => e = .returned (sv (xs ||| y.st)) ∧ Below w1.heap.size w1 w') from fun W hW => (union_any _ _ W).mono fun e w' ⟨h1, h2⟩ => ⟨h1, hW.trans (h2.mono hW.size)⟩)
  have HKp := (show Hid (∀ W, Below w1.heap.size w1 W → SqS w W ⟨xs, true, false⟩ y cx cy f0) from fun W hW => HS.out.later hW)
  have x0 := hs.x.c0
  have x1 := hs.x.c1
  have x2 := hs.x.c2
  have x3 := hs.x.c3
  have x4 := hs.x.c4
  have x5 := hs.x.c5
  have y0 := hs.y.c0
  have y1 := hs.y.c1
  have y2 := hs.y.c2
  have y3 := hs.y.c3
  have y4 := hs.y.c4
  have y5 := hs.y.c5
  clear hw1 hs
  obtain ⟨ys, ye, yh⟩ := y
  simp only at *
  have HKz := (show Hid (∀ W, Below w1.heap.size w1 W → W.cell? ⟨w.heap.size + 1 + 1, 0, none⟩ = some (.int .u64 (wd f0.st 0)) ∧ W.cell? ⟨w.heap.size + 1 + 1, 1, none⟩ = some (.int .u64 (wd f0.st 1)) ∧ W.cell? ⟨w.heap.size + 1 + 1, 2, none⟩ = some (.int .u64 (wd f0.st 2)) ∧ W.cell? ⟨w.heap.size + 1 + 1, 3, none⟩ = some (.int .u64 (wd f0.st 3)) ∧ W.cell? ⟨w.heap.size + 1 + 1, 4, none⟩ = some (.bool f0.em) ∧ W.cell? ⟨w.heap.size + 1 + 1, 5, none⟩ = some (.bool f0.hf) ∧ W.frozen? ⟨w.heap.size + 1 + 1, 0, none⟩ = false ∧ W.frozen? ⟨w.heap.size + 1 + 1, 1, none⟩ = false ∧ W.frozen? ⟨w.heap.size + 1 + 1, 2, none⟩ = false ∧ W.frozen? ⟨w.heap.size + 1 + 1, 3, none⟩ = false ∧ W.frozen? ⟨w.heap.size + 1 + 1, 4, none⟩ = false ∧ W.frozen? ⟨w.heap.size + 1 + 1, 5, none⟩ = false) from fun W hW => by
    have h := (HKp.out W hW).z
    exact ⟨h.c0, h.c1, h.c2, h.c3, h.c4, h.c5, h.fz 0, h.fz 1, h.fz 2, h.fz 3, h.fz 4, h.fz 5⟩)
  have HZ := (show ∀ W, Below w1.heap.size w1 W → Hid (FX (sF W (w.heap.size + 1 + 1) (chF ⟨xs, true, false⟩ ⟨ys, ye, yh⟩)) (w.heap.size + 1 + 1) (chF ⟨xs, true, false⟩ ⟨ys, ye, yh⟩) ∧ Below w.heap.size w (sF W (w.heap.size + 1 + 1) (chF ⟨xs, true, false⟩ ⟨ys, ye, yh⟩))) from fun W hW => ⟨sF_fx (HKp.out W hW).z _, sF_below _ _ (HKp.out W hW).b (by omega)⟩)
  have HZ := (show Hid _ from HZ)
  have HKe := (show Hid (∀ W, Below w1.heap.size w1 W → (fun W => W.cell? ⟨w.heap.size, 0, none⟩ = some (.int .u64 (wd xs 0)) ∧ W.cell? ⟨w.heap.size, 1, none⟩ = some (.int .u64 (wd xs 1)) ∧ W.cell? ⟨w.heap.size, 2, none⟩ = some (.int .u64 (wd xs 2)) ∧ W.cell? ⟨w.heap.size, 3, none⟩ = some (.int .u64 (wd xs 3)) ∧ W.cell? ⟨w.heap.size, 4, none⟩ = some (.bool true) ∧ W.cell? ⟨w.heap.size, 5, none⟩ = some (.bool false) ∧ W.cell? ⟨w.heap.size + 1, 0, none⟩ = some (.int .u64 (wd ys 0)) ∧ W.cell? ⟨w.heap.size + 1, 1, none⟩ = some (.int .u64 (wd ys 1)) ∧ W.cell? ⟨w.heap.size + 1, 2, none⟩ = some (.int .u64 (wd ys 2)) ∧ W.cell? ⟨w.heap.size + 1, 3, none⟩ = some (.int .u64 (wd ys 3)) ∧ W.cell? ⟨w.heap.size + 1, 4, none⟩ = some (.bool ye) ∧ W.cell? ⟨w.heap.size + 1, 5, none⟩ = some (.bool yh)) W) from fun W hW => by
    have h := HKp.out W hW
    exact ⟨h.x.c0, h.x.c1, h.x.c2, h.x.c3, h.x.c4, h.x.c5, h.y.c0, h.y.c1, h.y.c2, h.y.c3, h.y.c4, h.y.c5⟩)
  have HKs := (show ∀ W, Below w1.heap.size w1 W → (fun W => W.cell? ⟨w.heap.size, 0, none⟩ = some (.int .u64 (wd xs 0)) ∧ W.cell? ⟨w.heap.size, 1, none⟩ = some (.int .u64 (wd xs 1)) ∧ W.cell? ⟨w.heap.size, 2, none⟩ = some (.int .u64 (wd xs 2)) ∧ W.cell? ⟨w.heap.size, 3, none⟩ = some (.int .u64 (wd xs 3)) ∧ W.cell? ⟨w.heap.size, 4, none⟩ = some (.bool true) ∧ W.cell? ⟨w.heap.size, 5, none⟩ = some (.bool false) ∧ W.cell? ⟨w.heap.size + 1, 0, none⟩ = some (.int .u64 (wd ys 0)) ∧ W.cell? ⟨w.heap.size + 1, 1, none⟩ = some (.int .u64 (wd ys 1)) ∧ W.cell? ⟨w.heap.size + 1, 2, none⟩ = some (.int .u64 (wd ys 2)) ∧ W.cell? ⟨w.heap.size + 1, 3, none⟩ = some (.int .u64 (wd ys 3)) ∧ W.cell? ⟨w.heap.size + 1, 4, none⟩ = some (.bool ye) ∧ W.cell? ⟨w.heap.size + 1, 5, none⟩ = some (.bool yh)) (sF W (w.heap.size + 1 + 1) (chF ⟨xs, true, false⟩ ⟨ys, ye, yh⟩)) from fun W hW => by
    have h := HKp.out W hW
    have hx := h.x.same (sF_other W (w.heap.size + 1 + 1) (chF ⟨xs, true, false⟩ ⟨ys, ye, yh⟩) (j := w.heap.size) (by omega))
    have hy := h.y.same (sF_other W (w.heap.size + 1 + 1) (chF ⟨xs, true, false⟩ ⟨ys, ye, yh⟩) (j := w.heap.size + 1) (by omega))
    exact ⟨hx.c0, hx.c1, hx.c2, hx.c3, hx.c4, hx.c5, hy.c0, hy.c1, hy.c2, hy.c3, hy.c4, hy.c5⟩)
  unfold sF chF at HKs
  simp only [Bool.true_or, Bool.false_and] at HKs
  have HKs := (show Hid _ from HKs)
  have HKd := (show Hid _ from HKe.out w1.drew ((Below.refl _ _).drew))
  clear x0 x1 x2 x3 x4 x5 y0 y1 y2 y3 y4 y5
  go_enter Tryz.func62, Tryz.ntmps62
  go_wp2_with (rw [HE.out])
  refine wp_region_noPanic ?_
  refine wp_region_held_drew (S := fun W => W.cell? ⟨w.heap.size, 0, none⟩ = some (.int .u64 (wd xs 0)) ∧ W.cell? ⟨w.heap.size, 1, none⟩ = some (.int .u64 (wd xs 1)) ∧ W.cell? ⟨w.heap.size, 2, none⟩ = some (.int .u64 (wd xs 2)) ∧ W.cell? ⟨w.heap.size, 3, none⟩ = some (.int .u64 (wd xs 3)) ∧ W.cell? ⟨w.heap.size, 4, none⟩ = some (.bool true) ∧ W.cell? ⟨w.heap.size, 5, none⟩ = some (.bool false) ∧ W.cell? ⟨w.heap.size + 1, 0, none⟩ = some (.int .u64 (wd ys 0)) ∧ W.cell? ⟨w.heap.size + 1, 1, none⟩ = some (.int .u64 (wd ys 1)) ∧ W.cell? ⟨w.heap.size + 1, 2, none⟩ = some (.int .u64 (wd ys 2)) ∧ W.cell? ⟨w.heap.size + 1, 3, none⟩ = some (.int .u64 (wd ys 3)) ∧ W.cell? ⟨w.heap.size + 1, 4, none⟩ = some (.bool ye) ∧ W.cell? ⟨w.heap.size + 1, 5, none⟩ = some (.bool yh)) (by kernel_rfl) HKd.out (fun hHeld => ?_)
  refine wpAnyH_take (i := 0) (oi := _) (v := ?_) rfl (by kernel_rfl) (by kernel_rfl) (by kernel_rfl) (fun _ _ _ h => h) (Or.inl ⟨by rfl, ?_⟩) (by assumption) ?_
  rotate_left
  · intro w hSw
    (try dsimp only at hSw)
    go_simp
    (try with_reducible rfl)
  (try simp only [Act.put, List.setIfInBounds_toArray])
  refine wpAnyH_take (i := 1) (oi := _) (v := ?_) rfl (by kernel_rfl) (by kernel_rfl) (by kernel_rfl) (fun _ _ _ h => h) (Or.inl ⟨by rfl, ?_⟩) (by assumption) ?_
  rotate_left
  · intro w hSw
    (try dsimp only at hSw)
    go_simp
    (try with_reducible rfl)
  (try simp only [Act.put])
  refine wpAnyH_take (i := 2) (oi := _) (v := ?_) rfl (by kernel_rfl) (by kernel_rfl) (by kernel_rfl) (fun _ _ _ h => h) (Or.inl ⟨by rfl, ?_⟩) (by assumption) ?_
  rotate_left
  · intro w hSw
    (try dsimp only at hSw)
    go_simp
    (try with_reducible rfl)
  (try simp only [Act.put])
  refine wpAnyH_take (i := 3) (oi := _) (v := ?_) rfl (by kernel_rfl) (by kernel_rfl) (by kernel_rfl) (fun _ _ _ h => h) (Or.inl ⟨by rfl, ?_⟩) (by assumption) ?_
  rotate_left
  · intro w hSw
    (try dsimp only at hSw)
    go_simp
    (try with_reducible rfl)
  (try simp only [Act.put])
  refine wpAnyH_take (i := 4) (oi := _) (v := ?_) rfl (by kernel_rfl) (by kernel_rfl) (by kernel_rfl) (fun _ _ _ h => h) (Or.inl ⟨by rfl, ?_⟩) (by assumption) ?_
  rotate_left
  · intro w hSw
    (try dsimp only at hSw)
    go_simp
    (try with_reducible rfl)
  (try simp only [Act.put])
  refine wpAnyH_take (i := 5) (oi := _) (v := ?_) rfl (by kernel_rfl) (by kernel_rfl) (by kernel_rfl) (fun _ _ _ h => h) (Or.inl ⟨by rfl, ?_⟩) (by assumption) ?_
  rotate_left
  · intro w hSw
    (try dsimp only at hSw)
    go_simp
    (try with_reducible rfl)
  (try simp only [Act.put])
  refine wpAnyH_take (i := 7) (oi := _) (v := ?_) rfl (by kernel_rfl) (by kernel_rfl) (by kernel_rfl) (fun _ _ _ h => h) (Or.inl ⟨by rfl, ?_⟩) (by assumption) ?_
  rotate_left
  · intro w hSw
    (try dsimp only at hSw)
    go_simp
    (try with_reducible rfl)
  (try simp only [Act.put])
  refine wpAnyH_take (i := 8) (oi := _) (v := ?_) rfl (by kernel_rfl) (by kernel_rfl) (by kernel_rfl) (fun _ _ _ h => h) (Or.inl ⟨by rfl, ?_⟩) (by assumption) ?_
  rotate_left
  · intro w hSw
    (try dsimp only at hSw)
    go_simp
    (try with_reducible rfl)
  (try simp only [Act.put])
  refine wpAnyH_take (i := 9) (oi := _) (v := ?_) rfl (by kernel_rfl) (by kernel_rfl) (by kernel_rfl) (fun _ _ _ h => h) (Or.inl ⟨by rfl, ?_⟩) (by assumption) ?_
  rotate_left
  · intro w hSw
    (try dsimp only at hSw)
    go_simp
    (try with_reducible rfl)
  (try simp only [Act.put])
  refine wpAnyH_take (i := 15) (oi := _) (v := ?_) rfl (by kernel_rfl) (by kernel_rfl) (by kernel_rfl) (fun _ _ _ h => h) (Or.inl ⟨by rfl, ?_⟩) (by assumption) ?_
  rotate_left
  · intro w hSw
    (try dsimp only at hSw)
    go_simp
    (try with_reducible rfl)
  (try simp only [Act.put])
  refine wpAnyH_take (i := 16) (oi := _) (v := ?_) rfl (by kernel_rfl) (by kernel_rfl) (by kernel_rfl) (fun _ _ _ h => h) (Or.inl ⟨by rfl, ?_⟩) (by assumption) ?_
  rotate_left
  · intro w hSw
    (try dsimp only at hSw)
    go_simp
    (try with_reducible rfl)
  (try simp only [Act.put])
  refine wpAnyH_take (i := 17) (oi := _) (v := ?_) rfl (by kernel_rfl) (by kernel_rfl) (by kernel_rfl) (fun _ _ _ h => h) (Or.inl ⟨by rfl, ?_⟩) (by assumption) ?_
  rotate_left
  · intro w hSw
    (try dsimp only at hSw)
    go_simp
    (try with_reducible rfl)
  (try simp only [Act.put])
  refine wpAnyH_ready (rs := [6]) (by kernel_rfl) (by simp) ?_
  refine AllReadyH.cons (o := _) rfl (fun K hK => ?_) AllReadyH.nil
  go_simp
  go_at_call 80
  with_reducible refine (HU.out _ ((Below.refl _ _).drew)).mono ?_
  rintro e w5 ⟨rfl, b5⟩
  obtain ⟨g0, g1, g2, g3, g4, g5, g6, g7, g8, g9, g10, g11⟩ := HKz.out w5 b5
  refine hK.out _ _ (HKe.out _ b5) (fun hHeld => ?_)
  clear hK K
  (try simp only [Act.put, List.setIfInBounds_toArray, List.set_cons_zero, List.set_cons_succ])
  refine wpAnyH_take (i := 10) (oi := _) (v := ?_) rfl (by kernel_rfl) (by kernel_rfl) (by kernel_rfl) (fun _ _ _ h => h) (Or.inl ⟨by rfl, ?_⟩) (by assumption) ?_
  rotate_left
  · intro w hSw
    (try dsimp only at hSw)
    go_simp
    (try with_reducible rfl)
  (try simp only [Act.put, List.setIfInBounds_toArray])
  refine wpAnyH_take (i := 11) (oi := _) (v := undef) rfl (by kernel_rfl) (by kernel_rfl) (by kernel_rfl) (fun _ _ _ h => h) (Or.inr ⟨by rfl, rfl⟩) (by assumption) ?_
  (try simp only [Act.put])
  refine wpAnyH_take (i := 12) (oi := _) (v := undef) rfl (by kernel_rfl) (by kernel_rfl) (by kernel_rfl) (fun _ _ _ h => h) (Or.inr ⟨by rfl, rfl⟩) (by assumption) ?_
  (try simp only [Act.put])
  refine wpAnyH_take (i := 13) (oi := _) (v := undef) rfl (by kernel_rfl) (by kernel_rfl) (by kernel_rfl) (fun _ _ _ h => h) (Or.inr ⟨by rfl, rfl⟩) (by assumption) ?_
  (try simp only [Act.put])
  refine wpAnyH_take (i := 14) (oi := _) (v := ?_) rfl (by kernel_rfl) (by kernel_rfl) (by kernel_rfl) (fun _ _ _ h => h) (Or.inl ⟨by rfl, ?_⟩) (by assumption) ?_
  rotate_left
  · intro w hSw
    (try dsimp only at hSw)
    go_simp
    (try with_reducible rfl)
  (try simp only [Act.put])
  refine wpAnyH_take (i := 18) (oi := _) (v := ?_) rfl (by kernel_rfl) (by kernel_rfl) (by kernel_rfl) (fun _ _ _ h => h) (Or.inl ⟨by rfl, ?_⟩) (by assumption) ?_
  rotate_left
  · intro w hSw
    (try dsimp only at hSw)
    go_simp
    (try with_reducible rfl)
  (try simp only [Act.put])
  refine wpAnyH_take (i := 19) (oi := _) (v := undef) rfl (by kernel_rfl) (by kernel_rfl) (by kernel_rfl) (fun _ _ _ h => h) (Or.inr ⟨by rfl, rfl⟩) (by assumption) ?_
  (try simp only [Act.put])
  refine wpAnyH_take (i := 20) (oi := _) (v := undef) rfl (by kernel_rfl) (by kernel_rfl) (by kernel_rfl) (fun _ _ _ h => h) (Or.inr ⟨by rfl, rfl⟩) (by assumption) ?_
  (try simp only [Act.put])
  refine wpAnyH_take (i := 21) (oi := _) (v := undef) rfl (by kernel_rfl) (by kernel_rfl) (by kernel_rfl) (fun _ _ _ h => h) (Or.inr ⟨by rfl, rfl⟩) (by assumption) ?_
  (try simp only [Act.put])
  refine wpAnyH_take (i := 22) (oi := _) (v := ?_) rfl (by kernel_rfl) (by kernel_rfl) (by kernel_rfl) (fun _ _ _ h => h) (Or.inl ⟨by rfl, ?_⟩) (by assumption) ?_
  rotate_left
  · intro w hSw
    (try dsimp only at hSw)
    go_simp
    (try with_reducible rfl)
  (try simp only [Act.put])
  refine wpAnyH_take (i := 23) (oi := _) (v := ?_) rfl (by kernel_rfl) (by kernel_rfl) (by kernel_rfl) (fun _ _ _ h => h) (Or.inl ⟨by rfl, ?_⟩) (by assumption) ?_
  rotate_left
  · intro w hSw
    (try dsimp only at hSw)
    go_simp
    (try with_reducible rfl)
  (try simp only [Act.put])
  refine wpAnyH_ready (rs := [24]) (by kernel_rfl) (by simp) ?_
  refine AllReadyH.cons (o := _) rfl (fun K hK => ?_) AllReadyH.nil
  go_simp
  refine hK.out _ _ (by with_reducible exact HKs.out _ b5) (fun hHeld => ?_)
  clear hK K
  (try simp only [Act.put, List.setIfInBounds_toArray, List.set_cons_zero, List.set_cons_succ])
  refine wpAnyH_done (by kernel_rfl) ?_ _
  refine NoPanic.normal ?_
  have HF := HZ.out w5 b5
  unfold sF chF at HF
  simp only [Bool.true_or, Bool.false_and] at HF
  clear hHeld HKs HKe HKz HKd HZ HU HKp
  go_wp2_with fail
  exact ret_f rfl rfl rfl HF.out.1 ⟨rfl, HF.out.2⟩
end Go.Proofs.YtbnihflihelimaaGreat.N

namespace Go.Proofs.YtbnihflihelimaaGreat.N
open Go.RowKit Go.Maps
open Go.Proofs.YtbnihflihelimaaGreat.T

open U (below_grown)
set_option maxRecDepth 100000 in
set_option maxHeartbeats 8000000 in
theorem fsCho_4 (xs : BitVec 256) (y : Fs) (cx cy : Bool) (w : World) : Calls Tryz.prog 62 #[qG ⟨xs, true, true⟩ cx, qG y cy] w fun e w' => e = .returned (fG (chF ⟨xs, true, true⟩ y)) ∧ Below w.heap.size w w' := by
  have hs := SqS.new w ⟨xs, true, true⟩ y cx cy
  obtain ⟨w1, hw1⟩ : ∃ w1, w1 = ((w.alloc (.cells #[.int .u64 (wd xs 0), .int .u64 (wd xs 1), .int .u64 (wd xs 2), .int .u64 (wd xs 3), .bool true, .bool true, .bool cx] 96)).alloc (.cells #[.int .u64 (wd y.st 0), .int .u64 (wd y.st 1), .int .u64 (wd y.st 2), .int .u64 (wd y.st 3), .bool y.em, .bool y.hf, .bool cy] 96)).alloc (.cells #[.int .u64 0, .int .u64 0, .int .u64 0, .int .u64 0, .bool false, .bool false] 36) := ⟨_, rfl⟩
  rw [← hw1] at hs
  have HE := (show Hid (((w.alloc (.cells #[.int .u64 (wd xs 0), .int .u64 (wd xs 1), .int .u64 (wd xs 2), .int .u64 (wd xs 3), .bool true, .bool true, .bool cx] 96)).alloc (.cells #[.int .u64 (wd y.st 0), .int .u64 (wd y.st 1), .int .u64 (wd y.st 2), .int .u64 (wd y.st 3), .bool y.em, .bool y.hf, .bool cy] 96)).alloc (.cells #[.int .u64 0, .int .u64 0, .int .u64 0, .int .u64 0, .bool false, .bool false] 36) = w1) from hw1.symm)
  have HS := (show Hid (SqS w w1 ⟨xs, true, true⟩ y cx cy f0) from hs)
  have HU := (show Hid (∀ W, Below w1.heap.size w1 W → Calls Tryz.prog 80 #[sv xs, sv y.st] W fun e w' => e = .returned (sv (xs ||| y.st)) ∧ Below w1.heap.size w1 w') from fun W hW => (union_any _ _ W).mono fun e w' ⟨h1, h2⟩ => ⟨h1, hW.trans (h2.mono hW.size)⟩)
  have HKp := (show Hid (∀ W, Below w1.heap.size w1 W → SqS w W ⟨xs, true, true⟩ y cx cy f0) from fun W hW => HS.out.later hW)
  have x0 := hs.x.c0
  have x1 := hs.x.c1
  have x2 := hs.x.c2
  have x3 := hs.x.c3
  have x4 := hs.x.c4
  have x5 := hs.x.c5
  have y0 := hs.y.c0
  have y1 := hs.y.c1
  have y2 := hs.y.c2
  have y3 := hs.y.c3
  have y4 := hs.y.c4
  have y5 := hs.y.c5
  clear hw1 hs
  obtain ⟨ys, ye, yh⟩ := y
  simp only at *
  have HKz := (show Hid (∀ W, Below w1.heap.size w1 W → W.cell? ⟨w.heap.size + 1 + 1, 0, none⟩ = some (.int .u64 (wd f0.st 0)) ∧ W.cell? ⟨w.heap.size + 1 + 1, 1, none⟩ = some (.int .u64 (wd f0.st 1)) ∧ W.cell? ⟨w.heap.size + 1 + 1, 2, none⟩ = some (.int .u64 (wd f0.st 2)) ∧ W.cell? ⟨w.heap.size + 1 + 1, 3, none⟩ = some (.int .u64 (wd f0.st 3)) ∧ W.cell? ⟨w.heap.size + 1 + 1, 4, none⟩ = some (.bool f0.em) ∧ W.cell? ⟨w.heap.size + 1 + 1, 5, none⟩ = some (.bool f0.hf) ∧ W.frozen? ⟨w.heap.size + 1 + 1, 0, none⟩ = false ∧ W.frozen? ⟨w.heap.size + 1 + 1, 1, none⟩ = false ∧ W.frozen? ⟨w.heap.size + 1 + 1, 2, none⟩ = false ∧ W.frozen? ⟨w.heap.size + 1 + 1, 3, none⟩ = false ∧ W.frozen? ⟨w.heap.size + 1 + 1, 4, none⟩ = false ∧ W.frozen? ⟨w.heap.size + 1 + 1, 5, none⟩ = false) from fun W hW => by
    have h := (HKp.out W hW).z
    exact ⟨h.c0, h.c1, h.c2, h.c3, h.c4, h.c5, h.fz 0, h.fz 1, h.fz 2, h.fz 3, h.fz 4, h.fz 5⟩)
  have HZ := (show ∀ W, Below w1.heap.size w1 W → Hid (FX (sF W (w.heap.size + 1 + 1) (chF ⟨xs, true, true⟩ ⟨ys, ye, yh⟩)) (w.heap.size + 1 + 1) (chF ⟨xs, true, true⟩ ⟨ys, ye, yh⟩) ∧ Below w.heap.size w (sF W (w.heap.size + 1 + 1) (chF ⟨xs, true, true⟩ ⟨ys, ye, yh⟩))) from fun W hW => ⟨sF_fx (HKp.out W hW).z _, sF_below _ _ (HKp.out W hW).b (by omega)⟩)
  have HZ := (show Hid _ from HZ)
  have HKe := (show Hid (∀ W, Below w1.heap.size w1 W → (fun W => W.cell? ⟨w.heap.size, 0, none⟩ = some (.int .u64 (wd xs 0)) ∧ W.cell? ⟨w.heap.size, 1, none⟩ = some (.int .u64 (wd xs 1)) ∧ W.cell? ⟨w.heap.size, 2, none⟩ = some (.int .u64 (wd xs 2)) ∧ W.cell? ⟨w.heap.size, 3, none⟩ = some (.int .u64 (wd xs 3)) ∧ W.cell? ⟨w.heap.size, 4, none⟩ = some (.bool true) ∧ W.cell? ⟨w.heap.size, 5, none⟩ = some (.bool true) ∧ W.cell? ⟨w.heap.size + 1, 0, none⟩ = some (.int .u64 (wd ys 0)) ∧ W.cell? ⟨w.heap.size + 1, 1, none⟩ = some (.int .u64 (wd ys 1)) ∧ W.cell? ⟨w.heap.size + 1, 2, none⟩ = some (.int .u64 (wd ys 2)) ∧ W.cell? ⟨w.heap.size + 1, 3, none⟩ = some (.int .u64 (wd ys 3)) ∧ W.cell? ⟨w.heap.size + 1, 4, none⟩ = some (.bool ye) ∧ W.cell? ⟨w.heap.size + 1, 5, none⟩ = some (.bool yh)) W) from fun W hW => by
    have h := HKp.out W hW
    exact ⟨h.x.c0, h.x.c1, h.x.c2, h.x.c3, h.x.c4, h.x.c5, h.y.c0, h.y.c1, h.y.c2, h.y.c3, h.y.c4, h.y.c5⟩)
  have HKs := (show ∀ W, Below w1.heap.size w1 W → (fun W => W.cell? ⟨w.heap.size, 0, none⟩ = some (.int .u64 (wd xs 0)) ∧ W.cell? ⟨w.heap.size, 1, none⟩ = some (.int .u64 (wd xs 1)) ∧ W.cell? ⟨w.heap.size, 2, none⟩ = some (.int .u64 (wd xs 2)) ∧ W.cell? ⟨w.heap.size, 3, none⟩ = some (.int .u64 (wd xs 3)) ∧ W.cell? ⟨w.heap.size, 4, none⟩ = some (.bool true) ∧ W.cell? ⟨w.heap.size, 5, none⟩ = some (.bool true) ∧ W.cell? ⟨w.heap.size + 1, 0, none⟩ = some (.int .u64 (wd ys 0)) ∧ W.cell? ⟨w.heap.size + 1, 1, none⟩ = some (.int .u64 (wd ys 1)) ∧ W.cell? ⟨w.heap.size + 1, 2, none⟩ = some (.int .u64 (wd ys 2)) ∧ W.cell? ⟨w.heap.size + 1, 3, none⟩ = some (.int .u64 (wd ys 3)) ∧ W.cell? ⟨w.heap.size + 1, 4, none⟩ = some (.bool ye) ∧ W.cell? ⟨w.heap.size + 1, 5, none⟩ = some (.bool yh)) (sF W (w.heap.size + 1 + 1) (chF ⟨xs, true, true⟩ ⟨ys, ye, yh⟩)) from fun W hW => by
    have h := HKp.out W hW
    have hx := h.x.same (sF_other W (w.heap.size + 1 + 1) (chF ⟨xs, true, true⟩ ⟨ys, ye, yh⟩) (j := w.heap.size) (by omega))
    have hy := h.y.same (sF_other W (w.heap.size + 1 + 1) (chF ⟨xs, true, true⟩ ⟨ys, ye, yh⟩) (j := w.heap.size + 1) (by omega))
    exact ⟨hx.c0, hx.c1, hx.c2, hx.c3, hx.c4, hx.c5, hy.c0, hy.c1, hy.c2, hy.c3, hy.c4, hy.c5⟩)
  unfold sF chF at HKs
  simp only [Bool.true_or, Bool.true_and] at HKs
  have HKs := (show Hid _ from HKs)
  have HKd := (show Hid _ from HKe.out w1.drew ((Below.refl _ _).drew))
  clear x0 x1 x2 x3 x4 x5 y0 y1 y2 y3 y4 y5
  go_enter Tryz.func62, Tryz.ntmps62
  go_wp2_with (rw [HE.out])
  refine wp_region_noPanic ?_
  refine wp_region_held_drew (S := fun W => W.cell? ⟨w.heap.size, 0, none⟩ = some (.int .u64 (wd xs 0)) ∧ W.cell? ⟨w.heap.size, 1, none⟩ = some (.int .u64 (wd xs 1)) ∧ W.cell? ⟨w.heap.size, 2, none⟩ = some (.int .u64 (wd xs 2)) ∧ W.cell? ⟨w.heap.size, 3, none⟩ = some (.int .u64 (wd xs 3)) ∧ W.cell? ⟨w.heap.size, 4, none⟩ = some (.bool true) ∧ W.cell? ⟨w.heap.size, 5, none⟩ = some (.bool true) ∧ W.cell? ⟨w.heap.size + 1, 0, none⟩ = some (.int .u64 (wd ys 0)) ∧ W.cell? ⟨w.heap.size + 1, 1, none⟩ = some (.int .u64 (wd ys 1)) ∧ W.cell? ⟨w.heap.size + 1, 2, none⟩ = some (.int .u64 (wd ys 2)) ∧ W.cell? ⟨w.heap.size + 1, 3, none⟩ = some (.int .u64 (wd ys 3)) ∧ W.cell? ⟨w.heap.size + 1, 4, none⟩ = some (.bool ye) ∧ W.cell? ⟨w.heap.size + 1, 5, none⟩ = some (.bool yh)) (by kernel_rfl) HKd.out (fun hHeld => ?_)
  refine wpAnyH_take (i := 0) (oi := _) (v := ?_) rfl (by kernel_rfl) (by kernel_rfl) (by kernel_rfl) (fun _ _ _ h => h) (Or.inl ⟨by rfl, ?_⟩) (by assumption) ?_
  rotate_left
  · intro w hSw
    (try dsimp only at hSw)
    go_simp
    (try with_reducible rfl)
  (try simp only [Act.put, List.setIfInBounds_toArray])
  refine wpAnyH_take (i := 1) (oi := _) (v := ?_) rfl (by kernel_rfl) (by kernel_rfl) (by kernel_rfl) (fun _ _ _ h => h) (Or.inl ⟨by rfl, ?_⟩) (by assumption) ?_
  rotate_left
  · intro w hSw
    (try dsimp only at hSw)
    go_simp
    (try with_reducible rfl)
  (try simp only [Act.put])
  refine wpAnyH_take (i := 2) (oi := _) (v := ?_) rfl (by kernel_rfl) (by kernel_rfl) (by kernel_rfl) (fun _ _ _ h => h) (Or.inl ⟨by rfl, ?_⟩) (by assumption) ?_
  rotate_left
  · intro w hSw
    (try dsimp only at hSw)
    go_simp
    (try with_reducible rfl)
  (try simp only [Act.put])
  refine wpAnyH_take (i := 3) (oi := _) (v := ?_) rfl (by kernel_rfl) (by kernel_rfl) (by kernel_rfl) (fun _ _ _ h => h) (Or.inl ⟨by rfl, ?_⟩) (by assumption) ?_
  rotate_left
  · intro w hSw
    (try dsimp only at hSw)
    go_simp
    (try with_reducible rfl)
  (try simp only [Act.put])
  refine wpAnyH_take (i := 4) (oi := _) (v := ?_) rfl (by kernel_rfl) (by kernel_rfl) (by kernel_rfl) (fun _ _ _ h => h) (Or.inl ⟨by rfl, ?_⟩) (by assumption) ?_
  rotate_left
  · intro w hSw
    (try dsimp only at hSw)
    go_simp
    (try with_reducible rfl)
  (try simp only [Act.put])
  refine wpAnyH_take (i := 5) (oi := _) (v := ?_) rfl (by kernel_rfl) (by kernel_rfl) (by kernel_rfl) (fun _ _ _ h => h) (Or.inl ⟨by rfl, ?_⟩) (by assumption) ?_
  rotate_left
  · intro w hSw
    (try dsimp only at hSw)
    go_simp
    (try with_reducible rfl)
  (try simp only [Act.put])
  refine wpAnyH_take (i := 7) (oi := _) (v := ?_) rfl (by kernel_rfl) (by kernel_rfl) (by kernel_rfl) (fun _ _ _ h => h) (Or.inl ⟨by rfl, ?_⟩) (by assumption) ?_
  rotate_left
  · intro w hSw
    (try dsimp only at hSw)
    go_simp
    (try with_reducible rfl)
  (try simp only [Act.put])
  refine wpAnyH_take (i := 8) (oi := _) (v := ?_) rfl (by kernel_rfl) (by kernel_rfl) (by kernel_rfl) (fun _ _ _ h => h) (Or.inl ⟨by rfl, ?_⟩) (by assumption) ?_
  rotate_left
  · intro w hSw
    (try dsimp only at hSw)
    go_simp
    (try with_reducible rfl)
  (try simp only [Act.put])
  refine wpAnyH_take (i := 9) (oi := _) (v := ?_) rfl (by kernel_rfl) (by kernel_rfl) (by kernel_rfl) (fun _ _ _ h => h) (Or.inl ⟨by rfl, ?_⟩) (by assumption) ?_
  rotate_left
  · intro w hSw
    (try dsimp only at hSw)
    go_simp
    (try with_reducible rfl)
  (try simp only [Act.put])
  refine wpAnyH_take (i := 15) (oi := _) (v := ?_) rfl (by kernel_rfl) (by kernel_rfl) (by kernel_rfl) (fun _ _ _ h => h) (Or.inl ⟨by rfl, ?_⟩) (by assumption) ?_
  rotate_left
  · intro w hSw
    (try dsimp only at hSw)
    go_simp
    (try with_reducible rfl)
  (try simp only [Act.put])
  refine wpAnyH_take (i := 16) (oi := _) (v := ?_) rfl (by kernel_rfl) (by kernel_rfl) (by kernel_rfl) (fun _ _ _ h => h) (Or.inl ⟨by rfl, ?_⟩) (by assumption) ?_
  rotate_left
  · intro w hSw
    (try dsimp only at hSw)
    go_simp
    (try with_reducible rfl)
  (try simp only [Act.put])
  refine wpAnyH_take (i := 17) (oi := _) (v := ?_) rfl (by kernel_rfl) (by kernel_rfl) (by kernel_rfl) (fun _ _ _ h => h) (Or.inl ⟨by rfl, ?_⟩) (by assumption) ?_
  rotate_left
  · intro w hSw
    (try dsimp only at hSw)
    go_simp
    (try with_reducible rfl)
  (try simp only [Act.put])
  refine wpAnyH_ready (rs := [6]) (by kernel_rfl) (by simp) ?_
  refine AllReadyH.cons (o := _) rfl (fun K hK => ?_) AllReadyH.nil
  go_simp
  go_at_call 80
  with_reducible refine (HU.out _ ((Below.refl _ _).drew)).mono ?_
  rintro e w5 ⟨rfl, b5⟩
  obtain ⟨g0, g1, g2, g3, g4, g5, g6, g7, g8, g9, g10, g11⟩ := HKz.out w5 b5
  refine hK.out _ _ (HKe.out _ b5) (fun hHeld => ?_)
  clear hK K
  (try simp only [Act.put, List.setIfInBounds_toArray, List.set_cons_zero, List.set_cons_succ])
  refine wpAnyH_take (i := 10) (oi := _) (v := ?_) rfl (by kernel_rfl) (by kernel_rfl) (by kernel_rfl) (fun _ _ _ h => h) (Or.inl ⟨by rfl, ?_⟩) (by assumption) ?_
  rotate_left
  · intro w hSw
    (try dsimp only at hSw)
    go_simp
    (try with_reducible rfl)
  (try simp only [Act.put, List.setIfInBounds_toArray])
  refine wpAnyH_take (i := 11) (oi := _) (v := undef) rfl (by kernel_rfl) (by kernel_rfl) (by kernel_rfl) (fun _ _ _ h => h) (Or.inr ⟨by rfl, rfl⟩) (by assumption) ?_
  (try simp only [Act.put])
  refine wpAnyH_take (i := 12) (oi := _) (v := undef) rfl (by kernel_rfl) (by kernel_rfl) (by kernel_rfl) (fun _ _ _ h => h) (Or.inr ⟨by rfl, rfl⟩) (by assumption) ?_
  (try simp only [Act.put])
  refine wpAnyH_take (i := 13) (oi := _) (v := undef) rfl (by kernel_rfl) (by kernel_rfl) (by kernel_rfl) (fun _ _ _ h => h) (Or.inr ⟨by rfl, rfl⟩) (by assumption) ?_
  (try simp only [Act.put])
  refine wpAnyH_take (i := 14) (oi := _) (v := ?_) rfl (by kernel_rfl) (by kernel_rfl) (by kernel_rfl) (fun _ _ _ h => h) (Or.inl ⟨by rfl, ?_⟩) (by assumption) ?_
  rotate_left
  · intro w hSw
    (try dsimp only at hSw)
    go_simp
    (try with_reducible rfl)
  (try simp only [Act.put])
  refine wpAnyH_take (i := 18) (oi := _) (v := ?_) rfl (by kernel_rfl) (by kernel_rfl) (by kernel_rfl) (fun _ _ _ h => h) (Or.inl ⟨by rfl, ?_⟩) (by assumption) ?_
  rotate_left
  · intro w hSw
    (try dsimp only at hSw)
    go_simp
    (try with_reducible rfl)
  (try simp only [Act.put])
  refine wpAnyH_take (i := 19) (oi := _) (v := ?_) rfl (by kernel_rfl) (by kernel_rfl) (by kernel_rfl) (fun _ _ _ h => h) (Or.inl ⟨by rfl, ?_⟩) (by assumption) ?_
  rotate_left
  · intro w hSw
    (try dsimp only at hSw)
    go_simp
    (try with_reducible rfl)
  (try simp only [Act.put])
  refine wpAnyH_take (i := 20) (oi := _) (v := ?_) rfl (by kernel_rfl) (by kernel_rfl) (by kernel_rfl) (fun _ _ _ h => h) (Or.inl ⟨by rfl, ?_⟩) (by assumption) ?_
  rotate_left
  · intro w hSw
    (try dsimp only at hSw)
    go_simp
    (try with_reducible rfl)
  (try simp only [Act.put])
  refine wpAnyH_take (i := 21) (oi := _) (v := ?_) rfl (by kernel_rfl) (by kernel_rfl) (by kernel_rfl) (fun _ _ _ h => h) (Or.inl ⟨by rfl, ?_⟩) (by assumption) ?_
  rotate_left
  · intro w hSw
    (try dsimp only at hSw)
    go_simp
    (try with_reducible rfl)
  (try simp only [Act.put])
  refine wpAnyH_take (i := 22) (oi := _) (v := ?_) rfl (by kernel_rfl) (by kernel_rfl) (by kernel_rfl) (fun _ _ _ h => h) (Or.inl ⟨by rfl, ?_⟩) (by assumption) ?_
  rotate_left
  · intro w hSw
    (try dsimp only at hSw)
    go_simp
    (try with_reducible rfl)
  (try simp only [Act.put])
  refine wpAnyH_take (i := 23) (oi := _) (v := ?_) rfl (by kernel_rfl) (by kernel_rfl) (by kernel_rfl) (fun _ _ _ h => h) (Or.inl ⟨by rfl, ?_⟩) (by assumption) ?_
  rotate_left
  · intro w hSw
    (try dsimp only at hSw)
    go_simp
    (try with_reducible rfl)
  (try simp only [Act.put])
  refine wpAnyH_ready (rs := [24]) (by kernel_rfl) (by simp) ?_
  refine AllReadyH.cons (o := _) rfl (fun K hK => ?_) AllReadyH.nil
  go_simp
  refine hK.out _ _ (by with_reducible exact HKs.out _ b5) (fun hHeld => ?_)
  clear hK K
  (try simp only [Act.put, List.setIfInBounds_toArray, List.set_cons_zero, List.set_cons_succ])
  refine wpAnyH_done (by kernel_rfl) ?_ _
  refine NoPanic.normal ?_
  have HF := HZ.out w5 b5
  unfold sF chF at HF
  simp only [Bool.true_or, Bool.true_and] at HF
  clear hHeld HKs HKe HKz HKd HZ HU HKp
  go_wp2_with fail
  exact ret_f rfl rfl rfl HF.out.1 ⟨rfl, HF.out.2⟩
end Go.Proofs.YtbnihflihelimaaGreat.N

namespace Go.Proofs.YtbnihflihelimaaGreat.N
open Go.RowKit Go.Maps
open Go.Proofs.YtbnihflihelimaaGreat.T
theorem fsCho_any (x y : Fs) (cx cy : Bool) (w : World) : Calls Tryz.prog 62 #[qG x cx, qG y cy] w fun e w' => e = .returned (fG (chF x y)) ∧ Below w.heap.size w w' := by
  obtain ⟨xs, xe, xh⟩ := x
  cases xe <;> cases xh
  · exact fsCho_1 xs y cx cy w
  · exact fsCho_2 xs y cx cy w
  · exact fsCho_3 xs y cx cy w
  · exact fsCho_4 xs y cx cy w
end Go.Proofs.YtbnihflihelimaaGreat.N

namespace Go.Proofs.YtbnihflihelimaaGreat.N
open Go.RowKit Go.Maps
open Go.Proofs.YtbnihflihelimaaGreat.T

open U (below_grown)
set_option maxRecDepth 100000 in
set_option maxHeartbeats 8000000 in
theorem fsNode_8 (nn : Int) (tx : ByteArray) (s0 s1 s2 s3 : Int) (m k bd r : Value) (A : Option Addr) (cp : Nat) (a0 a1 : Fs) (e0 e1 : Bool) (w : World) (hp : RdQ w A [(a0, e0), (a1, e1)]) :
    Calls Tryz.prog 44 #[.agg #[m, k, bd, r], .agg #[.int .i64 8, .int .i64 nn, .string tx, .int .u64 s0, .int .u64 s1, .int .u64 s2, .int .u64 s3], .slice A 2 cp] w fun e w' => e = .returned (fG (chF a0 a1)) ∧ Below w.heap.size w w' := by
  have hs := NoF.new w m k bd r ⟨8, nn, tx, s0, s1, s2, s3⟩
  obtain ⟨w1, hw1⟩ : ∃ w1, w1 = ((w.alloc (.cells #[m, k, bd, r] 56)).alloc (.cells #[.int .i64 8, .int .i64 nn, .string tx, .int .u64 s0, .int .u64 s1, .int .u64 s2, .int .u64 s3] 70)).alloc (.cells #[.int .u64 0, .int .u64 0, .int .u64 0, .int .u64 0, .bool false, .bool false] 36) := ⟨_, rfl⟩
  have hs : NoF w w1 m k bd r ⟨8, nn, tx, s0, s1, s2, s3⟩ := by rw [hw1]; exact hs
  have HE := (show Hid (((w.alloc (.cells #[m, k, bd, r] 56)).alloc (.cells #[.int .i64 8, .int .i64 nn, .string tx, .int .u64 s0, .int .u64 s1, .int .u64 s2, .int .u64 s3] 70)).alloc (.cells #[.int .u64 0, .int .u64 0, .int .u64 0, .int .u64 0, .bool false, .bool false] 36) = w1) from hw1.symm)
  have HS := (show Hid (NoF w w1 m k bd r ⟨8, nn, tx, s0, s1, s2, s3⟩) from hs)
  have c0 : w1.cell? ⟨w.heap.size + 1, 0, none⟩ = some (.int .i64 8) := hs.n.nb.c0
  have c1 : w1.cell? ⟨w.heap.size + 1, 1, none⟩ = some (.int .i64 nn) := hs.n.nb.c1
  have c2 : w1.cell? ⟨w.heap.size + 1, 2, none⟩ = some (.string tx) := hs.n.nb.c2
  have c3 : w1.cell? ⟨w.heap.size + 1, 3, none⟩ = some (.int .u64 s0) := hs.n.nb.c3
  have c4 : w1.cell? ⟨w.heap.size + 1, 4, none⟩ = some (.int .u64 s1) := hs.n.nb.c4
  have c5 : w1.cell? ⟨w.heap.size + 1, 5, none⟩ = some (.int .u64 s2) := hs.n.nb.c5
  have c6 : w1.cell? ⟨w.heap.size + 1, 6, none⟩ = some (.int .u64 s3) := hs.n.nb.c6
  have z0 := hs.z.c0
  have z1 := hs.z.c1
  have z2 := hs.z.c2
  have z3 := hs.z.c3
  have z4 := hs.z.c4
  have z5 := hs.z.c5
  have zf := hs.z.fz
  clear hw1
  obtain ⟨g2, o2, e2, lg0, _⟩ := hp 0 (a0, e0) rfl
  obtain ⟨g, o, rfl, lg, p0⟩ := (hp.later hs.b) 0 (a0, e0) rfl
  have hgg : g = g2 := by injection e2 with e3; injection e3
  subst hgg
  obtain ⟨g', o', e', _, p1⟩ := (hp.later hs.b) 1 (a1, e1) rfl
  cases e'
  have HKe := (show Hid (∀ W, Below w1.heap.size w1 W → (fun W => W.cell? ⟨g, o, none⟩ = some (.int .u64 (wd a0.st 0)) ∧ W.cell? ⟨g, o + 1, none⟩ = some (.int .u64 (wd a0.st 1)) ∧ W.cell? ⟨g, o + 2, none⟩ = some (.int .u64 (wd a0.st 2)) ∧ W.cell? ⟨g, o + 3, none⟩ = some (.int .u64 (wd a0.st 3)) ∧ W.cell? ⟨g, o + 4, none⟩ = some (.bool a0.em) ∧ W.cell? ⟨g, o + 5, none⟩ = some (.bool a0.hf) ∧ W.cell? ⟨g, o + 6, none⟩ = some (.bool e0) ∧ W.cell? ⟨g, o + 1 * 7, none⟩ = some (.int .u64 (wd a1.st 0)) ∧ W.cell? ⟨g, o + 1 * 7 + 1, none⟩ = some (.int .u64 (wd a1.st 1)) ∧ W.cell? ⟨g, o + 1 * 7 + 2, none⟩ = some (.int .u64 (wd a1.st 2)) ∧ W.cell? ⟨g, o + 1 * 7 + 3, none⟩ = some (.int .u64 (wd a1.st 3)) ∧ W.cell? ⟨g, o + 1 * 7 + 4, none⟩ = some (.bool a1.em) ∧ W.cell? ⟨g, o + 1 * 7 + 5, none⟩ = some (.bool a1.hf) ∧ W.cell? ⟨g, o + 1 * 7 + 6, none⟩ = some (.bool e1)) W) from fun W hW => by
    have k : ∀ q, W.cell? ⟨g, q, none⟩ = w1.cell? ⟨g, q, none⟩ := fun q => hW.cell (p := ⟨g, q, none⟩) lg
    simp only [k]
    obtain ⟨q0, q1, q2, q3, q4, q5, q6⟩ := p0
    rw [Nat.zero_mul, Nat.add_zero] at q0 q1 q2 q3 q4 q5 q6
    obtain ⟨r0, r1, r2, r3, r4, r5, r6⟩ := p1
    exact ⟨q0, q1, q2, q3, q4, q5, q6, r0, r1, r2, r3, r4, r5, r6⟩)
  have HKz := (show Hid (∀ W, Below w1.heap.size w1 W → W.cell? ⟨w.heap.size + 1 + 1, 0, none⟩ = some (.int .u64 (wd f0.st 0)) ∧ W.cell? ⟨w.heap.size + 1 + 1, 1, none⟩ = some (.int .u64 (wd f0.st 1)) ∧ W.cell? ⟨w.heap.size + 1 + 1, 2, none⟩ = some (.int .u64 (wd f0.st 2)) ∧ W.cell? ⟨w.heap.size + 1 + 1, 3, none⟩ = some (.int .u64 (wd f0.st 3)) ∧ W.cell? ⟨w.heap.size + 1 + 1, 4, none⟩ = some (.bool f0.em) ∧ W.cell? ⟨w.heap.size + 1 + 1, 5, none⟩ = some (.bool f0.hf) ∧ W.frozen? ⟨w.heap.size + 1 + 1, 0, none⟩ = false ∧ W.frozen? ⟨w.heap.size + 1 + 1, 1, none⟩ = false ∧ W.frozen? ⟨w.heap.size + 1 + 1, 2, none⟩ = false ∧ W.frozen? ⟨w.heap.size + 1 + 1, 3, none⟩ = false ∧ W.frozen? ⟨w.heap.size + 1 + 1, 4, none⟩ = false ∧ W.frozen? ⟨w.heap.size + 1 + 1, 5, none⟩ = false) from fun W hW => by
    have h := (HS.out.later hW).z
    exact ⟨h.c0, h.c1, h.c2, h.c3, h.c4, h.c5, h.fz 0, h.fz 1, h.fz 2, h.fz 3, h.fz 4, h.fz 5⟩)
  have HKs := (show ∀ W, Below w1.heap.size w1 W → (fun W => W.cell? ⟨g, o, none⟩ = some (.int .u64 (wd a0.st 0)) ∧ W.cell? ⟨g, o + 1, none⟩ = some (.int .u64 (wd a0.st 1)) ∧ W.cell? ⟨g, o + 2, none⟩ = some (.int .u64 (wd a0.st 2)) ∧ W.cell? ⟨g, o + 3, none⟩ = some (.int .u64 (wd a0.st 3)) ∧ W.cell? ⟨g, o + 4, none⟩ = some (.bool a0.em) ∧ W.cell? ⟨g, o + 5, none⟩ = some (.bool a0.hf) ∧ W.cell? ⟨g, o + 6, none⟩ = some (.bool e0) ∧ W.cell? ⟨g, o + 1 * 7, none⟩ = some (.int .u64 (wd a1.st 0)) ∧ W.cell? ⟨g, o + 1 * 7 + 1, none⟩ = some (.int .u64 (wd a1.st 1)) ∧ W.cell? ⟨g, o + 1 * 7 + 2, none⟩ = some (.int .u64 (wd a1.st 2)) ∧ W.cell? ⟨g, o + 1 * 7 + 3, none⟩ = some (.int .u64 (wd a1.st 3)) ∧ W.cell? ⟨g, o + 1 * 7 + 4, none⟩ = some (.bool a1.em) ∧ W.cell? ⟨g, o + 1 * 7 + 5, none⟩ = some (.bool a1.hf) ∧ W.cell? ⟨g, o + 1 * 7 + 6, none⟩ = some (.bool e1)) (sF W (w.heap.size + 1 + 1) ((chF a0 a1))) from fun W hW => by
    have hz : g ≠ w.heap.size + 1 + 1 := by omega
    have k : ∀ q, (sF W (w.heap.size + 1 + 1) ((chF a0 a1))).cell? ⟨g, q, none⟩ = W.cell? ⟨g, q, none⟩ := fun q => World.cell?_of_block (a := ⟨g, q, none⟩) (sF_other W _ _ hz)
    have h := HKe.out W hW
    simp only [k]
    exact h)
  unfold sF at HKs
  have HKs := (show Hid _ from HKs)
  have HKd := (show Hid _ from HKe.out w1.drew ((Below.refl _ _).drew))
  have HC := (show Hid (∀ W, Below w1.heap.size w1 W → Calls Tryz.prog 62 #[qG a0 e0, qG a1 e1] W fun e w' => e = .returned (fG (chF a0 a1)) ∧ Below w1.heap.size w1 w') from fun W hW => (fsCho_any a0 a1 e0 e1 W).mono fun e w' ⟨h1, h2⟩ => ⟨h1, hW.trans (h2.mono hW.size)⟩)
  have HZ := (show ∀ W, Below w1.heap.size w1 W → Hid _ from fun W hW => (HS.out.later hW).fin (chF a0 a1))
  unfold sF at HZ
  have HZ := (show Hid _ from HZ)
  clear hs p0 p1 lg lg0 hp e2
  go_enter Tryz.func44, Tryz.ntmps44
  go_wp2_with (rw [HE.out])
  first | (go_region_held3 (fun W => W.cell? ⟨g, o, none⟩ = some (.int .u64 (wd a0.st 0)) ∧ W.cell? ⟨g, o + 1, none⟩ = some (.int .u64 (wd a0.st 1)) ∧ W.cell? ⟨g, o + 2, none⟩ = some (.int .u64 (wd a0.st 2)) ∧ W.cell? ⟨g, o + 3, none⟩ = some (.int .u64 (wd a0.st 3)) ∧ W.cell? ⟨g, o + 4, none⟩ = some (.bool a0.em) ∧ W.cell? ⟨g, o + 5, none⟩ = some (.bool a0.hf) ∧ W.cell? ⟨g, o + 6, none⟩ = some (.bool e0) ∧ W.cell? ⟨g, o + 1 * 7, none⟩ = some (.int .u64 (wd a1.st 0)) ∧ W.cell? ⟨g, o + 1 * 7 + 1, none⟩ = some (.int .u64 (wd a1.st 1)) ∧ W.cell? ⟨g, o + 1 * 7 + 2, none⟩ = some (.int .u64 (wd a1.st 2)) ∧ W.cell? ⟨g, o + 1 * 7 + 3, none⟩ = some (.int .u64 (wd a1.st 3)) ∧ W.cell? ⟨g, o + 1 * 7 + 4, none⟩ = some (.bool a1.em) ∧ W.cell? ⟨g, o + 1 * 7 + 5, none⟩ = some (.bool a1.hf) ∧ W.cell? ⟨g, o + 1 * 7 + 6, none⟩ = some (.bool e1)) (first | with_reducible exact HKd.out | with_reducible exact HKe.out _ b5 | with_reducible exact HKs.out _ b5) ((go_at_call 62; with_reducible refine (HC.out _ ((Below.refl _ _).drew)).mono ?_; rintro e w5 ⟨rfl, b5⟩; obtain ⟨g0, g1, g2, g3, g4, g5, g6, g7, g8, g9, g10, g11⟩ := HKz.out w5 b5)))
  have HF := HZ.out w5 b5
  rename_i hHeld
  clear hHeld HKs HKe HKz HKd HZ HC
  go_wp2_with fail
  exact ret_f rfl rfl rfl HF.out.1 ⟨rfl, HF.out.2⟩
end Go.Proofs.YtbnihflihelimaaGreat.N
