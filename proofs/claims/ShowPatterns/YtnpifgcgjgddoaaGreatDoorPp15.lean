/- DERIVED. Plain mathematics and walks, laid together (15). -/
import Derived.Test.YtnpifgcgjgddoaaGreatDoorPp14
namespace Go.Proofs.YtnpifgcgjgddoaaGreatDoor.N
open Go.RowKit
set_option maxRecDepth 100000 in
set_option maxHeartbeats 4000000 in
theorem lnD_13 (nn : Int) (tx : ByteArray) (a b c d : Int) (D : ByteArray) (_hDs : D.size ≤ 100) (hD : ∀ w, Calls Tryz.prog 79 #[.int .i64 13] w fun e w' => e = .returned (.string D) ∧ Below w.heap.size w w') (w : World) : Calls Tryz.prog 56 #[.agg #[.int .i64 13, .int .i64 nn, .string tx, .int .u64 a, .int .u64 b, .int .u64 c, .int .u64 d]] w fun e w' => e = .returned (.string D) ∧ Below w.heap.size w w' := by
  have HW : Hid (∀ w, Calls Tryz.prog 79 #[.int .i64 13] w fun e w' => e = .returned (.string D) ∧ Below w.heap.size w w') := fun w => hD w
  have HB := (show Hid _ from below_box w (.cells #[.int .i64 13, .int .i64 nn, .string tx, .int .u64 a, .int .u64 b, .int .u64 c, .int .u64 d] 51))
  obtain ⟨w0, hw0⟩ : ∃ w0, w0 = w.alloc (.cells #[.int .i64 13, .int .i64 nn, .string tx, .int .u64 a, .int .u64 b, .int .u64 c, .int .u64 d] 51) := ⟨_, rfl⟩
  have HE0 := (show Hid (w.alloc (.cells #[.int .i64 13, .int .i64 nn, .string tx, .int .u64 a, .int .u64 b, .int .u64 c, .int .u64 d] 51) = w0) from hw0.symm)
  have HX := (show Hid (∀ W', Below w0.heap.size w0 W' → ∀ j, W'.cell? ⟨w.heap.size, j, none⟩ = (#[.int .i64 13, .int .i64 nn, .string tx, .int .u64 a, .int .u64 b, .int .u64 c, .int .u64 d] : Array Value)[j]?) from fun W' hb j => by
    rw [cell_of_row W' w.heap.size j _ 51 (0, 0) ((hb.block _ (by rw [hw0, World.size_alloc]; omega)).trans (by rw [hw0]; exact heap_alloc_new w _))])
  rw [hw0.symm] at HB
  have x0 : w0.cell? ⟨w.heap.size, 0, none⟩ = some (.int .i64 13) := HX.out w0 (Below.refl _ _) 0
  clear hD hw0
  go_enter Tryz.func56, Tryz.ntmps56
  go_wp2_with (rw [HE0.out])
  refine (HW.out _).mono ?_
  rintro e w1 ⟨rfl, b1⟩
  have HB1 := (show Hid _ from b1)
  have g0 : w1.cell? ⟨w.heap.size, 0, none⟩ = some (.int .i64 13) := HX.out w1 b1 0
  have g1 : w1.cell? ⟨w.heap.size, 1, none⟩ = some (.int .i64 nn) := HX.out w1 b1 1
  have g2 : w1.cell? ⟨w.heap.size, 2, none⟩ = some (.string tx) := HX.out w1 b1 2
  have g3 : w1.cell? ⟨w.heap.size, 3, none⟩ = some (.int .u64 a) := HX.out w1 b1 3
  have g4 : w1.cell? ⟨w.heap.size, 4, none⟩ = some (.int .u64 b) := HX.out w1 b1 4
  have g5 : w1.cell? ⟨w.heap.size, 5, none⟩ = some (.int .u64 c) := HX.out w1 b1 5
  have g6 : w1.cell? ⟨w.heap.size, 6, none⟩ = some (.int .u64 d) := HX.out w1 b1 6
  clear b1 HX HE0 HW x0
  go_wp2_with fail
  go_ret
  exact ⟨rfl, HB.out.trans (HB1.out.mono HB.out.size)⟩
set_option maxRecDepth 100000 in
set_option maxHeartbeats 4000000 in
theorem lnD_14 (nn : Int) (tx : ByteArray) (a b c d : Int) (D : ByteArray) (hDs : D.size ≤ 100) (hD : ∀ w, Calls Tryz.prog 79 #[.int .i64 14] w fun e w' => e = .returned (.string D) ∧ Below w.heap.size w w') (Y : ByteArray) (hYs : Y.size ≤ 3000) (hY : ∀ w, Calls Tryz.prog 82 #[.int .i64 nn, .int .i64 10] w fun e w' => e = .returned (.string Y) ∧ w' = w) (w : World) : Calls Tryz.prog 56 #[.agg #[.int .i64 14, .int .i64 nn, .string tx, .int .u64 a, .int .u64 b, .int .u64 c, .int .u64 d]] w fun e w' => e = .returned (.string (D ++ ⟨#[32]⟩ ++ Y)) ∧ Below w.heap.size w w' := by
  have HY := (show Hid _ from hY)
  have q1 : ¬ 9223372036854775807 < D.size + 1 := by omega
  have q2 : ¬ 9223372036854775807 < D.size + 1 + Y.size := by omega
  clear hY hYs hDs
  have HW : Hid (∀ w, Calls Tryz.prog 79 #[.int .i64 14] w fun e w' => e = .returned (.string D) ∧ Below w.heap.size w w') := fun w => hD w
  have HB := (show Hid _ from below_box w (.cells #[.int .i64 14, .int .i64 nn, .string tx, .int .u64 a, .int .u64 b, .int .u64 c, .int .u64 d] 51))
  obtain ⟨w0, hw0⟩ : ∃ w0, w0 = w.alloc (.cells #[.int .i64 14, .int .i64 nn, .string tx, .int .u64 a, .int .u64 b, .int .u64 c, .int .u64 d] 51) := ⟨_, rfl⟩
  have HE0 := (show Hid (w.alloc (.cells #[.int .i64 14, .int .i64 nn, .string tx, .int .u64 a, .int .u64 b, .int .u64 c, .int .u64 d] 51) = w0) from hw0.symm)
  have HX := (show Hid (∀ W', Below w0.heap.size w0 W' → ∀ j, W'.cell? ⟨w.heap.size, j, none⟩ = (#[.int .i64 14, .int .i64 nn, .string tx, .int .u64 a, .int .u64 b, .int .u64 c, .int .u64 d] : Array Value)[j]?) from fun W' hb j => by
    rw [cell_of_row W' w.heap.size j _ 51 (0, 0) ((hb.block _ (by rw [hw0, World.size_alloc]; omega)).trans (by rw [hw0]; exact heap_alloc_new w _))])
  rw [hw0.symm] at HB
  have x0 : w0.cell? ⟨w.heap.size, 0, none⟩ = some (.int .i64 14) := HX.out w0 (Below.refl _ _) 0
  clear hD hw0
  go_enter Tryz.func56, Tryz.ntmps56
  go_wp2_with (rw [HE0.out])
  refine (HW.out _).mono ?_
  rintro e w1 ⟨rfl, b1⟩
  have HB1 := (show Hid _ from b1)
  have g0 : w1.cell? ⟨w.heap.size, 0, none⟩ = some (.int .i64 14) := HX.out w1 b1 0
  have g1 : w1.cell? ⟨w.heap.size, 1, none⟩ = some (.int .i64 nn) := HX.out w1 b1 1
  have g2 : w1.cell? ⟨w.heap.size, 2, none⟩ = some (.string tx) := HX.out w1 b1 2
  have g3 : w1.cell? ⟨w.heap.size, 3, none⟩ = some (.int .u64 a) := HX.out w1 b1 3
  have g4 : w1.cell? ⟨w.heap.size, 4, none⟩ = some (.int .u64 b) := HX.out w1 b1 4
  have g5 : w1.cell? ⟨w.heap.size, 5, none⟩ = some (.int .u64 c) := HX.out w1 b1 5
  have g6 : w1.cell? ⟨w.heap.size, 6, none⟩ = some (.int .u64 d) := HX.out w1 b1 6
  clear b1 HX HE0 HW x0
  go_wp2_with fail
  refine (HY.out _).mono ?_
  rintro e w2 ⟨rfl, rfl⟩
  clear HY g0 g1 g2 g3 g4 g5 g6
  go_wp2_with fail
  go_ret
  exact ⟨rfl, HB.out.trans (HB1.out.mono HB.out.size)⟩
set_option maxRecDepth 100000 in
set_option maxHeartbeats 4000000 in
theorem lnD_15 (nn : Int) (tx : ByteArray) (a b c d : Int) (D : ByteArray) (hDs : D.size ≤ 100) (hD : ∀ w, Calls Tryz.prog 79 #[.int .i64 15] w fun e w' => e = .returned (.string D) ∧ Below w.heap.size w w') (Y : ByteArray) (hYs : Y.size ≤ 3000) (hY : ∀ w, Calls Tryz.prog 82 #[.int .i64 nn, .int .i64 10] w fun e w' => e = .returned (.string Y) ∧ w' = w) (w : World) : Calls Tryz.prog 56 #[.agg #[.int .i64 15, .int .i64 nn, .string tx, .int .u64 a, .int .u64 b, .int .u64 c, .int .u64 d]] w fun e w' => e = .returned (.string (D ++ ⟨#[32]⟩ ++ Y)) ∧ Below w.heap.size w w' := by
  have HY := (show Hid _ from hY)
  have q1 : ¬ 9223372036854775807 < D.size + 1 := by omega
  have q2 : ¬ 9223372036854775807 < D.size + 1 + Y.size := by omega
  clear hY hYs hDs
  have HW : Hid (∀ w, Calls Tryz.prog 79 #[.int .i64 15] w fun e w' => e = .returned (.string D) ∧ Below w.heap.size w w') := fun w => hD w
  have HB := (show Hid _ from below_box w (.cells #[.int .i64 15, .int .i64 nn, .string tx, .int .u64 a, .int .u64 b, .int .u64 c, .int .u64 d] 51))
  obtain ⟨w0, hw0⟩ : ∃ w0, w0 = w.alloc (.cells #[.int .i64 15, .int .i64 nn, .string tx, .int .u64 a, .int .u64 b, .int .u64 c, .int .u64 d] 51) := ⟨_, rfl⟩
  have HE0 := (show Hid (w.alloc (.cells #[.int .i64 15, .int .i64 nn, .string tx, .int .u64 a, .int .u64 b, .int .u64 c, .int .u64 d] 51) = w0) from hw0.symm)
  have HX := (show Hid (∀ W', Below w0.heap.size w0 W' → ∀ j, W'.cell? ⟨w.heap.size, j, none⟩ = (#[.int .i64 15, .int .i64 nn, .string tx, .int .u64 a, .int .u64 b, .int .u64 c, .int .u64 d] : Array Value)[j]?) from fun W' hb j => by
    rw [cell_of_row W' w.heap.size j _ 51 (0, 0) ((hb.block _ (by rw [hw0, World.size_alloc]; omega)).trans (by rw [hw0]; exact heap_alloc_new w _))])
  rw [hw0.symm] at HB
  have x0 : w0.cell? ⟨w.heap.size, 0, none⟩ = some (.int .i64 15) := HX.out w0 (Below.refl _ _) 0
  clear hD hw0
  go_enter Tryz.func56, Tryz.ntmps56
  go_wp2_with (rw [HE0.out])
  refine (HW.out _).mono ?_
  rintro e w1 ⟨rfl, b1⟩
  have HB1 := (show Hid _ from b1)
  have g0 : w1.cell? ⟨w.heap.size, 0, none⟩ = some (.int .i64 15) := HX.out w1 b1 0
  have g1 : w1.cell? ⟨w.heap.size, 1, none⟩ = some (.int .i64 nn) := HX.out w1 b1 1
  have g2 : w1.cell? ⟨w.heap.size, 2, none⟩ = some (.string tx) := HX.out w1 b1 2
  have g3 : w1.cell? ⟨w.heap.size, 3, none⟩ = some (.int .u64 a) := HX.out w1 b1 3
  have g4 : w1.cell? ⟨w.heap.size, 4, none⟩ = some (.int .u64 b) := HX.out w1 b1 4
  have g5 : w1.cell? ⟨w.heap.size, 5, none⟩ = some (.int .u64 c) := HX.out w1 b1 5
  have g6 : w1.cell? ⟨w.heap.size, 6, none⟩ = some (.int .u64 d) := HX.out w1 b1 6
  clear b1 HX HE0 HW x0
  go_wp2_with fail
  refine (HY.out _).mono ?_
  rintro e w2 ⟨rfl, rfl⟩
  clear HY g0 g1 g2 g3 g4 g5 g6
  go_wp2_with fail
  go_ret
  exact ⟨rfl, HB.out.trans (HB1.out.mono HB.out.size)⟩
set_option maxRecDepth 100000 in
set_option maxHeartbeats 4000000 in
theorem lnD_16 (nn : Int) (tx : ByteArray) (a b c d : Int) (D : ByteArray) (hDs : D.size ≤ 100) (hD : ∀ w, Calls Tryz.prog 79 #[.int .i64 16] w fun e w' => e = .returned (.string D) ∧ Below w.heap.size w w') (Y : ByteArray) (hYs : Y.size ≤ 3000) (hY : ∀ w, Calls Tryz.prog 82 #[.int .i64 nn, .int .i64 10] w fun e w' => e = .returned (.string Y) ∧ w' = w) (w : World) : Calls Tryz.prog 56 #[.agg #[.int .i64 16, .int .i64 nn, .string tx, .int .u64 a, .int .u64 b, .int .u64 c, .int .u64 d]] w fun e w' => e = .returned (.string (D ++ ⟨#[32]⟩ ++ Y)) ∧ Below w.heap.size w w' := by
  have HY := (show Hid _ from hY)
  have q1 : ¬ 9223372036854775807 < D.size + 1 := by omega
  have q2 : ¬ 9223372036854775807 < D.size + 1 + Y.size := by omega
  clear hY hYs hDs
  have HW : Hid (∀ w, Calls Tryz.prog 79 #[.int .i64 16] w fun e w' => e = .returned (.string D) ∧ Below w.heap.size w w') := fun w => hD w
  have HB := (show Hid _ from below_box w (.cells #[.int .i64 16, .int .i64 nn, .string tx, .int .u64 a, .int .u64 b, .int .u64 c, .int .u64 d] 51))
  obtain ⟨w0, hw0⟩ : ∃ w0, w0 = w.alloc (.cells #[.int .i64 16, .int .i64 nn, .string tx, .int .u64 a, .int .u64 b, .int .u64 c, .int .u64 d] 51) := ⟨_, rfl⟩
  have HE0 := (show Hid (w.alloc (.cells #[.int .i64 16, .int .i64 nn, .string tx, .int .u64 a, .int .u64 b, .int .u64 c, .int .u64 d] 51) = w0) from hw0.symm)
  have HX := (show Hid (∀ W', Below w0.heap.size w0 W' → ∀ j, W'.cell? ⟨w.heap.size, j, none⟩ = (#[.int .i64 16, .int .i64 nn, .string tx, .int .u64 a, .int .u64 b, .int .u64 c, .int .u64 d] : Array Value)[j]?) from fun W' hb j => by
    rw [cell_of_row W' w.heap.size j _ 51 (0, 0) ((hb.block _ (by rw [hw0, World.size_alloc]; omega)).trans (by rw [hw0]; exact heap_alloc_new w _))])
  rw [hw0.symm] at HB
  have x0 : w0.cell? ⟨w.heap.size, 0, none⟩ = some (.int .i64 16) := HX.out w0 (Below.refl _ _) 0
  clear hD hw0
  go_enter Tryz.func56, Tryz.ntmps56
  go_wp2_with (rw [HE0.out])
  refine (HW.out _).mono ?_
  rintro e w1 ⟨rfl, b1⟩
  have HB1 := (show Hid _ from b1)
  have g0 : w1.cell? ⟨w.heap.size, 0, none⟩ = some (.int .i64 16) := HX.out w1 b1 0
  have g1 : w1.cell? ⟨w.heap.size, 1, none⟩ = some (.int .i64 nn) := HX.out w1 b1 1
  have g2 : w1.cell? ⟨w.heap.size, 2, none⟩ = some (.string tx) := HX.out w1 b1 2
  have g3 : w1.cell? ⟨w.heap.size, 3, none⟩ = some (.int .u64 a) := HX.out w1 b1 3
  have g4 : w1.cell? ⟨w.heap.size, 4, none⟩ = some (.int .u64 b) := HX.out w1 b1 4
  have g5 : w1.cell? ⟨w.heap.size, 5, none⟩ = some (.int .u64 c) := HX.out w1 b1 5
  have g6 : w1.cell? ⟨w.heap.size, 6, none⟩ = some (.int .u64 d) := HX.out w1 b1 6
  clear b1 HX HE0 HW x0
  go_wp2_with fail
  refine (HY.out _).mono ?_
  rintro e w2 ⟨rfl, rfl⟩
  clear HY g0 g1 g2 g3 g4 g5 g6
  go_wp2_with fail
  go_ret
  exact ⟨rfl, HB.out.trans (HB1.out.mono HB.out.size)⟩
set_option maxRecDepth 100000 in
set_option maxHeartbeats 4000000 in
theorem lnD_17 (nn : Int) (tx : ByteArray) (a b c d : Int) (D : ByteArray) (_hDs : D.size ≤ 100) (hD : ∀ w, Calls Tryz.prog 79 #[.int .i64 17] w fun e w' => e = .returned (.string D) ∧ Below w.heap.size w w') (w : World) : Calls Tryz.prog 56 #[.agg #[.int .i64 17, .int .i64 nn, .string tx, .int .u64 a, .int .u64 b, .int .u64 c, .int .u64 d]] w fun e w' => e = .returned (.string D) ∧ Below w.heap.size w w' := by
  have HW : Hid (∀ w, Calls Tryz.prog 79 #[.int .i64 17] w fun e w' => e = .returned (.string D) ∧ Below w.heap.size w w') := fun w => hD w
  have HB := (show Hid _ from below_box w (.cells #[.int .i64 17, .int .i64 nn, .string tx, .int .u64 a, .int .u64 b, .int .u64 c, .int .u64 d] 51))
  obtain ⟨w0, hw0⟩ : ∃ w0, w0 = w.alloc (.cells #[.int .i64 17, .int .i64 nn, .string tx, .int .u64 a, .int .u64 b, .int .u64 c, .int .u64 d] 51) := ⟨_, rfl⟩
  have HE0 := (show Hid (w.alloc (.cells #[.int .i64 17, .int .i64 nn, .string tx, .int .u64 a, .int .u64 b, .int .u64 c, .int .u64 d] 51) = w0) from hw0.symm)
  have HX := (show Hid (∀ W', Below w0.heap.size w0 W' → ∀ j, W'.cell? ⟨w.heap.size, j, none⟩ = (#[.int .i64 17, .int .i64 nn, .string tx, .int .u64 a, .int .u64 b, .int .u64 c, .int .u64 d] : Array Value)[j]?) from fun W' hb j => by
    rw [cell_of_row W' w.heap.size j _ 51 (0, 0) ((hb.block _ (by rw [hw0, World.size_alloc]; omega)).trans (by rw [hw0]; exact heap_alloc_new w _))])
  rw [hw0.symm] at HB
  have x0 : w0.cell? ⟨w.heap.size, 0, none⟩ = some (.int .i64 17) := HX.out w0 (Below.refl _ _) 0
  clear hD hw0
  go_enter Tryz.func56, Tryz.ntmps56
  go_wp2_with (rw [HE0.out])
  refine (HW.out _).mono ?_
  rintro e w1 ⟨rfl, b1⟩
  have HB1 := (show Hid _ from b1)
  have g0 : w1.cell? ⟨w.heap.size, 0, none⟩ = some (.int .i64 17) := HX.out w1 b1 0
  have g1 : w1.cell? ⟨w.heap.size, 1, none⟩ = some (.int .i64 nn) := HX.out w1 b1 1
  have g2 : w1.cell? ⟨w.heap.size, 2, none⟩ = some (.string tx) := HX.out w1 b1 2
  have g3 : w1.cell? ⟨w.heap.size, 3, none⟩ = some (.int .u64 a) := HX.out w1 b1 3
  have g4 : w1.cell? ⟨w.heap.size, 4, none⟩ = some (.int .u64 b) := HX.out w1 b1 4
  have g5 : w1.cell? ⟨w.heap.size, 5, none⟩ = some (.int .u64 c) := HX.out w1 b1 5
  have g6 : w1.cell? ⟨w.heap.size, 6, none⟩ = some (.int .u64 d) := HX.out w1 b1 6
  clear b1 HX HE0 HW x0
  go_wp2_with fail
  go_ret
  exact ⟨rfl, HB.out.trans (HB1.out.mono HB.out.size)⟩
set_option maxRecDepth 100000 in
set_option maxHeartbeats 4000000 in
theorem lnD_18 (nn : Int) (tx : ByteArray) (a b c d : Int) (D : ByteArray) (_hDs : D.size ≤ 100) (hD : ∀ w, Calls Tryz.prog 79 #[.int .i64 18] w fun e w' => e = .returned (.string D) ∧ Below w.heap.size w w') (w : World) : Calls Tryz.prog 56 #[.agg #[.int .i64 18, .int .i64 nn, .string tx, .int .u64 a, .int .u64 b, .int .u64 c, .int .u64 d]] w fun e w' => e = .returned (.string D) ∧ Below w.heap.size w w' := by
  have HW : Hid (∀ w, Calls Tryz.prog 79 #[.int .i64 18] w fun e w' => e = .returned (.string D) ∧ Below w.heap.size w w') := fun w => hD w
  have HB := (show Hid _ from below_box w (.cells #[.int .i64 18, .int .i64 nn, .string tx, .int .u64 a, .int .u64 b, .int .u64 c, .int .u64 d] 51))
  obtain ⟨w0, hw0⟩ : ∃ w0, w0 = w.alloc (.cells #[.int .i64 18, .int .i64 nn, .string tx, .int .u64 a, .int .u64 b, .int .u64 c, .int .u64 d] 51) := ⟨_, rfl⟩
  have HE0 := (show Hid (w.alloc (.cells #[.int .i64 18, .int .i64 nn, .string tx, .int .u64 a, .int .u64 b, .int .u64 c, .int .u64 d] 51) = w0) from hw0.symm)
  have HX := (show Hid (∀ W', Below w0.heap.size w0 W' → ∀ j, W'.cell? ⟨w.heap.size, j, none⟩ = (#[.int .i64 18, .int .i64 nn, .string tx, .int .u64 a, .int .u64 b, .int .u64 c, .int .u64 d] : Array Value)[j]?) from fun W' hb j => by
    rw [cell_of_row W' w.heap.size j _ 51 (0, 0) ((hb.block _ (by rw [hw0, World.size_alloc]; omega)).trans (by rw [hw0]; exact heap_alloc_new w _))])
  rw [hw0.symm] at HB
  have x0 : w0.cell? ⟨w.heap.size, 0, none⟩ = some (.int .i64 18) := HX.out w0 (Below.refl _ _) 0
  clear hD hw0
  go_enter Tryz.func56, Tryz.ntmps56
  go_wp2_with (rw [HE0.out])
  refine (HW.out _).mono ?_
  rintro e w1 ⟨rfl, b1⟩
  have HB1 := (show Hid _ from b1)
  have g0 : w1.cell? ⟨w.heap.size, 0, none⟩ = some (.int .i64 18) := HX.out w1 b1 0
  have g1 : w1.cell? ⟨w.heap.size, 1, none⟩ = some (.int .i64 nn) := HX.out w1 b1 1
  have g2 : w1.cell? ⟨w.heap.size, 2, none⟩ = some (.string tx) := HX.out w1 b1 2
  have g3 : w1.cell? ⟨w.heap.size, 3, none⟩ = some (.int .u64 a) := HX.out w1 b1 3
  have g4 : w1.cell? ⟨w.heap.size, 4, none⟩ = some (.int .u64 b) := HX.out w1 b1 4
  have g5 : w1.cell? ⟨w.heap.size, 5, none⟩ = some (.int .u64 c) := HX.out w1 b1 5
  have g6 : w1.cell? ⟨w.heap.size, 6, none⟩ = some (.int .u64 d) := HX.out w1 b1 6
  clear b1 HX HE0 HW x0
  go_wp2_with fail
  go_ret
  exact ⟨rfl, HB.out.trans (HB1.out.mono HB.out.size)⟩
set_option maxRecDepth 100000 in
set_option maxHeartbeats 4000000 in
theorem lnD_19 (nn : Int) (tx : ByteArray) (a b c d : Int) (D : ByteArray) (hDs : D.size ≤ 100) (hD : ∀ w, Calls Tryz.prog 79 #[.int .i64 19] w fun e w' => e = .returned (.string D) ∧ Below w.heap.size w w') (hY : tx.size ≤ 32) (h0 : tx.size ≠ 0) (w : World) : Calls Tryz.prog 56 #[.agg #[.int .i64 19, .int .i64 nn, .string tx, .int .u64 a, .int .u64 b, .int .u64 c, .int .u64 d]] w fun e w' => e = .returned (.string (D ++ ⟨#[32]⟩ ++ tx)) ∧ Below w.heap.size w w' := by
  have q1 : ¬ 9223372036854775807 < D.size + 1 := by omega
  have q2 : ¬ 9223372036854775807 < D.size + 1 + tx.size := by omega
  have t0 := T.emp_f h0
  have t1 : (tx.toList == []) = false := by
    cases hl : tx.toList with
    | nil => rw [hl] at t0; cases t0
    | cons x r => rfl
  clear h0
  clear hY hDs
  have HW : Hid (∀ w, Calls Tryz.prog 79 #[.int .i64 19] w fun e w' => e = .returned (.string D) ∧ Below w.heap.size w w') := fun w => hD w
  have HB := (show Hid _ from below_box w (.cells #[.int .i64 19, .int .i64 nn, .string tx, .int .u64 a, .int .u64 b, .int .u64 c, .int .u64 d] 51))
  obtain ⟨w0, hw0⟩ : ∃ w0, w0 = w.alloc (.cells #[.int .i64 19, .int .i64 nn, .string tx, .int .u64 a, .int .u64 b, .int .u64 c, .int .u64 d] 51) := ⟨_, rfl⟩
  have HE0 := (show Hid (w.alloc (.cells #[.int .i64 19, .int .i64 nn, .string tx, .int .u64 a, .int .u64 b, .int .u64 c, .int .u64 d] 51) = w0) from hw0.symm)
  have HX := (show Hid (∀ W', Below w0.heap.size w0 W' → ∀ j, W'.cell? ⟨w.heap.size, j, none⟩ = (#[.int .i64 19, .int .i64 nn, .string tx, .int .u64 a, .int .u64 b, .int .u64 c, .int .u64 d] : Array Value)[j]?) from fun W' hb j => by
    rw [cell_of_row W' w.heap.size j _ 51 (0, 0) ((hb.block _ (by rw [hw0, World.size_alloc]; omega)).trans (by rw [hw0]; exact heap_alloc_new w _))])
  rw [hw0.symm] at HB
  have x0 : w0.cell? ⟨w.heap.size, 0, none⟩ = some (.int .i64 19) := HX.out w0 (Below.refl _ _) 0
  clear hD hw0
  go_enter Tryz.func56, Tryz.ntmps56
  go_wp2_with (rw [HE0.out])
  refine (HW.out _).mono ?_
  rintro e w1 ⟨rfl, b1⟩
  have HB1 := (show Hid _ from b1)
  have g0 : w1.cell? ⟨w.heap.size, 0, none⟩ = some (.int .i64 19) := HX.out w1 b1 0
  have g1 : w1.cell? ⟨w.heap.size, 1, none⟩ = some (.int .i64 nn) := HX.out w1 b1 1
  have g2 : w1.cell? ⟨w.heap.size, 2, none⟩ = some (.string tx) := HX.out w1 b1 2
  have g3 : w1.cell? ⟨w.heap.size, 3, none⟩ = some (.int .u64 a) := HX.out w1 b1 3
  have g4 : w1.cell? ⟨w.heap.size, 4, none⟩ = some (.int .u64 b) := HX.out w1 b1 4
  have g5 : w1.cell? ⟨w.heap.size, 5, none⟩ = some (.int .u64 c) := HX.out w1 b1 5
  have g6 : w1.cell? ⟨w.heap.size, 6, none⟩ = some (.int .u64 d) := HX.out w1 b1 6
  clear b1 HX HE0 HW x0
  go_wp2_with fail
  go_ret
  exact ⟨rfl, HB.out.trans (HB1.out.mono HB.out.size)⟩
set_option maxRecDepth 100000 in
set_option maxHeartbeats 4000000 in
theorem lnD_19e (nn : Int) (tx : ByteArray) (a b c d : Int) (D : ByteArray) (_hDs : D.size ≤ 100) (hD : ∀ w, Calls Tryz.prog 79 #[.int .i64 19] w fun e w' => e = .returned (.string D) ∧ Below w.heap.size w w') (h0 : tx.size = 0) (w : World) : Calls Tryz.prog 56 #[.agg #[.int .i64 19, .int .i64 nn, .string tx, .int .u64 a, .int .u64 b, .int .u64 c, .int .u64 d]] w fun e w' => e = .returned (.string D) ∧ Below w.heap.size w w' := by
  have t0 := T.emp_t h0
  have t1 : (tx.toList == []) = true := by
    rw [List.isEmpty_iff] at t0
    rw [t0]; rfl
  clear h0
  have HW : Hid (∀ w, Calls Tryz.prog 79 #[.int .i64 19] w fun e w' => e = .returned (.string D) ∧ Below w.heap.size w w') := fun w => hD w
  have HB := (show Hid _ from below_box w (.cells #[.int .i64 19, .int .i64 nn, .string tx, .int .u64 a, .int .u64 b, .int .u64 c, .int .u64 d] 51))
  obtain ⟨w0, hw0⟩ : ∃ w0, w0 = w.alloc (.cells #[.int .i64 19, .int .i64 nn, .string tx, .int .u64 a, .int .u64 b, .int .u64 c, .int .u64 d] 51) := ⟨_, rfl⟩
  have HE0 := (show Hid (w.alloc (.cells #[.int .i64 19, .int .i64 nn, .string tx, .int .u64 a, .int .u64 b, .int .u64 c, .int .u64 d] 51) = w0) from hw0.symm)
  have HX := (show Hid (∀ W', Below w0.heap.size w0 W' → ∀ j, W'.cell? ⟨w.heap.size, j, none⟩ = (#[.int .i64 19, .int .i64 nn, .string tx, .int .u64 a, .int .u64 b, .int .u64 c, .int .u64 d] : Array Value)[j]?) from fun W' hb j => by
    rw [cell_of_row W' w.heap.size j _ 51 (0, 0) ((hb.block _ (by rw [hw0, World.size_alloc]; omega)).trans (by rw [hw0]; exact heap_alloc_new w _))])
  rw [hw0.symm] at HB
  have x0 : w0.cell? ⟨w.heap.size, 0, none⟩ = some (.int .i64 19) := HX.out w0 (Below.refl _ _) 0
  clear hD hw0
  go_enter Tryz.func56, Tryz.ntmps56
  go_wp2_with (rw [HE0.out])
  refine (HW.out _).mono ?_
  rintro e w1 ⟨rfl, b1⟩
  have HB1 := (show Hid _ from b1)
  have g0 : w1.cell? ⟨w.heap.size, 0, none⟩ = some (.int .i64 19) := HX.out w1 b1 0
  have g1 : w1.cell? ⟨w.heap.size, 1, none⟩ = some (.int .i64 nn) := HX.out w1 b1 1
  have g2 : w1.cell? ⟨w.heap.size, 2, none⟩ = some (.string tx) := HX.out w1 b1 2
  have g3 : w1.cell? ⟨w.heap.size, 3, none⟩ = some (.int .u64 a) := HX.out w1 b1 3
  have g4 : w1.cell? ⟨w.heap.size, 4, none⟩ = some (.int .u64 b) := HX.out w1 b1 4
  have g5 : w1.cell? ⟨w.heap.size, 5, none⟩ = some (.int .u64 c) := HX.out w1 b1 5
  have g6 : w1.cell? ⟨w.heap.size, 6, none⟩ = some (.int .u64 d) := HX.out w1 b1 6
  clear b1 HX HE0 HW x0
  go_wp2_with fail
  go_ret
  exact ⟨rfl, HB.out.trans (HB1.out.mono HB.out.size)⟩
set_option maxRecDepth 100000 in
set_option maxHeartbeats 4000000 in
theorem lnD_20 (nn : Int) (tx : ByteArray) (a b c d : Int) (D : ByteArray) (_hDs : D.size ≤ 100) (hD : ∀ w, Calls Tryz.prog 79 #[.int .i64 20] w fun e w' => e = .returned (.string D) ∧ Below w.heap.size w w') (w : World) : Calls Tryz.prog 56 #[.agg #[.int .i64 20, .int .i64 nn, .string tx, .int .u64 a, .int .u64 b, .int .u64 c, .int .u64 d]] w fun e w' => e = .returned (.string D) ∧ Below w.heap.size w w' := by
  have HW : Hid (∀ w, Calls Tryz.prog 79 #[.int .i64 20] w fun e w' => e = .returned (.string D) ∧ Below w.heap.size w w') := fun w => hD w
  have HB := (show Hid _ from below_box w (.cells #[.int .i64 20, .int .i64 nn, .string tx, .int .u64 a, .int .u64 b, .int .u64 c, .int .u64 d] 51))
  obtain ⟨w0, hw0⟩ : ∃ w0, w0 = w.alloc (.cells #[.int .i64 20, .int .i64 nn, .string tx, .int .u64 a, .int .u64 b, .int .u64 c, .int .u64 d] 51) := ⟨_, rfl⟩
  have HE0 := (show Hid (w.alloc (.cells #[.int .i64 20, .int .i64 nn, .string tx, .int .u64 a, .int .u64 b, .int .u64 c, .int .u64 d] 51) = w0) from hw0.symm)
  have HX := (show Hid (∀ W', Below w0.heap.size w0 W' → ∀ j, W'.cell? ⟨w.heap.size, j, none⟩ = (#[.int .i64 20, .int .i64 nn, .string tx, .int .u64 a, .int .u64 b, .int .u64 c, .int .u64 d] : Array Value)[j]?) from fun W' hb j => by
    rw [cell_of_row W' w.heap.size j _ 51 (0, 0) ((hb.block _ (by rw [hw0, World.size_alloc]; omega)).trans (by rw [hw0]; exact heap_alloc_new w _))])
  rw [hw0.symm] at HB
  have x0 : w0.cell? ⟨w.heap.size, 0, none⟩ = some (.int .i64 20) := HX.out w0 (Below.refl _ _) 0
  clear hD hw0
  go_enter Tryz.func56, Tryz.ntmps56
  go_wp2_with (rw [HE0.out])
  refine (HW.out _).mono ?_
  rintro e w1 ⟨rfl, b1⟩
  have HB1 := (show Hid _ from b1)
  have g0 : w1.cell? ⟨w.heap.size, 0, none⟩ = some (.int .i64 20) := HX.out w1 b1 0
  have g1 : w1.cell? ⟨w.heap.size, 1, none⟩ = some (.int .i64 nn) := HX.out w1 b1 1
  have g2 : w1.cell? ⟨w.heap.size, 2, none⟩ = some (.string tx) := HX.out w1 b1 2
  have g3 : w1.cell? ⟨w.heap.size, 3, none⟩ = some (.int .u64 a) := HX.out w1 b1 3
  have g4 : w1.cell? ⟨w.heap.size, 4, none⟩ = some (.int .u64 b) := HX.out w1 b1 4
  have g5 : w1.cell? ⟨w.heap.size, 5, none⟩ = some (.int .u64 c) := HX.out w1 b1 5
  have g6 : w1.cell? ⟨w.heap.size, 6, none⟩ = some (.int .u64 d) := HX.out w1 b1 6
  clear b1 HX HE0 HW x0
  go_wp2_with fail
  go_ret
  exact ⟨rfl, HB.out.trans (HB1.out.mono HB.out.size)⟩
set_option maxRecDepth 100000 in
set_option maxHeartbeats 4000000 in
theorem lnD_21 (nn : Int) (tx : ByteArray) (a b c d : Int) (D : ByteArray) (_hDs : D.size ≤ 100) (hD : ∀ w, Calls Tryz.prog 79 #[.int .i64 21] w fun e w' => e = .returned (.string D) ∧ Below w.heap.size w w') (w : World) : Calls Tryz.prog 56 #[.agg #[.int .i64 21, .int .i64 nn, .string tx, .int .u64 a, .int .u64 b, .int .u64 c, .int .u64 d]] w fun e w' => e = .returned (.string D) ∧ Below w.heap.size w w' := by
  have HW : Hid (∀ w, Calls Tryz.prog 79 #[.int .i64 21] w fun e w' => e = .returned (.string D) ∧ Below w.heap.size w w') := fun w => hD w
  have HB := (show Hid _ from below_box w (.cells #[.int .i64 21, .int .i64 nn, .string tx, .int .u64 a, .int .u64 b, .int .u64 c, .int .u64 d] 51))
  obtain ⟨w0, hw0⟩ : ∃ w0, w0 = w.alloc (.cells #[.int .i64 21, .int .i64 nn, .string tx, .int .u64 a, .int .u64 b, .int .u64 c, .int .u64 d] 51) := ⟨_, rfl⟩
  have HE0 := (show Hid (w.alloc (.cells #[.int .i64 21, .int .i64 nn, .string tx, .int .u64 a, .int .u64 b, .int .u64 c, .int .u64 d] 51) = w0) from hw0.symm)
  have HX := (show Hid (∀ W', Below w0.heap.size w0 W' → ∀ j, W'.cell? ⟨w.heap.size, j, none⟩ = (#[.int .i64 21, .int .i64 nn, .string tx, .int .u64 a, .int .u64 b, .int .u64 c, .int .u64 d] : Array Value)[j]?) from fun W' hb j => by
    rw [cell_of_row W' w.heap.size j _ 51 (0, 0) ((hb.block _ (by rw [hw0, World.size_alloc]; omega)).trans (by rw [hw0]; exact heap_alloc_new w _))])
  rw [hw0.symm] at HB
  have x0 : w0.cell? ⟨w.heap.size, 0, none⟩ = some (.int .i64 21) := HX.out w0 (Below.refl _ _) 0
  clear hD hw0
  go_enter Tryz.func56, Tryz.ntmps56
  go_wp2_with (rw [HE0.out])
  refine (HW.out _).mono ?_
  rintro e w1 ⟨rfl, b1⟩
  have HB1 := (show Hid _ from b1)
  have g0 : w1.cell? ⟨w.heap.size, 0, none⟩ = some (.int .i64 21) := HX.out w1 b1 0
  have g1 : w1.cell? ⟨w.heap.size, 1, none⟩ = some (.int .i64 nn) := HX.out w1 b1 1
  have g2 : w1.cell? ⟨w.heap.size, 2, none⟩ = some (.string tx) := HX.out w1 b1 2
  have g3 : w1.cell? ⟨w.heap.size, 3, none⟩ = some (.int .u64 a) := HX.out w1 b1 3
  have g4 : w1.cell? ⟨w.heap.size, 4, none⟩ = some (.int .u64 b) := HX.out w1 b1 4
  have g5 : w1.cell? ⟨w.heap.size, 5, none⟩ = some (.int .u64 c) := HX.out w1 b1 5
  have g6 : w1.cell? ⟨w.heap.size, 6, none⟩ = some (.int .u64 d) := HX.out w1 b1 6
  clear b1 HX HE0 HW x0
  go_wp2_with fail
  go_ret
  exact ⟨rfl, HB.out.trans (HB1.out.mono HB.out.size)⟩
set_option maxRecDepth 100000 in
set_option maxHeartbeats 4000000 in
theorem lnD_22 (nn : Int) (tx : ByteArray) (a b c d : Int) (D : ByteArray) (hDs : D.size ≤ 100) (hD : ∀ w, Calls Tryz.prog 79 #[.int .i64 22] w fun e w' => e = .returned (.string D) ∧ Below w.heap.size w w') (Y : ByteArray) (hYs : Y.size ≤ 3000) (hY : ∀ w, Calls Tryz.prog 80 #[.string tx] w fun e w' => e = .returned (.string Y) ∧ Below w.heap.size w w') (w : World) : Calls Tryz.prog 56 #[.agg #[.int .i64 22, .int .i64 nn, .string tx, .int .u64 a, .int .u64 b, .int .u64 c, .int .u64 d]] w fun e w' => e = .returned (.string (D ++ ⟨#[32]⟩ ++ Y)) ∧ Below w.heap.size w w' := by
  have HY := (show Hid _ from hY)
  have q1 : ¬ 9223372036854775807 < D.size + 1 := by omega
  have q2 : ¬ 9223372036854775807 < D.size + 1 + Y.size := by omega
  clear hY hYs hDs
  have HW : Hid (∀ w, Calls Tryz.prog 79 #[.int .i64 22] w fun e w' => e = .returned (.string D) ∧ Below w.heap.size w w') := fun w => hD w
  have HB := (show Hid _ from below_box w (.cells #[.int .i64 22, .int .i64 nn, .string tx, .int .u64 a, .int .u64 b, .int .u64 c, .int .u64 d] 51))
  obtain ⟨w0, hw0⟩ : ∃ w0, w0 = w.alloc (.cells #[.int .i64 22, .int .i64 nn, .string tx, .int .u64 a, .int .u64 b, .int .u64 c, .int .u64 d] 51) := ⟨_, rfl⟩
  have HE0 := (show Hid (w.alloc (.cells #[.int .i64 22, .int .i64 nn, .string tx, .int .u64 a, .int .u64 b, .int .u64 c, .int .u64 d] 51) = w0) from hw0.symm)
  have HX := (show Hid (∀ W', Below w0.heap.size w0 W' → ∀ j, W'.cell? ⟨w.heap.size, j, none⟩ = (#[.int .i64 22, .int .i64 nn, .string tx, .int .u64 a, .int .u64 b, .int .u64 c, .int .u64 d] : Array Value)[j]?) from fun W' hb j => by
    rw [cell_of_row W' w.heap.size j _ 51 (0, 0) ((hb.block _ (by rw [hw0, World.size_alloc]; omega)).trans (by rw [hw0]; exact heap_alloc_new w _))])
  rw [hw0.symm] at HB
  have x0 : w0.cell? ⟨w.heap.size, 0, none⟩ = some (.int .i64 22) := HX.out w0 (Below.refl _ _) 0
  clear hD hw0
  go_enter Tryz.func56, Tryz.ntmps56
  go_wp2_with (rw [HE0.out])
  refine (HW.out _).mono ?_
  rintro e w1 ⟨rfl, b1⟩
  have HB1 := (show Hid _ from b1)
  have g0 : w1.cell? ⟨w.heap.size, 0, none⟩ = some (.int .i64 22) := HX.out w1 b1 0
  have g1 : w1.cell? ⟨w.heap.size, 1, none⟩ = some (.int .i64 nn) := HX.out w1 b1 1
  have g2 : w1.cell? ⟨w.heap.size, 2, none⟩ = some (.string tx) := HX.out w1 b1 2
  have g3 : w1.cell? ⟨w.heap.size, 3, none⟩ = some (.int .u64 a) := HX.out w1 b1 3
  have g4 : w1.cell? ⟨w.heap.size, 4, none⟩ = some (.int .u64 b) := HX.out w1 b1 4
  have g5 : w1.cell? ⟨w.heap.size, 5, none⟩ = some (.int .u64 c) := HX.out w1 b1 5
  have g6 : w1.cell? ⟨w.heap.size, 6, none⟩ = some (.int .u64 d) := HX.out w1 b1 6
  clear b1 HX HE0 HW x0
  go_wp2_with fail
  refine (HY.out _).mono ?_
  rintro e w2 ⟨rfl, b2⟩
  have HB2 := (show Hid _ from HB1.out.trans (b2.mono HB1.out.size))
  clear b2 HY HB1 g0 g1 g2 g3 g4 g5 g6
  go_wp2_with fail
  go_ret
  exact ⟨rfl, HB.out.trans (HB2.out.mono HB.out.size)⟩
set_option maxRecDepth 100000 in
set_option maxHeartbeats 4000000 in
theorem lnD_23 (nn : Int) (tx : ByteArray) (a b c d : Int) (D : ByteArray) (hDs : D.size ≤ 100) (hD : ∀ w, Calls Tryz.prog 79 #[.int .i64 23] w fun e w' => e = .returned (.string D) ∧ Below w.heap.size w w') (Y : ByteArray) (hYs : Y.size ≤ 3000) (hY : ∀ w, Calls Tryz.prog 82 #[.int .i64 nn, .int .i64 10] w fun e w' => e = .returned (.string Y) ∧ w' = w) (w : World) : Calls Tryz.prog 56 #[.agg #[.int .i64 23, .int .i64 nn, .string tx, .int .u64 a, .int .u64 b, .int .u64 c, .int .u64 d]] w fun e w' => e = .returned (.string (D ++ ⟨#[32]⟩ ++ Y)) ∧ Below w.heap.size w w' := by
  have HY := (show Hid _ from hY)
  have q1 : ¬ 9223372036854775807 < D.size + 1 := by omega
  have q2 : ¬ 9223372036854775807 < D.size + 1 + Y.size := by omega
  clear hY hYs hDs
  have HW : Hid (∀ w, Calls Tryz.prog 79 #[.int .i64 23] w fun e w' => e = .returned (.string D) ∧ Below w.heap.size w w') := fun w => hD w
  have HB := (show Hid _ from below_box w (.cells #[.int .i64 23, .int .i64 nn, .string tx, .int .u64 a, .int .u64 b, .int .u64 c, .int .u64 d] 51))
  obtain ⟨w0, hw0⟩ : ∃ w0, w0 = w.alloc (.cells #[.int .i64 23, .int .i64 nn, .string tx, .int .u64 a, .int .u64 b, .int .u64 c, .int .u64 d] 51) := ⟨_, rfl⟩
  have HE0 := (show Hid (w.alloc (.cells #[.int .i64 23, .int .i64 nn, .string tx, .int .u64 a, .int .u64 b, .int .u64 c, .int .u64 d] 51) = w0) from hw0.symm)
  have HX := (show Hid (∀ W', Below w0.heap.size w0 W' → ∀ j, W'.cell? ⟨w.heap.size, j, none⟩ = (#[.int .i64 23, .int .i64 nn, .string tx, .int .u64 a, .int .u64 b, .int .u64 c, .int .u64 d] : Array Value)[j]?) from fun W' hb j => by
    rw [cell_of_row W' w.heap.size j _ 51 (0, 0) ((hb.block _ (by rw [hw0, World.size_alloc]; omega)).trans (by rw [hw0]; exact heap_alloc_new w _))])
  rw [hw0.symm] at HB
  have x0 : w0.cell? ⟨w.heap.size, 0, none⟩ = some (.int .i64 23) := HX.out w0 (Below.refl _ _) 0
  clear hD hw0
  go_enter Tryz.func56, Tryz.ntmps56
  go_wp2_with (rw [HE0.out])
  refine (HW.out _).mono ?_
  rintro e w1 ⟨rfl, b1⟩
  have HB1 := (show Hid _ from b1)
  have g0 : w1.cell? ⟨w.heap.size, 0, none⟩ = some (.int .i64 23) := HX.out w1 b1 0
  have g1 : w1.cell? ⟨w.heap.size, 1, none⟩ = some (.int .i64 nn) := HX.out w1 b1 1
  have g2 : w1.cell? ⟨w.heap.size, 2, none⟩ = some (.string tx) := HX.out w1 b1 2
  have g3 : w1.cell? ⟨w.heap.size, 3, none⟩ = some (.int .u64 a) := HX.out w1 b1 3
  have g4 : w1.cell? ⟨w.heap.size, 4, none⟩ = some (.int .u64 b) := HX.out w1 b1 4
  have g5 : w1.cell? ⟨w.heap.size, 5, none⟩ = some (.int .u64 c) := HX.out w1 b1 5
  have g6 : w1.cell? ⟨w.heap.size, 6, none⟩ = some (.int .u64 d) := HX.out w1 b1 6
  clear b1 HX HE0 HW x0
  go_wp2_with fail
  refine (HY.out _).mono ?_
  rintro e w2 ⟨rfl, rfl⟩
  clear HY g0 g1 g2 g3 g4 g5 g6
  go_wp2_with fail
  go_ret
  exact ⟨rfl, HB.out.trans (HB1.out.mono HB.out.size)⟩
end Go.Proofs.YtnpifgcgjgddoaaGreatDoor.N

namespace Go.Proofs.YtnpifgcgjgddoaaGreatDoor.N
open Go.RowKit
theorem fld_pos {n : Nd} (h : T.alE n = 0) (hw : NdW n) {t : Tk} (ha : agT n = some t) : ¬ (fldX n).size = 0 := by
  obtain ⟨hg, _⟩ := ag_rgt h hw ha
  have h1 := (tok_there hg.r hg.b (s := tkX t) (b := 0) (fun k _ => rfl) (by rw [chr_out (by omega)]; decide)).1
  unfold fldX
  rw [ha]
  show ¬ (tkX t).size = 0
  omega
theorem ln_txt {n : Nd} (h : T.alE n = 0) (hw : NdW n) : txO (lnT n) = if (fldX n).size = 0 then txO (wdT n.op) else txO (wdT n.op) ++ ⟨#[32]⟩ ++ fldX n := by
  unfold lnT
  rw [ag_text h hw]
  split
  · rw [List.append_nil]
  · apply ByteArray.ext
    apply Array.toList_inj.1
    rw [cat_list, cat_list, List.append_assoc]
    rfl
theorem ln_any {n : Nd} (h : T.alE n = 0) (hw : NdW n) (w : World) : Calls Tryz.prog 56 #[T.ndG n] w fun e w' => e = .returned (.string (txO (lnT n))) ∧ Below w.heap.size w w' := by
  have hr := op_rng h
  have hop : ∃ k : Nat, n.op = (k : Int) ∧ 1 ≤ k ∧ k ≤ 23 := ⟨n.op.toNat, by omega, by omega, by omega⟩
  obtain ⟨k, hk, h1, h2⟩ := hop
  have hD : ∀ w, Calls Tryz.prog 79 #[.int .i64 k] w fun e w' => e = .returned (.string (txO (wdT k))) ∧ Below w.heap.size w w' := fun w => word_any k h1 h2 w
  have hDs : (txO (wdT k)).size ≤ 100 := by rw [txO_size]; have := wd_len k; omega
  have hT := ln_txt h hw
  have hfl := fld_len h
  obtain ⟨m, hm, hm2⟩ := nn_of h
  obtain ⟨o, nn, tx, a, b, c, d⟩ := n
  dsimp only at hk hm
  subst hk
  subst hm
  rw [hT]
  clear hT
  match k, h1, h2 with
  | 1, _, _ =>
    rw [fdx1 rfl, if_pos (show (⟨#[]⟩ : ByteArray).size = 0 from rfl)]
    exact lnD_1 _ tx a b c d _ hDs hD w
  | 2, _, _ =>
    rw [fdx2 rfl, if_pos (show (⟨#[]⟩ : ByteArray).size = 0 from rfl)]
    exact lnD_2 _ tx a b c d _ hDs hD w
  | 3, _, _ =>
    rw [fdx3 rfl, if_pos (show (⟨#[]⟩ : ByteArray).size = 0 from rfl)]
    exact lnD_3 _ tx a b c d _ hDs hD w
  | 4, _, _ =>
    rw [if_neg (fld_pos h hw rfl)]
    rw [fdx4 rfl] at hfl ⊢
    exact lnD_4 _ tx a b c d _ hDs hD _ hfl (fun w => literal_any tx (tx4 h rfl).2 w) w
  | 5, _, _ =>
    rw [if_neg (fld_pos h hw rfl)]
    rw [fdx5 rfl] at hfl ⊢
    exact lnD_5 _ tx a b c d _ hDs hD _ hfl (fun w => by
      have h := showR_any (mkS a b c d) w
      obtain ⟨y0, y1, y2, y3⟩ := mkS_wd a b c d hw.a hw.b hw.c hw.d
      unfold sv at h
      rw [y0, y1, y2, y3] at h
      exact h) w
  | 6, _, _ =>
    rw [fdx6 rfl]
    have := isNm_len (tx6 h rfl)
    dsimp only at this ⊢
    rw [if_neg (by omega)]
    exact lnD_6 _ tx a b c d _ hDs hD (by omega) w
  | 7, _, _ =>
    rw [fdx7 rfl, if_pos (show (⟨#[]⟩ : ByteArray).size = 0 from rfl)]
    exact lnD_7 _ tx a b c d _ hDs hD w
  | 8, _, _ =>
    rw [fdx8 rfl, if_pos (show (⟨#[]⟩ : ByteArray).size = 0 from rfl)]
    exact lnD_8 _ tx a b c d _ hDs hD w
  | 9, _, _ =>
    rw [fdx9 rfl, if_pos (show (⟨#[]⟩ : ByteArray).size = 0 from rfl)]
    exact lnD_9 _ tx a b c d _ hDs hD w
  | 10, _, _ =>
    rw [fdx10 rfl, if_pos (show (⟨#[]⟩ : ByteArray).size = 0 from rfl)]
    exact lnD_10 _ tx a b c d _ hDs hD w
  | 11, _, _ =>
    rw [fdx11 rfl, if_pos (show (⟨#[]⟩ : ByteArray).size = 0 from rfl)]
    exact lnD_11 _ tx a b c d _ hDs hD w
  | 12, _, _ =>
    rw [fdx12 rfl, if_pos (show (⟨#[]⟩ : ByteArray).size = 0 from rfl)]
    exact lnD_12 _ tx a b c d _ hDs hD w
  | 13, _, _ =>
    rw [fdx13 rfl, if_pos (show (⟨#[]⟩ : ByteArray).size = 0 from rfl)]
    exact lnD_13 _ tx a b c d _ hDs hD w
  | 14, _, _ =>
    rw [if_neg (fld_pos h hw rfl)]
    rw [fdx14 rfl] at hfl ⊢
    exact lnD_14 _ tx a b c d _ hDs hD _ hfl (fun w => whole10_any m (by omega) w) w
  | 15, _, _ =>
    rw [if_neg (fld_pos h hw rfl)]
    rw [fdx15 rfl] at hfl ⊢
    exact lnD_15 _ tx a b c d _ hDs hD _ hfl (fun w => whole10_any m (by omega) w) w
  | 16, _, _ =>
    rw [if_neg (fld_pos h hw rfl)]
    rw [fdx16 rfl] at hfl ⊢
    exact lnD_16 _ tx a b c d _ hDs hD _ hfl (fun w => whole10_any m (by omega) w) w
  | 17, _, _ =>
    rw [fdx17 rfl, if_pos (show (⟨#[]⟩ : ByteArray).size = 0 from rfl)]
    exact lnD_17 _ tx a b c d _ hDs hD w
  | 18, _, _ =>
    rw [fdx18 rfl, if_pos (show (⟨#[]⟩ : ByteArray).size = 0 from rfl)]
    exact lnD_18 _ tx a b c d _ hDs hD w
  | 19, _, _ =>
    rw [fdx19 rfl]
    dsimp only
    split
    · next q => exact lnD_19e _ tx a b c d _ hDs hD q w
    · next q => exact lnD_19 _ tx a b c d _ hDs hD (by
        rcases tx19 h rfl with z | z
        · have z : tx = ⟨#[]⟩ := z
          rw [z]; decide
        · exact (isNm_len z).2) q w
  | 20, _, _ =>
    rw [fdx20 rfl, if_pos (show (⟨#[]⟩ : ByteArray).size = 0 from rfl)]
    exact lnD_20 _ tx a b c d _ hDs hD w
  | 21, _, _ =>
    rw [fdx21 rfl, if_pos (show (⟨#[]⟩ : ByteArray).size = 0 from rfl)]
    exact lnD_21 _ tx a b c d _ hDs hD w
  | 22, _, _ =>
    rw [if_neg (fld_pos h hw rfl)]
    rw [fdx22 rfl] at hfl ⊢
    exact lnD_22 _ tx a b c d _ hDs hD _ hfl (fun w => literal_any tx (tx22 h rfl) w) w
  | 23, _, _ =>
    rw [if_neg (fld_pos h hw rfl)]
    rw [fdx23 rfl] at hfl ⊢
    exact lnD_23 _ tx a b c d _ hDs hD _ hfl (fun w => whole10_any m (by omega) w) w
  | n + 24, _, h => omega
end Go.Proofs.YtnpifgcgjgddoaaGreatDoor.N

namespace Go.Proofs.YtnpifgcgjgddoaaGreatDoor.N
open Go.RowKit
theorem branch_all {L : List Nd} {b tb gp op cp : Nat} (hb0 : 0 < b) (he : ∀ j, j < L.length → T.er L j = 0) (hw : ∀ n ∈ L, NdW n) (hL : L.length ≤ 2048) : ∀ m k, k < m → k < L.length → BrC L b tb gp op cp k := by
  intro m
  induction m with
  | zero => intro k hk; omega
  | succ m ih =>
    intro k hk hkl
    have hn : L[k]? = some L[k] := List.getElem?_eq_getElem hkl
    refine branch_of hb0 hn (fun j hj => he j (by omega)) (hw _ (List.getElem_mem hkl)) hL fun j hj => ?_
    have hjk := kds_lt hn (fun j hj => he j (by omega)) j hj
    exact ih j (by omega) (by omega)
/-- How deep rows lie. -/
theorem er_deep {L : List Nd} (he : ∀ j, j < L.length → T.er L j = 0) : ∀ m k, k < m → k < L.length → ∀ x ∈ enR L k, x.1 ≤ k := by
  intro m
  induction m with
  | zero => intro k hk; omega
  | succ m ih =>
    intro k hk hkl x hx
    have hn : L[k]? = some L[k] := List.getElem?_eq_getElem hkl
    have hlt := kds_lt hn (fun j hj => he j (by omega))
    have hop := T.op_of hn
    have up : ∀ j, j ∈ kds L k → x ∈ upT (enR L j) → x.1 ≤ k := fun j hj hu => by
      have := hlt j hj
      unfold upT at hu
      obtain ⟨y, hy, rfl⟩ := List.mem_map.1 hu
      have := ih j (by omega) (by omega) y hy
      show y.1 + 1 ≤ k
      omega
    rw [er_node hn (fun j hj => he j (by omega))] at hx
    rcases List.mem_cons.1 hx with rfl | hx
    · exact Nat.zero_le _
    by_cases a0 : T.arN L[k].op = 0
    · rw [if_pos a0] at hx; cases hx
    rw [if_neg a0] at hx
    by_cases a1 : T.arN L[k].op = 1
    · rw [if_pos a1] at hx
      have hks : kds L k = [k - 1] := by unfold kds; rw [hop, if_neg a0, if_pos a1]
      exact up (k - 1) (by rw [hks]; simp) hx
    · rw [if_neg a1] at hx
      have hks : kds L k = [(T.pt L (k - 1)).1 - 1, k - 1] := by unfold kds; rw [hop, if_neg a0, if_neg a1]
      rcases List.mem_append.1 hx with hx | hx
      · exact up _ (by rw [hks]; simp) hx
      · exact up _ (by rw [hks]; simp) hx
theorem row_len {x : Nat × Nd} (h : T.alE x.2 = 0) (hw : NdW x.2) (hd : x.1 ≤ 2048) : (rowT x).length ≤ 8000 := by
  unfold rowT lnT
  rw [ag_text h hw, List.length_append, List.length_append, List.length_append, List.length_replicate]
  have h1 := wd_len x.2.op
  have h2 := fld_len h
  have h3 := dlen (fldX x.2)
  have h4 : (if (fldX x.2).size = 0 then [] else 32 :: (fldX x.2).data.toList : List UInt8).length ≤ 3001 := by
    split
    · exact Nat.zero_le _
    · rw [List.length_cons]; omega
  show _ + (_ + _) + 1 ≤ _
  omega
theorem trT_len : ∀ (e : Tr), (∀ x ∈ e, (rowT x).length ≤ 8000) → (trT e).length ≤ 8000 * e.length := by
  intro e
  induction e with
  | nil => intro _; exact Nat.zero_le _
  | cons x r ih =>
    intro h
    have h1 := ih (fun y hy => h y (List.mem_cons_of_mem _ hy))
    have h2 := h x List.mem_cons_self
    have e : trT (x :: r) = rowT x ++ trT r := rfl
    rw [e, List.length_append, List.length_cons]
    omega
theorem tr_big {L : List Nd} (hr : T.Rt L) (hw : ∀ n ∈ L, NdW n) : (trT (trI L)).length ≤ 16384000 := by
  have h1 := tr_len hr
  have h2 := hr.len
  have h3 := rt_pos hr
  have := trT_len (trI L) (fun x hx => by
    obtain ⟨q1, q2⟩ := tr_rows hr hw x hx
    rw [tr_last h3] at hx
    have := er_deep hr.each L.length (L.length - 1) (by omega) (by omega) x hx
    exact row_len q1 q2 (by omega))
  omega
theorem ddT_zero (e : Tr) : ddT 0 e = trT e := by
  unfold ddT
  congr 1
  exact List.map_id'' (fun x => rfl) e
theorem tr_ne {L : List Nd} (hr : T.Rt L) : trT (trI L) ≠ [] := by
  have h1 := tr_len hr
  have h3 := rt_pos hr
  cases ht : trI L with
  | nil => rw [ht] at h1; simp at h1; omega
  | cons x r =>
    intro e
    have e2 : rowT x ++ trT r = [] := e
    have := (List.append_eq_nil_iff.1 e2).1
    unfold rowT at this
    simp at this
set_option maxRecDepth 100000 in
set_option maxHeartbeats 2000000 in
theorem tree_any {L : List Nd} {b tb gp op cp : Nat} (hb0 : 0 < b) (hr : T.Rt L) (hw : ∀ n ∈ L, NdW n) (W : World) (hWt : WT W) (hT : Tl W b tb L gp op cp) (hB : Lib.IsBuilder 59 5 b b (Lib.byteCells []) W) :
    Calls Tryz.prog 32 #[.pointer (some ⟨tb, 0, none⟩)] W fun e W' => e = .returned (.tuple #[]) ∧ Pg b W W' (trT (trI L)) := by
  have hL : L.length ≤ 2048 := by have := hr.len; omega
  have h0 := rt_pos hr
  have hbg := tr_big hr hw
  obtain ⟨k, hk⟩ : ∃ k, k + 1 = L.length := ⟨L.length - 1, by omega⟩
  have ek : L.length - 1 = k := by omega
  have HC : Hid (∀ _ : Unit, Calls Tryz.prog 54 #[.pointer (some ⟨tb, 0, none⟩), .int .i64 k, .string ⟨#[]⟩] W fun e W' => e = .returned (.tuple #[]) ∧ Pg b W W' (trT (trI L))) := fun _ => by
    rw [tr_last h0, ek] at hbg ⊢
    have h := branch_all (b := b) (tb := tb) (gp := gp) (op := op) (cp := cp) hb0 hr.each hw hL (k + 1) k (by omega) (by omega) W [] 0 (by omega) hWt hT hB (by rw [ddT_zero]; show 0 + _ ≤ _; omega)
    rw [ddT_zero, List.nil_append] at h
    exact h
  obtain ⟨g, ht, _⟩ := hT.t
  have a0 : W.cell? ⟨tb, 0, none⟩ = some (.slice (some ⟨gp, op, none⟩) L.length cp) := ht.cell 0
  have es : (L.length : Int) - 1 = (k : Int) := by omega
  clear hT hB ht hbg h0 hw hr ek hWt
  go_enter Tryz.func32, Tryz.ntmps32
  go_wp2_with fail
  refine (HC.out ()).mono ?_
  rintro e w1 ⟨rfl, p1⟩
  have HP := (show Hid _ from p1)
  clear p1 HC a0
  go_wp2_with fail
  go_end0
  exact ⟨rfl, HP.out⟩
/-- What show's Tree answers. -/
def trR (L : List Nd) : ByteArray × Int := if (T.ck L).2 = 0 then lnR (trT (trI L)) else (⟨#[]⟩, (T.ck L).2)
set_option maxRecDepth 100000 in
set_option maxHeartbeats 4000000 in
theorem showTree_any (L : List Nd) (Ap : Option Addr) (cp : Nat) (hL : L.length ≤ 140737488355328) (hT : ∀ n ∈ L, n.tx.size ≤ 140737488355328) (hw : ∀ n ∈ L, NdW n) (w : World) (hWt : WT w) (h0w : 0 < w.heap.size) (hp : T.RdN w Ap L) :
    Calls Tryz.prog 11 #[.slice Ap L.length cp] w fun e w' => e = .returned (.tuple #[.string (trR L).1, .int .i64 (trR L).2]) ∧ Below w.heap.size w w' := by
  have HC : Hid (∀ _ : Unit, Calls Tryz.prog 25 #[.slice Ap L.length cp] w fun e w' => e = .returned (.tuple #[.int .i64 (T.ck L).1, .int .i64 (T.ck L).2]) ∧ Below w.heap.size w w') := fun _ => T.check_any L Ap cp hL hT w hp
  by_cases hc : (T.ck L).2 = 0
  · have hr := T.rt_of hc
    have t0 : ((T.ck L).2 != 0) = false := by rw [hc]; rfl
    obtain ⟨gp, op, rfl, lp, hn⟩ := hp (by rintro rfl; have := rt_pos hr; simp at this)
    have hmf : ∀ (fn : Fn) (first cap : Array Value) (w : World), (Instr.makeFunc fn first cap).run Tryz.prog w = .ok (.func fn first cap) w := fun _ _ _ _ => rfl
    have HE := (show Hid (trR L = lnR (trT (trI L))) from by show trR L = _; unfold trR; rw [if_pos hc])
    have HR := (show Hid (T.Rt L) from hr)
    have HW := (show Hid (∀ n ∈ L, NdW n) from hw)
    have HN := (show Hid (T.NdL w gp op L) from hn)
    have HNe := (show Hid (trT (trI L) ≠ []) from tr_ne hr)
    have HLe := (show Hid ((trT (trI L)).length ≤ 16384000) from tr_big hr hw)
    have HWt := (show Hid (WT w) from hWt)
    clear hr hw hp hc hT hn hWt
    generalize (T.ck L).2 = cc at *
    generalize (T.ck L).1 = c1 at *
    go_enter Tryz.func11, Tryz.ntmps11
    go_wp2_with fail
    refine (HC.out ()).mono ?_
    rintro e w1 ⟨rfl, b1⟩
    have HB1 := (show Hid (Below w.heap.size w w1) from b1)
    have hs1 := b1.size
    have HF := (show Hid (Lib.IsBuilder 59 5 w1.heap.size w1.heap.size (Lib.byteCells []) (w1.alloc (.cells #[.pointer none, .slice none 0 0] 59))) from Lib.fresh_isBuilder 59 5 w1)
    have HNt : Hid (∀ _ : Unit, Calls Tryz.prog 26 #[.slice (some ⟨gp, op, none⟩) L.length cp, telV w1.heap.size] (w1.alloc (.cells #[.pointer none, .slice none 0 0] 59)) fun e w' => (∃ tb, e = .returned (.pointer (some ⟨tb, 0, none⟩)) ∧ Tl w' w1.heap.size tb L gp op cp) ∧ Below (w1.alloc (.cells #[.pointer none, .slice none 0 0] 59)).heap.size (w1.alloc (.cells #[.pointer none, .slice none 0 0] 59)) w') := fun _ =>
      newTeller_any L w1.heap.size gp op cp (by have := HR.out.len; omega) HR.out.each _ (HN.out.same ((b1.alloc b1.size _).block gp lp)) (by omega) (by rw [World.size_alloc]; omega)
    have HWt2 := (show Hid (WT (w1.alloc (.cells #[.pointer none, .slice none 0 0] 59))) from HWt.out.below (b1.alloc b1.size _) h0w)
    clear b1 HC HN HWt
    go_wp2_with fail
    refine (HNt.out ()).mono ?_
    rintro e w2 ⟨⟨tb, rfl, ht⟩, b2⟩
    have HP0 := (show Hid (Pg w1.heap.size (w1.alloc (.cells #[.pointer none, .slice none 0 0] 59)) w2 []) from (Pg.start HF.out).later b2)
    have HPa : Hid (∀ _ : Unit, Calls Tryz.prog 32 #[.pointer (some ⟨tb, 0, none⟩)] w2 fun e W' => e = .returned (.tuple #[]) ∧ Pg w1.heap.size w2 W' (trT (trI L))) := fun _ => tree_any (by omega) HR.out HW.out w2 (HWt2.out.below b2 (by rw [World.size_alloc]; omega)) ht HP0.out.i
    clear ht b2 HNt HF HWt2
    go_wp2_with fail
    refine (HPa.out ()).mono ?_
    rintro e w3 ⟨rfl, p3⟩
    have HP3 := (show Hid (Pg w1.heap.size (w1.alloc (.cells #[.pointer none, .slice none 0 0] 59)) w3 (trT (trI L))) from HP0.out.trans p3)
    have HWh : Hid (∀ _ : Unit, Calls Tryz.prog 29 #[.pointer (some ⟨w1.heap.size, 0, none⟩)] w3 fun e w' => e = .returned (.tuple #[.string (lnR (trT (trI L))).1, .int .i64 (lnR (trT (trI L))).2]) ∧ Below w1.heap.size w3 w') := fun _ => whole_any w1.heap.size _ w3 p3.i HNe.out (by have := HLe.out; omega)
    clear p3 HPa HP0 HR HW
    go_wp2_with fail
    refine (HWh.out ()).mono ?_
    rintro e w4 ⟨rfl, b4⟩
    have HB4 := (show Hid (Below w.heap.size w w4) from (((HB1.out.alloc hs1 (.cells #[.pointer none, .slice none 0 0] 59)).trans (HP3.out.bl.mono hs1)).trans (b4.mono hs1)))
    clear b4 HWh HP3
    go_wp2_with fail
    go_ret2
    exact ⟨by rw [HE.out]; rfl, HB4.out⟩
  · have t0 : ((T.ck L).2 != 0) = true := by rw [bne, beq_eq_false_iff_ne.2 hc]; rfl
    have HE := (show Hid (trR L = (⟨#[]⟩, (T.ck L).2)) from by show trR L = _; unfold trR; rw [if_neg hc])
    clear hp hT hw hc hWt
    generalize (T.ck L).2 = cc at *
    generalize (T.ck L).1 = c1 at *
    go_enter Tryz.func11, Tryz.ntmps11
    go_wp2_with fail
    refine (HC.out ()).mono ?_
    rintro e w1 ⟨rfl, b1⟩
    have HB1 := (show Hid _ from b1)
    clear b1 HC
    go_wp2_with fail
    go_ret2
    exact ⟨by rw [HE.out]; rfl, HB1.out⟩
end Go.Proofs.YtnpifgcgjgddoaaGreatDoor.N

namespace Go.Proofs.YtnpifgcgjgddoaaGreatDoor.N
open Go.RowKit
theorem kdR_pre {L : List Nd} {d : Nat} {ks : List Nat} {i m : Nat} (h : i ≤ m) : ∃ r, kdR L d ks m = kdR L d ks i ++ r := by
  induction m with
  | zero => exact ⟨[], by rw [show i = 0 from by omega]; rfl⟩
  | succ m ih =>
    by_cases q : i = m + 1
    · subst q; exact ⟨[], (List.append_nil _).symm⟩
    · obtain ⟨r, hr⟩ := ih (by omega)
      cases hk : ks[m]? with
      | none => exact ⟨r, by rw [kdR, hk]; exact hr⟩
      | some j => exact ⟨r ++ ddT (d + 1) (enR L j), by rw [kdR_succ hk, hr, List.append_assoc]⟩
/-- A text that is not yet too long. -/
def Xk (x : Option (List UInt8)) : Prop := ∀ l, x = some l → l.length ≤ 65536
theorem Xk.ad (x : Option (List UInt8)) (s : List UInt8) : Xk (adT x s) := by
  intro l hl
  cases x with
  | none => cases hl
  | some t =>
    by_cases h : 65536 < t.length + s.length
    · rw [adT_long h] at hl; cases hl
    · rw [adT_ok h] at hl; cases hl; rw [List.length_append]; omega
theorem adT_nil {x : Option (List UInt8)} (h : Xk x) : adT x [] = x := by
  cases x with
  | none => rfl
  | some l => rw [adT_ok (by have := h l rfl; show ¬ 65536 < l.length + 0; omega), List.append_nil]
theorem adT_more {x : Option (List UInt8)} {a b : List UInt8} (h : adT x a = none) : adT x (a ++ b) = none := by rw [← adT_app, h]; rfl
/-- What the document's tree keeps to. -/
def DTr (L : List Nd) (B tb gp op cp g1 c1 k : Nat) : Prop := ∀ (W : World) (x : Option (List UInt8)) (v : Value) (d : Nat), Xk x → d + k ≤ 2048 → Dt W B tb L gp op cp g1 c1 x → Bf W B x v → Calls Tryz.prog 34 #[.pointer (some ⟨tb, 0, none⟩), v, .int .i64 k, .int .i64 d] W fun e W' => ∃ v', e = .returned v' ∧ Dq W W' B tb L gp op cp g1 c1 (adT x (ddT d (enR L k))) v'
structure Tz (W W' : World) (B tb : Nat) (L : List Nd) (gp op cp g1 c1 : Nat) (x : Option (List UInt8)) (v : Value) (u : Value) (ks : List Nat) : Prop where
  q : Dq W W' B tb L gp op cp g1 c1 x v
  kd : KdF W' tb u ks
theorem Tz.next {W W1 W2 : World} {B tb : Nat} {L : List Nd} {gp op cp g1 c1 : Nat} {x y : Option (List UInt8)} {v v2 : Value} {u : Value} {ks : List Nat} (h : Tz W W1 B tb L gp op cp g1 c1 x v u ks) (h2 : Dq W1 W2 B tb L gp op cp g1 c1 y v2) : Tz W W2 B tb L gp op cp g1 c1 y v2 u ks := ⟨h.q.trans h2, h.kd.keep h2.k⟩
theorem rep_two (i : Nat) : List.replicate (2 * i) (32 : UInt8) ++ [32, 32] = List.replicate (2 * (i + 1)) 32 := by
  rw [show 2 * (i + 1) = 2 * i + 2 from by omega, ← List.replicate_append_replicate]
  rfl
set_option maxRecDepth 100000 in
set_option maxHeartbeats 4000000 in
theorem treeD_of {L : List Nd} {B tb gp op cp g1 c1 k : Nat} {n : Nd} (hn : L[k]? = some n) (hL : L.length ≤ 2048) (he : ∀ i, i < L.length → T.er L i = 0) (hw : NdW n) (hc : ∀ j ∈ kds L k, DTr L B tb gp op cp g1 c1 j) : DTr L B tb gp op cp g1 c1 k := by
  intro W x v d hx hdk hD hF
  have hk : k < L.length := (List.getElem?_eq_some_iff.1 hn).1
  have hal := (T.er_ok hn (he k hk)).al
  have hT := er_text (d := d) hn (fun j hj => he j (by omega))
  have hrl := row_len (x := (d, n)) hal hw (by show d ≤ 2048; omega)
  have hrow : rowT (d, n) = List.replicate (2 * d) 32 ++ (txO (lnT n) ++ ⟨#[10]⟩ : ByteArray).data.toList := by
    rw [cat_list]
    show List.replicate (2 * d) 32 ++ lnT n ++ [10] = _
    rw [List.append_assoc]
    rfl
  have hls : (txO (lnT n)).size ≤ 8000 := by
    rw [hrow, List.length_append, cat_list, List.length_append, dlen] at hrl
    omega
  have HAd := (show Hid (∀ (w' : World) (y : Option (List UInt8)) (vv : Value), Dt w' B tb L gp op cp g1 c1 y → Bf w' B y vv → Calls Tryz.prog 55 #[.pointer (some ⟨tb, 0, none⟩), vv, .string (txO (lnT n) ++ ⟨#[10]⟩)] w' fun e W' => ∃ v', e = .returned v' ∧ Dq w' W' B tb L gp op cp g1 c1 (adT y (txO (lnT n) ++ ⟨#[10]⟩ : ByteArray).data.toList) v') from fun w' y vv hd hf => addD_any _ (by rw [ByteArray.size_append]; show _ + 1 ≤ _; omega) hd hf)
  obtain ⟨TX, hTX⟩ : ∃ TX, TX = (txO (lnT n) ++ ⟨#[10]⟩ : ByteArray).data.toList := ⟨_, rfl⟩
  rw [← hTX] at hrow
  simp only [← hTX] at HAd
  clear hTX
  have HLn : Hid (∀ w, Calls Tryz.prog 56 #[T.ndG n] w fun e w' => e = .returned (.string (txO (lnT n))) ∧ Below w.heap.size w w') := fun w => ln_any hal hw w
  have HKid : Hid (∀ (W' : World) (y : Option (List UInt8)), Dt W' B tb L gp op cp g1 c1 y → Calls Tryz.prog 57 #[.slice (some ⟨gp, op, none⟩) L.length cp, .slice (some ⟨g1, 0, none⟩) L.length c1, .int .i64 k] W'.drew fun e W'' => (∃ u, e = .returned u ∧ KdF W'' tb u (kds L k)) ∧ Below W'.heap.size W' W'') := fun W' y hd => by
    refine (kidsD_any hL hk he hd ((Below.refl _ W').drew)).mono ?_
    rintro e W'' ⟨⟨u, rfl, hu⟩, bl⟩
    exact ⟨⟨u, rfl, hu⟩, ((Below.refl _ W').drew).trans bl⟩
  have hm2 : (kds L k).length ≤ 2 := by rw [kds_len]; exact T.arN_le _
  have HKl := (show Hid (∀ (i j : Nat), (kds L k)[i]? = some j → j + 1 ≤ k ∧ j ∈ kds L k) from fun i j hij => by
    have := List.mem_of_getElem? hij
    exact ⟨kds_lt hn (fun j hj => he j (by omega)) j this, this⟩)
  have HC := (show Hid _ from hc)
  have HX := (show Hid (adT x [] = x) from adT_nil hx)
  have HRow := (show Hid _ from hrow)
  have HTx := (show Hid (∀ m, (kds L k).length = m → ddT d (enR L k) = rowT (d, n) ++ kdR L d (kds L k) m) from fun m e => by rw [← e]; exact hT)
  have HN := (show Hid (∀ W' y, Dt W' B tb L gp op cp g1 c1 y → T.NB W' gp (op + k * 7) n) from fun W' y hd => hd.n k n hn)
  have H0 := (show Hid (Dq W W B tb L gp op cp g1 c1 (adT x (List.replicate (2 * 0) 32)) v) from by
    show Dq W W B tb L gp op cp g1 c1 (adT x []) v
    rw [adT_nil hx]
    exact Dq.start hD hF)
  obtain ⟨A0, n0, k0, rfl, hn0⟩ := hF.n
  have z0 : (0 : Int) ≤ (k : Int) := by omega
  have z1 : (k : Int) < (L.length : Int) := by omega
  have zd : d ≤ 2048 := by omega
  have q1 : ¬ 9223372036854775807 < (txO (lnT n)).size + 1 := by omega
  clear hT hrl hrow hc hD hF hal hw he hn hx
  generalize hks : kds L k = ks at *
  clear hks
  generalize hml : ks.length = m at *
  have HML := (show Hid _ from hml)
  generalize hY : txO (lnT n) = Y at *
  clear hY hml
  go_enter Tryz.func34, Tryz.ntmps34
  go_wp2_with fail
  go_loopw [9, 1] (fun t v wr => ∃ i : Nat, i ≤ d ∧ t = .int .i64 i ∧ (∃ A n c, v = .slice A n c) ∧ Hid (Dq W wr B tb L gp op cp g1 c1 (adT x (List.replicate (2 * i) 32)) v)) (fun t _ _ => d - (intOf t).toNat)
  case atStart => exact ⟨0, by omega, by go_num, ⟨_, _, _, rfl⟩, H0⟩
  case round =>
    obtain ⟨i, hi, rfl, ⟨Ar, nr, kr, rfl⟩, HQ⟩ := hrel
    clear H0
    by_cases hlt : i < d
    · have z2 : (i : Int) < (d : Int) := by omega
      go_wp2_with fail
      refine (addD_any ⟨#[32, 32]⟩ (by decide) HQ.out.d HQ.out.f).mono ?_
      rintro e w2 ⟨v2, rfl, q2⟩
      have HQ2 := (show Hid (Dq W w2 B tb L gp op cp g1 c1 (adT x (List.replicate (2 * (i + 1)) 32)) v2) from by
        have h := HQ.out.trans q2
        rw [adT_app] at h
        rw [← rep_two]
        exact h)
      obtain ⟨A2, n2, k2, rfl, hn2⟩ := q2.f.n
      clear q2 HQ
      go_wp2_with fail
      go_roundw
      case rel => exact ⟨i + 1, by omega, by go_num, ⟨_, _, _, rfl⟩, HQ2⟩
      case measure => simp [intOf]; omega
    · obtain rfl : i = d := by omega
      have z2 : decide ((i : Int) < (i : Int)) = false := decide_eq_false (by omega)
      have a0 := HQ.out.d.c0
      obtain ⟨c0, c1', c2, c3, c4, c5, c6⟩ := HN.out wr _ HQ.out.d
      go_wp2_with fail
      refine (HLn.out _).mono ?_
      rintro e w2 ⟨rfl, b2⟩
      have HQ2 := (show Hid _ from HQ.out.later b2)
      clear b2 HQ HLn HN a0 c0 c1' c2 c3 c4 c5 c6
      go_wp2_with fail
      refine (HAd.out _ _ _ HQ2.out.d HQ2.out.f).mono ?_
      rintro e w3 ⟨v3, rfl, q3⟩
      have HQ3 := (show Hid (Dq W w3 B tb L gp op cp g1 c1 (adT x (rowT (i, n))) v3) from by
        have h := HQ2.out.trans q3
        rw [adT_app, ← HRow.out] at h
        exact h)
      obtain ⟨A3, n3, k3, rfl, hn3⟩ := q3.f.n
      have d0 := HQ3.out.d.c0
      have d1 := HQ3.out.d.c1
      have HK3 : Hid (∀ _ : Unit, Calls Tryz.prog 57 #[.slice (some ⟨gp, op, none⟩) L.length cp, .slice (some ⟨g1, 0, none⟩) L.length c1, .int .i64 k] w3.drew fun e W'' => (∃ u, e = .returned u ∧ Tz W W'' B tb L gp op cp g1 c1 (adT x (rowT (i, n))) (.slice A3 n3 k3) u ks)) := fun _ => by
        refine (HKid.out w3 _ HQ3.out.d).mono ?_
        rintro e W'' ⟨⟨u, rfl, hu⟩, bl⟩
        exact ⟨u, rfl, HQ3.out.later bl, hu⟩
      clear q3 HQ2 HKid HRow HQ3 HAd
      go_wp2_with fail
      go_region_held3 (fun W' => W'.cell? ⟨tb, 0, none⟩ = some (.slice (some ⟨gp, op, none⟩) L.length cp) ∧ W'.cell? ⟨tb, 1, none⟩ = some (.slice (some ⟨g1, 0, none⟩) L.length c1)) (first | go_keep | exact ⟨hz.q.d.c0, hz.q.d.c1⟩ | exact ⟨d0, d1⟩) ((with_reducible refine (HK3.out ()).mono ?_; rintro e wA ⟨u, rfl, hz⟩))
      rename_i hHeld
      obtain ⟨Au, cu, rfl, hu⟩ := hz.kd
      rw [HML.out] at hz ⊢
      have H1 := (show Hid (Tz W wA B tb L gp op cp g1 c1 (adT x (rowT (i, n) ++ kdR L i ks 0)) (.slice A3 n3 k3) (.slice Au m cu) ks) from by
        show Tz W wA B tb L gp op cp g1 c1 (adT x (rowT (i, n) ++ [])) _ _ _
        rw [List.append_nil]
        exact hz)
      clear hHeld hz hu HK3 d0 d1 z2 hlt hi
      go_wp2_with fail
      go_loopw [11, 1] (fun t v wr => ∃ j : Nat, j ≤ m ∧ t = .int .i64 j ∧ (∃ A n c, v = .slice A n c) ∧ Hid (Tz W wr B tb L gp op cp g1 c1 (adT x (rowT (i, n) ++ kdR L i ks j)) v (.slice Au m cu) ks)) (fun t _ _ => m - (intOf t).toNat)
      case atStart => exact ⟨0, by omega, by go_num, ⟨_, _, _, rfl⟩, H1⟩
      case round =>
        obtain ⟨j, hj, rfl, ⟨Ar2, nr2, kr2, rfl⟩, HZ⟩ := hrel
        clear H1
        have e2 := HZ.out.q.d.c2
        by_cases hlt : j < m
        · have z2 : (j : Int) < (m : Int) := by omega
          have z3 : (0 : Int) ≤ (j : Int) := by omega
          cases hy : adT x (rowT (i, n) ++ kdR L i ks j) with
          | none =>
            rw [hy] at e2
            have e2' : wr.cell? ⟨tb, 2, none⟩ = some (.bool true) := e2
            have HF := (show Hid (Dq W wr B tb L gp op cp g1 c1 (adT x (ddT i (enR L k))) (.slice Ar2 nr2 kr2)) from by
              have hle : ∃ r, kdR L i ks m = kdR L i ks j ++ r := kdR_pre (by omega)
              obtain ⟨r, hr⟩ := hle
              have h := HZ.out.q
              rw [hy] at h
              rw [HTx.out m rfl, hr, ← List.append_assoc, adT_more hy]
              exact h)
            clear HZ hy e2
            go_wp2_with fail
            go_ret
            exact ⟨_, rfl, HF.out⟩
          | some l =>
            rw [hy] at e2
            have e2' : wr.cell? ⟨tb, 2, none⟩ = some (.bool false) := e2
            clear e2 hy
            obtain ⟨kk, hkk⟩ : ∃ kk, ks[j]? = some kk := ⟨_, List.getElem?_eq_getElem (by have := HML.out; omega)⟩
            obtain ⟨hlk, hmem⟩ := HKl.out j kk hkk
            obtain ⟨A', c', eq, h⟩ := HZ.out.kd
            obtain ⟨gu, cuu, eg, h1, h2⟩ := h (by rintro rfl; cases hkk)
            rw [eg] at eq
            injection eq with eq1 eq2 eq3
            subst eq1
            have e3 : wr.cell? ⟨gu, j, none⟩ = some (.int .i64 (kk : Int)) := (h1.cell j).trans (h2 j kk hkk)
            have HCj : Hid (∀ _ : Unit, Calls Tryz.prog 34 #[.pointer (some ⟨tb, 0, none⟩), .slice Ar2 nr2 kr2, .int .i64 kk, .int .i64 ((i : Int) + 1)] wr fun e W' => ∃ v', e = .returned v' ∧ Tz W W' B tb L gp op cp g1 c1 (adT x (rowT (i, n) ++ kdR L i ks (j + 1))) v' (.slice (some ⟨gu, 0, none⟩) m cu) ks) := fun _ => by
              refine (HC.out kk hmem wr _ _ (i + 1) (Xk.ad _ _) (by omega) HZ.out.q.d HZ.out.q.f).mono ?_
              rintro e W' ⟨v', rfl, q'⟩
              refine ⟨v', rfl, ?_⟩
              rw [adT_app, List.append_assoc, ← kdR_succ (d := i) hkk] at q'
              exact HZ.out.next q'
            clear h h1 h2 eq2 eq3 hkk hmem HZ eg
            go_wp2_with fail
            refine (HCj.out ()).mono ?_
            rintro e w8 ⟨v8, rfl, q8⟩
            have HZ8 := (show Hid _ from q8)
            obtain ⟨A8, n8, k8, rfl, hn8⟩ := q8.q.f.n
            clear q8 HCj e3 e2'
            go_wp2_with fail
            go_roundw
            case rel => exact ⟨j + 1, by omega, by go_num, ⟨_, _, _, rfl⟩, HZ8⟩
            case measure => simp [intOf]; omega
        · obtain rfl : j = m := by omega
          have z2 : ¬ (j : Int) < (j : Int) := by omega
          have HF := (show Hid (Dq W wr B tb L gp op cp g1 c1 (adT x (ddT i (enR L k))) (.slice Ar2 nr2 kr2)) from by
            rw [HTx.out j rfl]
            exact HZ.out.q)
          clear HZ e2
          go_wp2_with fail
          go_ret
          exact ⟨_, rfl, HF.out⟩
theorem treeD_all {L : List Nd} {B tb gp op cp g1 c1 : Nat} (he : ∀ j, j < L.length → T.er L j = 0) (hw : ∀ n ∈ L, NdW n) (hL : L.length ≤ 2048) : ∀ m k, k < m → k < L.length → DTr L B tb gp op cp g1 c1 k := by
  intro m
  induction m with
  | zero => intro k h; omega
  | succ m ih =>
    intro k h1 h2
    have hn : L[k]? = some L[k] := List.getElem?_eq_getElem h2
    refine treeD_of hn hL he (hw _ (List.getElem_mem h2)) (fun j hj => ?_)
    have := kds_lt hn (fun j hj => he j (by omega)) j hj
    exact ih j (by omega) (by omega)
end Go.Proofs.YtnpifgcgjgddoaaGreatDoor.N

namespace Go.Proofs.YtnpifgcgjgddoaaGreatDoor.N
open Go.RowKit
set_option maxRecDepth 100000 in
set_option maxHeartbeats 4000000 in
theorem treeDR_any (L : List Nd) (Ap : Option Addr) (cp : Nat) (hL : L.length ≤ 140737488355328) (hT : ∀ n ∈ L, n.tx.size ≤ 140737488355328) (hw : ∀ n ∈ L, NdW n) (w : World) (hp : T.RdN w Ap L) :
    Calls Tryz.prog 12 #[.slice Ap L.length cp] w fun e w' => e = .returned (.tuple #[.string (trR L).1, .int .i64 (trR L).2]) ∧ Below w.heap.size w w' := by
  have HC : Hid (∀ _ : Unit, Calls Tryz.prog 30 #[.slice Ap L.length cp] w fun e w' => e = .returned (.tuple #[.int .i64 (T.ck L).1, .int .i64 (T.ck L).2]) ∧ Below w.heap.size w w') := fun _ => T.checkR_any L Ap cp hL hT w hp
  by_cases hc : (T.ck L).2 = 0
  · have hr := T.rt_of hc
    have t0 : ((T.ck L).2 != 0) = false := by rw [hc]; rfl
    obtain ⟨gp, op, rfl, lp, hn⟩ := hp (by rintro rfl; have := rt_pos hr; simp at this)
    have h2 : L.length ≤ 2048 := by have := hr.len; omega
    have h0 := rt_pos hr
    obtain ⟨k, hk⟩ : ∃ k, k + 1 = L.length := ⟨L.length - 1, by omega⟩
    have ek : L.length - 1 = k := by omega
    have es : (L.length : Int) - 1 = (k : Int) := by omega
    have HBg : Hid (∀ w1, Below w.heap.size w w1 → Calls Tryz.prog 33 #[.slice (some ⟨gp, op, none⟩) L.length cp] w1 fun e w' => (∃ g1 c1 cur, e = .returned (.slice (some ⟨g1, 0, none⟩) L.length c1) ∧ w1.heap.size ≤ g1 ∧ w'.heap[g1]? = some (.cells cur 3 (0, 0)) ∧ ∀ i, i < L.length → cur[i]? = some (.int .i64 (T.pt L i).1)) ∧ Below w1.heap.size w1 w') := fun w1 hb => beginsD_any L gp op cp h2 hT hr.each h0 w1 (fun _ => ⟨gp, op, rfl, Nat.lt_of_lt_of_le lp hb.size, hn.same (hb.block gp lp)⟩)
    have HTr := (show Hid (∀ (W' : World) (B tb g1 c1 : Nat), Dt W' B tb L gp op cp g1 c1 (some []) → Bf W' B (some []) (.slice none 0 0) → Calls Tryz.prog 34 #[.pointer (some ⟨tb, 0, none⟩), .slice none 0 0, .int .i64 k, .int .i64 0] W' fun e W'' => ∃ v', e = .returned v' ∧ Dq W' W'' B tb L gp op cp g1 c1 (adT (some []) (trT (trI L))) v') from fun W' B tb g1 c1 hd hff => by
      have h := treeD_all (B := B) (tb := tb) (gp := gp) (op := op) (cp := cp) (g1 := g1) (c1 := c1) hr.each hw h2 (k + 1) k (by omega) (by omega) W' (some []) (.slice none 0 0) 0 (fun l hl => by cases hl; decide) (by omega) hd hff
      rw [ddT_zero] at h
      rw [tr_last h0, ek]
      exact h)
    have HN := (show Hid (∀ w1, Below w.heap.size w w1 → T.NdL w1 gp op L) from fun w1 hb => hn.same (hb.block gp lp))
    have HE := (show Hid (trR L = lnR (trT (trI L))) from by show trR L = _; unfold trR; rw [if_pos hc])
    clear hr hw hp hc hT hn h0 ek
    generalize (T.ck L).2 = cc at *
    generalize (T.ck L).1 = c0 at *
    generalize trT (trI L) = X at *
    by_cases hx : 65536 < X.length
    · have HA := (show Hid (adT (some []) X = none ∧ lnR X = (⟨#[]⟩, 2)) from ⟨adT_long (by show 65536 < 0 + _; omega), by unfold lnR; rw [if_pos hx]⟩)
      rw [HA.out.1] at HTr
      clear hx
      go_enter Tryz.func12, Tryz.ntmps12
      go_wp2_with fail
      refine (HC.out ()).mono ?_
      rintro e w1 ⟨rfl, b1⟩
      have HB1 := (show Hid (Below w.heap.size w w1) from b1)
      clear b1 HC
      go_wp2_with fail
      refine (HBg.out w1 HB1.out).mono ?_
      rintro e w2 ⟨⟨g1, c1, cur, rfl, q1, q2, q3⟩, b2⟩
      have HD := (show Hid _ from tel_new (B := w1.heap.size) (l := []) (v := .slice none 0 0) (cp := cp) (c1 := c1) (HN.out w1 HB1.out) (Nat.lt_of_lt_of_le lp HB1.out.size) (Nat.le_refl _) ⟨fun l hl => by cases hl; exact ⟨World.ownsRow_nil _ _ _ _, by decide⟩, ⟨none, 0, 0, rfl, by decide⟩, [], World.ownsRow_nil _ _ _ _, by decide⟩ q1 q2 q3 b2)
      clear q1 q2 q3 b2 HBg HN
      go_wp2_with fail
      refine (HTr.out _ _ _ _ _ HD.out.1 HD.out.2.1).mono ?_
      rintro e w3 ⟨v', rfl, q⟩
      have e2 := q.d.c2
      have HB3 := (show Hid (Below w.heap.size w w3) from HB1.out.trans ((HD.out.2.2.trans q.bl).mono HB1.out.size))
      obtain ⟨A', n', c', rfl, _⟩ := q.f.n
      clear q HD HTr HB1
      have e2' : w3.cell? ⟨w2.heap.size, 2, none⟩ = some (.bool true) := e2
      clear e2
      go_wp2_with fail
      go_ret2
      exact ⟨by rw [HE.out, HA.out.2]; rfl, HB3.out⟩
    · have HA := (show Hid (adT (some []) X = some X ∧ lnR X = (txO X, 0)) from ⟨adT_ok (by show ¬ 65536 < 0 + _; omega), by unfold lnR; rw [if_neg hx]⟩)
      rw [HA.out.1] at HTr
      have hsz : (txO X).size ≤ 65536 := by rw [← dlen]; show X.toArray.toList.length ≤ _; rw [List.toList_toArray]; omega
      clear hx
      go_enter Tryz.func12, Tryz.ntmps12
      go_wp2_with fail
      refine (HC.out ()).mono ?_
      rintro e w1 ⟨rfl, b1⟩
      have HB1 := (show Hid (Below w.heap.size w w1) from b1)
      clear b1 HC
      go_wp2_with fail
      refine (HBg.out w1 HB1.out).mono ?_
      rintro e w2 ⟨⟨g1, c1, cur, rfl, q1, q2, q3⟩, b2⟩
      have HD := (show Hid _ from tel_new (B := w1.heap.size) (l := []) (v := .slice none 0 0) (cp := cp) (c1 := c1) (HN.out w1 HB1.out) (Nat.lt_of_lt_of_le lp HB1.out.size) (Nat.le_refl _) ⟨fun l hl => by cases hl; exact ⟨World.ownsRow_nil _ _ _ _, by decide⟩, ⟨none, 0, 0, rfl, by decide⟩, [], World.ownsRow_nil _ _ _ _, by decide⟩ q1 q2 q3 b2)
      clear q1 q2 q3 b2 HBg HN
      go_wp2_with fail
      refine (HTr.out _ _ _ _ _ HD.out.1 HD.out.2.1).mono ?_
      rintro e w3 ⟨v', rfl, q⟩
      have e2 := q.d.c2
      have HB3 := (show Hid (Below w.heap.size w w3) from HB1.out.trans ((HD.out.2.2.trans q.bl).mono HB1.out.size))
      have hct := text_bytes (q.f.s X rfl).1
      obtain ⟨A', n', c', rfl, _⟩ := q.f.n
      clear q HD HTr HB1
      have e2' : w3.cell? ⟨w2.heap.size, 2, none⟩ = some (.bool false) := e2
      clear e2
      generalize txO X = Y at *
      go_wp2_with fail
      go_ret2
      exact ⟨by rw [HE.out, HA.out.2]; rfl, HB3.out⟩
  · have t0 : ((T.ck L).2 != 0) = true := by rw [bne, beq_eq_false_iff_ne.2 hc]; rfl
    have HE := (show Hid (trR L = (⟨#[]⟩, (T.ck L).2)) from by show trR L = _; unfold trR; rw [if_neg hc])
    clear hp hT hw hc
    generalize (T.ck L).2 = cc at *
    generalize (T.ck L).1 = c1 at *
    go_enter Tryz.func12, Tryz.ntmps12
    go_wp2_with fail
    refine (HC.out ()).mono ?_
    rintro e w1 ⟨rfl, b1⟩
    have HB1 := (show Hid _ from b1)
    clear b1 HC
    go_wp2_with fail
    go_ret2
    exact ⟨by rw [HE.out]; rfl, HB1.out⟩
end Go.Proofs.YtnpifgcgjgddoaaGreatDoor.N

namespace Go.Proofs.YtnpifgcgjgddoaaGreatDoor.N
open Go.RowKit
theorem nw_z {n : Nd} (h : n.s0 = 0 ∧ n.s1 = 0 ∧ n.s2 = 0 ∧ n.s3 = 0) : NdW n := by
  obtain ⟨a, b, c, d⟩ := h
  exact ⟨by omega, by omega, by omega, by omega⟩
end Go.Proofs.YtnpifgcgjgddoaaGreatDoor.N
