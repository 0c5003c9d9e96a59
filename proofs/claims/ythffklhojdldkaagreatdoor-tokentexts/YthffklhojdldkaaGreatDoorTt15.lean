/- DERIVED. Plain mathematics and walks, laid together (15). -/
import Derived.Deep.RegionHeld3
import Derived.Test.YthffklhojdldkaaGreatDoorTt14
namespace Go.Proofs.YthffklhojdldkaaGreatDoor
open Go.RowKit
set_option maxRecDepth 100000 in
set_option maxHeartbeats 4000000 in
theorem tt_1 (kd nn fr en s0 s1 s2 s3 : Int) (tx : ByteArray) (h : kd = 1) (w : World) : Calls Tryz.prog 21 #[.agg #[.int .i64 kd, .int .i64 nn, .int .i64 fr, .int .i64 en, .string tx, .int .u64 s0, .int .u64 s1, .int .u64 s2, .int .u64 s3]] w fun e w' => e = .returned (.string (tx)) ∧ Below w.heap.size w w' := by
  have f1 : (kd == 1) = true := by rw [h]; rfl
  clear h
  go_enter Tryz.func21, Tryz.ntmps21
  go_wp2_with fail
  go_ret
  exact ⟨rfl, below_box _ _⟩
set_option maxRecDepth 100000 in
set_option maxHeartbeats 4000000 in
theorem tt_21 (kd nn fr en s0 s1 s2 s3 : Int) (tx : ByteArray) (h : kd = 21) (hs : tx.size ≤ 255) (w : World) : Calls Tryz.prog 21 #[.agg #[.int .i64 kd, .int .i64 nn, .int .i64 fr, .int .i64 en, .string tx, .int .u64 s0, .int .u64 s1, .int .u64 s2, .int .u64 s3]] w fun e w' => e = .returned (.string (⟨#[123, 58]⟩ ++ gnm tx)) ∧ Below w.heap.size w w' := by
  have f1 : (kd == 1) = false := beq_eq_false_iff_ne.2 (by omega)
  have f21 : (kd == 21) = true := by rw [h]; rfl
  clear h
  by_cases h0 : 0 < tx.size
  · have e0 := ne_emp h0
    have HE : Hid (gnm tx = tx ++ ⟨#[58]⟩) := by show _ = _; unfold gnm; rw [if_neg (by omega)]
    go_enter Tryz.func21, Tryz.ntmps21
    go_wp2_with fail
    go_ret
    exact ⟨ret_str (by rw [HE.out]; apply ByteArray.ext; simp), below_box _ _⟩
  · obtain rfl := emp_of h0
    clear h0 hs
    go_enter Tryz.func21, Tryz.ntmps21
    go_wp2_with fail
    go_ret
    exact ⟨rfl, below_box _ _⟩
set_option maxRecDepth 100000 in
set_option maxHeartbeats 4000000 in
theorem tt_2 (kd nn fr en s0 s1 s2 s3 : Int) (tx : ByteArray) (h : kd = 2) (hs : tx.size ≤ 255) (w : World) : Calls Tryz.prog 21 #[.agg #[.int .i64 kd, .int .i64 nn, .int .i64 fr, .int .i64 en, .string tx, .int .u64 s0, .int .u64 s1, .int .u64 s2, .int .u64 s3]] w fun e w' => e = .returned (.string (Q.asText (Q.qT tx))) ∧ Below w.heap.size w w' := by
  have f1 : (kd == 1) = false := beq_eq_false_iff_ne.2 (by omega)
  have f21 : (kd == 21) = false := beq_eq_false_iff_ne.2 (by omega)
  have f2 : (kd == 2) = true := by rw [h]; rfl
  have HC : Hid (∀ w, Calls Tryz.prog 42 #[.string tx] w fun e w' => e = .returned (.string (Q.asText (Q.qT tx))) ∧ Below w.heap.size w w') := fun w => literal_any tx hs w
  clear h
  go_enter Tryz.func21, Tryz.ntmps21
  go_wp2_with fail
  refine (HC.out _).mono ?_
  rintro e w1 ⟨rfl, hb⟩
  have HB := (show Hid (Below w.heap.size w w1) from (below_box w _).trans (hb.mono (by simp)))
  clear hb
  go_wp2_with fail
  go_ret
  exact ⟨rfl, HB.out⟩
set_option maxRecDepth 100000 in
set_option maxHeartbeats 4000000 in
theorem tt_3 (kd nn fr en s0 s1 s2 s3 : Int) (tx : ByteArray) (h : kd = 3) (x : BitVec 256) (x0 : wd x 0 = s0) (x1 : wd x 1 = s1) (x2 : wd x 2 = s2) (x3 : wd x 3 = s3) (w : World) : Calls Tryz.prog 21 #[.agg #[.int .i64 kd, .int .i64 nn, .int .i64 fr, .int .i64 en, .string tx, .int .u64 s0, .int .u64 s1, .int .u64 s2, .int .u64 s3]] w fun e w' => e = .returned (.string (txO (shT x))) ∧ Below w.heap.size w w' := by
  have f1 : (kd == 1) = false := beq_eq_false_iff_ne.2 (by omega)
  have f21 : (kd == 21) = false := beq_eq_false_iff_ne.2 (by omega)
  have f2 : (kd == 2) = false := beq_eq_false_iff_ne.2 (by omega)
  have f3 : (kd == 3) = true := by rw [h]; rfl
  have HC : Hid (∀ w, Calls Tryz.prog 43 #[.agg #[.int .u64 s0, .int .u64 s1, .int .u64 s2, .int .u64 s3]] w fun e w' => e = .returned (.string (txO (shT x))) ∧ Below w.heap.size w w') := fun w => by rw [← x0, ← x1, ← x2, ← x3]; exact showR_any x w
  clear h
  clear x0 x1 x2 x3
  generalize txO (shT x) = A at *
  go_enter Tryz.func21, Tryz.ntmps21
  go_wp2_with fail
  refine (HC.out _).mono ?_
  rintro e w1 ⟨rfl, hb⟩
  have HB := (show Hid (Below w.heap.size w w1) from (below_box w _).trans (hb.mono (by simp)))
  clear hb
  go_wp2_with fail
  go_ret
  exact ⟨rfl, HB.out⟩
set_option maxRecDepth 100000 in
set_option maxHeartbeats 4000000 in
theorem tt_28 (kd nn fr en s0 s1 s2 s3 : Int) (tx : ByteArray) (h : kd = 28) (hs : tx.size ≤ 255) (w : World) : Calls Tryz.prog 21 #[.agg #[.int .i64 kd, .int .i64 nn, .int .i64 fr, .int .i64 en, .string tx, .int .u64 s0, .int .u64 s1, .int .u64 s2, .int .u64 s3]] w fun e w' => e = .returned (.string (⟨#[37]⟩ ++ tx)) ∧ Below w.heap.size w w' := by
  have f1 : (kd == 1) = false := beq_eq_false_iff_ne.2 (by omega)
  have f21 : (kd == 21) = false := beq_eq_false_iff_ne.2 (by omega)
  have f2 : (kd == 2) = false := beq_eq_false_iff_ne.2 (by omega)
  have f3 : (kd == 3) = false := beq_eq_false_iff_ne.2 (by omega)
  have f28 : (kd == 28) = true := by rw [h]; rfl
  clear h
  go_enter Tryz.func21, Tryz.ntmps21
  go_wp2_with fail
  go_ret
  exact ⟨rfl, below_box _ _⟩
set_option maxRecDepth 100000 in
set_option maxHeartbeats 4000000 in
theorem tt_5 (kd nn fr en s0 s1 s2 s3 : Int) (tx : ByteArray) (a b : Nat) (h : kd = 5) (hn : nn = a) (h0 : s0 = b) (ha : a ≤ 1114111) (hb : b ≤ 1114111) (w : World) : Calls Tryz.prog 21 #[.agg #[.int .i64 kd, .int .i64 nn, .int .i64 fr, .int .i64 en, .string tx, .int .u64 s0, .int .u64 s1, .int .u64 s2, .int .u64 s3]] w fun e w' => e = .returned (.string (rnT a b)) ∧ Below w.heap.size w w' := by
  have f1 : (kd == 1) = false := beq_eq_false_iff_ne.2 (by omega)
  have f21 : (kd == 21) = false := beq_eq_false_iff_ne.2 (by omega)
  have f2 : (kd == 2) = false := beq_eq_false_iff_ne.2 (by omega)
  have f3 : (kd == 3) = false := beq_eq_false_iff_ne.2 (by omega)
  have f28 : (kd == 28) = false := beq_eq_false_iff_ne.2 (by omega)
  have f5 : (kd == 5) = true := by rw [h]; rfl
  have HC : Hid (∀ w, Calls Tryz.prog 44 #[.int .i64 (a : Int), .int .i64 16] w fun e w' => e = .returned (.string (txO (dgT 16 a))) ∧ w' = w) := fun w => whole16_any a ha w
  have HD : Hid (∀ w, Calls Tryz.prog 44 #[.int .i64 (b : Int), .int .i64 16] w fun e w' => e = .returned (.string (txO (dgT 16 b))) ∧ w' = w) := fun w => whole16_any b hb w
  have hla : (txO (dgT 16 a)).size ≤ 6 := by rw [txO_size]; exact dgT_len 16 (by omega) 5 a (by omega)
  have hlb : (txO (dgT 16 b)).size ≤ 6 := by rw [txO_size]; exact dgT_len 16 (by omega) 5 b (by omega)
  have hw : IntKind.i64.wrap (b : Int) = (b : Int) := by rw [IntKind.wrap_i64]; omega
  have HE : Hid (rnT a b = ⟨#[37, 117, 123]⟩ ++ txO (dgT 16 a) ++ ⟨#[45]⟩ ++ txO (dgT 16 b) ++ ⟨#[125]⟩) := rfl
  subst hn h0
  have HT := (show Hid _ from TX.new w ⟨kd, a, fr, en, tx, b, s1, s2, s3⟩)
  have c1 := HT.out.cells.c1
  have c5 := HT.out.cells.c5
  dsimp only at c1 c5
  clear h ha hb HT
  generalize txO (dgT 16 a) = A at *
  generalize txO (dgT 16 b) = B at *
  have k1 : ¬ 9223372036854775807 < 3 + A.size := by omega
  have k2 : ¬ 9223372036854775807 < 3 + A.size + 1 := by omega
  have k3 : ¬ 9223372036854775807 < 3 + A.size + 1 + B.size := by omega
  have k4 : ¬ 9223372036854775807 < 3 + A.size + 1 + B.size + 1 := by omega
  go_enter Tryz.func21, Tryz.ntmps21
  go_wp2_with fail
  go_region_held3 (fun w' => w'.cell? ⟨w.heap.size, 1, none⟩ = some (.int .i64 (a : Int)) ∧ w'.cell? ⟨w.heap.size, 5, none⟩ = some (.int .u64 (b : Int))) (first | go_keep | exact ⟨c1, c5⟩) (first | (go_at_call 44; with_reducible refine (HC.out _).mono ?_; rintro e w' ⟨rfl, rfl⟩) | (go_at_call 44; with_reducible refine (HD.out _).mono ?_; rintro e w' ⟨rfl, rfl⟩))
  all_goals
    go_wp2_with fail
    go_ret
    exact ⟨ret_str (by rw [HE.out]), (below_box _ _).drew⟩
set_option maxRecDepth 100000 in
set_option maxHeartbeats 4000000 in
theorem tt_4 (kd nn fr en s0 s1 s2 s3 : Int) (tx : ByteArray) (a : Nat) (h : kd = 4) (hn : nn = a) (ha : a ≤ 999999) (w : World) : Calls Tryz.prog 21 #[.agg #[.int .i64 kd, .int .i64 nn, .int .i64 fr, .int .i64 en, .string tx, .int .u64 s0, .int .u64 s1, .int .u64 s2, .int .u64 s3]] w fun e w' => e = .returned (.string (txO (dgT 10 a))) ∧ Below w.heap.size w w' := by
  have f1 : (kd == 1) = false := beq_eq_false_iff_ne.2 (by omega)
  have f21 : (kd == 21) = false := beq_eq_false_iff_ne.2 (by omega)
  have f2 : (kd == 2) = false := beq_eq_false_iff_ne.2 (by omega)
  have f3 : (kd == 3) = false := beq_eq_false_iff_ne.2 (by omega)
  have f28 : (kd == 28) = false := beq_eq_false_iff_ne.2 (by omega)
  have f5 : (kd == 5) = false := beq_eq_false_iff_ne.2 (by omega)
  have f4 : (kd == 4) = true := by rw [h]; rfl
  have HC : Hid (∀ w, Calls Tryz.prog 44 #[.int .i64 (a : Int), .int .i64 10] w fun e w' => e = .returned (.string (txO (dgT 10 a))) ∧ w' = w) := fun w => whole10_any a (by omega) w
  have hla : (txO (dgT 10 a)).size ≤ 6 := by rw [txO_size]; exact dgT_len 10 (by omega) 5 a (by omega)
  subst hn
  clear h ha
  generalize txO (dgT 10 a) = A at *
  go_enter Tryz.func21, Tryz.ntmps21
  go_wp2_with fail
  refine (HC.out _).mono ?_
  rintro e w1 ⟨rfl, rfl⟩
  go_wp2_with fail
  go_ret
  exact ⟨rfl, below_box _ _⟩
set_option maxRecDepth 100000 in
set_option maxHeartbeats 4000000 in
theorem tt_13 (kd nn fr en s0 s1 s2 s3 : Int) (tx : ByteArray) (a : Nat) (h : kd = 13) (hn : nn = a) (ha : a ≤ 999999) (w : World) : Calls Tryz.prog 21 #[.agg #[.int .i64 kd, .int .i64 nn, .int .i64 fr, .int .i64 en, .string tx, .int .u64 s0, .int .u64 s1, .int .u64 s2, .int .u64 s3]] w fun e w' => e = .returned (.string (⟨#[94]⟩ ++ txO (dgT 10 a))) ∧ Below w.heap.size w w' := by
  have f1 : (kd == 1) = false := beq_eq_false_iff_ne.2 (by omega)
  have f21 : (kd == 21) = false := beq_eq_false_iff_ne.2 (by omega)
  have f2 : (kd == 2) = false := beq_eq_false_iff_ne.2 (by omega)
  have f3 : (kd == 3) = false := beq_eq_false_iff_ne.2 (by omega)
  have f28 : (kd == 28) = false := beq_eq_false_iff_ne.2 (by omega)
  have f5 : (kd == 5) = false := beq_eq_false_iff_ne.2 (by omega)
  have f4 : (kd == 4) = false := beq_eq_false_iff_ne.2 (by omega)
  have f13 : (kd == 13) = true := by rw [h]; rfl
  have HC : Hid (∀ w, Calls Tryz.prog 44 #[.int .i64 (a : Int), .int .i64 10] w fun e w' => e = .returned (.string (txO (dgT 10 a))) ∧ w' = w) := fun w => whole10_any a (by omega) w
  have hla : (txO (dgT 10 a)).size ≤ 6 := by rw [txO_size]; exact dgT_len 10 (by omega) 5 a (by omega)
  subst hn
  clear h ha
  generalize txO (dgT 10 a) = A at *
  go_enter Tryz.func21, Tryz.ntmps21
  go_wp2_with fail
  refine (HC.out _).mono ?_
  rintro e w1 ⟨rfl, rfl⟩
  go_wp2_with fail
  go_ret
  exact ⟨rfl, below_box _ _⟩
set_option maxRecDepth 100000 in
set_option maxHeartbeats 4000000 in
theorem tt_14 (kd nn fr en s0 s1 s2 s3 : Int) (tx : ByteArray) (a : Nat) (h : kd = 14) (hn : nn = a) (ha : a ≤ 999999) (w : World) : Calls Tryz.prog 21 #[.agg #[.int .i64 kd, .int .i64 nn, .int .i64 fr, .int .i64 en, .string tx, .int .u64 s0, .int .u64 s1, .int .u64 s2, .int .u64 s3]] w fun e w' => e = .returned (.string (⟨#[94, 43]⟩ ++ txO (dgT 10 a))) ∧ Below w.heap.size w w' := by
  have f1 : (kd == 1) = false := beq_eq_false_iff_ne.2 (by omega)
  have f21 : (kd == 21) = false := beq_eq_false_iff_ne.2 (by omega)
  have f2 : (kd == 2) = false := beq_eq_false_iff_ne.2 (by omega)
  have f3 : (kd == 3) = false := beq_eq_false_iff_ne.2 (by omega)
  have f28 : (kd == 28) = false := beq_eq_false_iff_ne.2 (by omega)
  have f5 : (kd == 5) = false := beq_eq_false_iff_ne.2 (by omega)
  have f4 : (kd == 4) = false := beq_eq_false_iff_ne.2 (by omega)
  have f13 : (kd == 13) = false := beq_eq_false_iff_ne.2 (by omega)
  have f14 : (kd == 14) = true := by rw [h]; rfl
  have HC : Hid (∀ w, Calls Tryz.prog 44 #[.int .i64 (a : Int), .int .i64 10] w fun e w' => e = .returned (.string (txO (dgT 10 a))) ∧ w' = w) := fun w => whole10_any a (by omega) w
  have hla : (txO (dgT 10 a)).size ≤ 6 := by rw [txO_size]; exact dgT_len 10 (by omega) 5 a (by omega)
  subst hn
  clear h ha
  generalize txO (dgT 10 a) = A at *
  go_enter Tryz.func21, Tryz.ntmps21
  go_wp2_with fail
  refine (HC.out _).mono ?_
  rintro e w1 ⟨rfl, rfl⟩
  go_wp2_with fail
  go_ret
  exact ⟨rfl, below_box _ _⟩
set_option maxRecDepth 100000 in
set_option maxHeartbeats 4000000 in
theorem tt_15 (kd nn fr en s0 s1 s2 s3 : Int) (tx : ByteArray) (a : Nat) (h : kd = 15) (hn : nn = a) (ha : a ≤ 999999) (w : World) : Calls Tryz.prog 21 #[.agg #[.int .i64 kd, .int .i64 nn, .int .i64 fr, .int .i64 en, .string tx, .int .u64 s0, .int .u64 s1, .int .u64 s2, .int .u64 s3]] w fun e w' => e = .returned (.string (⟨#[94, 45]⟩ ++ txO (dgT 10 a))) ∧ Below w.heap.size w w' := by
  have f1 : (kd == 1) = false := beq_eq_false_iff_ne.2 (by omega)
  have f21 : (kd == 21) = false := beq_eq_false_iff_ne.2 (by omega)
  have f2 : (kd == 2) = false := beq_eq_false_iff_ne.2 (by omega)
  have f3 : (kd == 3) = false := beq_eq_false_iff_ne.2 (by omega)
  have f28 : (kd == 28) = false := beq_eq_false_iff_ne.2 (by omega)
  have f5 : (kd == 5) = false := beq_eq_false_iff_ne.2 (by omega)
  have f4 : (kd == 4) = false := beq_eq_false_iff_ne.2 (by omega)
  have f13 : (kd == 13) = false := beq_eq_false_iff_ne.2 (by omega)
  have f14 : (kd == 14) = false := beq_eq_false_iff_ne.2 (by omega)
  have f15 : (kd == 15) = true := by rw [h]; rfl
  have HC : Hid (∀ w, Calls Tryz.prog 44 #[.int .i64 (a : Int), .int .i64 10] w fun e w' => e = .returned (.string (txO (dgT 10 a))) ∧ w' = w) := fun w => whole10_any a (by omega) w
  have hla : (txO (dgT 10 a)).size ≤ 6 := by rw [txO_size]; exact dgT_len 10 (by omega) 5 a (by omega)
  subst hn
  clear h ha
  generalize txO (dgT 10 a) = A at *
  go_enter Tryz.func21, Tryz.ntmps21
  go_wp2_with fail
  refine (HC.out _).mono ?_
  rintro e w1 ⟨rfl, rfl⟩
  go_wp2_with fail
  go_ret
  exact ⟨rfl, below_box _ _⟩
set_option maxRecDepth 100000 in
set_option maxHeartbeats 4000000 in
theorem tt_29 (kd nn fr en s0 s1 s2 s3 : Int) (tx : ByteArray) (h : kd = 29) (w : World) : Calls Tryz.prog 21 #[.agg #[.int .i64 kd, .int .i64 nn, .int .i64 fr, .int .i64 en, .string tx, .int .u64 s0, .int .u64 s1, .int .u64 s2, .int .u64 s3]] w fun e w' => e = .returned (.string (⟨#[37, 101]⟩)) ∧ Below w.heap.size w w' := by
  have f1 : (kd == 1) = false := beq_eq_false_iff_ne.2 (by omega)
  have f21 : (kd == 21) = false := beq_eq_false_iff_ne.2 (by omega)
  have f2 : (kd == 2) = false := beq_eq_false_iff_ne.2 (by omega)
  have f3 : (kd == 3) = false := beq_eq_false_iff_ne.2 (by omega)
  have f28 : (kd == 28) = false := beq_eq_false_iff_ne.2 (by omega)
  have f5 : (kd == 5) = false := beq_eq_false_iff_ne.2 (by omega)
  have f4 : (kd == 4) = false := beq_eq_false_iff_ne.2 (by omega)
  have f13 : (kd == 13) = false := beq_eq_false_iff_ne.2 (by omega)
  have f14 : (kd == 14) = false := beq_eq_false_iff_ne.2 (by omega)
  have f15 : (kd == 15) = false := beq_eq_false_iff_ne.2 (by omega)
  have f29 : (kd == 29) = true := by rw [h]; rfl
  clear h
  go_enter Tryz.func21, Tryz.ntmps21
  go_wp2_with fail
  go_ret
  exact ⟨rfl, below_box _ _⟩
set_option maxRecDepth 100000 in
set_option maxHeartbeats 4000000 in
theorem tt_30 (kd nn fr en s0 s1 s2 s3 : Int) (tx : ByteArray) (h : kd = 30) (w : World) : Calls Tryz.prog 21 #[.agg #[.int .i64 kd, .int .i64 nn, .int .i64 fr, .int .i64 en, .string tx, .int .u64 s0, .int .u64 s1, .int .u64 s2, .int .u64 s3]] w fun e w' => e = .returned (.string (⟨#[37, 102]⟩)) ∧ Below w.heap.size w w' := by
  have f1 : (kd == 1) = false := beq_eq_false_iff_ne.2 (by omega)
  have f21 : (kd == 21) = false := beq_eq_false_iff_ne.2 (by omega)
  have f2 : (kd == 2) = false := beq_eq_false_iff_ne.2 (by omega)
  have f3 : (kd == 3) = false := beq_eq_false_iff_ne.2 (by omega)
  have f28 : (kd == 28) = false := beq_eq_false_iff_ne.2 (by omega)
  have f5 : (kd == 5) = false := beq_eq_false_iff_ne.2 (by omega)
  have f4 : (kd == 4) = false := beq_eq_false_iff_ne.2 (by omega)
  have f13 : (kd == 13) = false := beq_eq_false_iff_ne.2 (by omega)
  have f14 : (kd == 14) = false := beq_eq_false_iff_ne.2 (by omega)
  have f15 : (kd == 15) = false := beq_eq_false_iff_ne.2 (by omega)
  have f29 : (kd == 29) = false := beq_eq_false_iff_ne.2 (by omega)
  have f30 : (kd == 30) = true := by rw [h]; rfl
  clear h
  go_enter Tryz.func21, Tryz.ntmps21
  go_wp2_with fail
  go_ret
  exact ⟨rfl, below_box _ _⟩
set_option maxRecDepth 100000 in
set_option maxHeartbeats 4000000 in
theorem tt_no (kd nn fr en s0 s1 s2 s3 : Int) (tx : ByteArray) (k : Nat) (hk : kd = k) (h1 : 1 ≤ k) (h2 : k ≤ 30) (n1 : ¬ kd = 1) (n21 : ¬ kd = 21) (n2 : ¬ kd = 2) (n3 : ¬ kd = 3) (n28 : ¬ kd = 28) (n5 : ¬ kd = 5) (n4 : ¬ kd = 4) (n13 : ¬ kd = 13) (n14 : ¬ kd = 14) (n15 : ¬ kd = 15) (n29 : ¬ kd = 29) (n30 : ¬ kd = 30) (w : World) : Calls Tryz.prog 21 #[.agg #[.int .i64 kd, .int .i64 nn, .int .i64 fr, .int .i64 en, .string tx, .int .u64 s0, .int .u64 s1, .int .u64 s2, .int .u64 s3]] w fun e w' => e = .returned (.string (txO (sgn k))) ∧ Below w.heap.size w w' := by
  have f1 : (kd == 1) = false := beq_eq_false_iff_ne.2 n1
  have f21 : (kd == 21) = false := beq_eq_false_iff_ne.2 n21
  have f2 : (kd == 2) = false := beq_eq_false_iff_ne.2 n2
  have f3 : (kd == 3) = false := beq_eq_false_iff_ne.2 n3
  have f28 : (kd == 28) = false := beq_eq_false_iff_ne.2 n28
  have f5 : (kd == 5) = false := beq_eq_false_iff_ne.2 n5
  have f4 : (kd == 4) = false := beq_eq_false_iff_ne.2 n4
  have f13 : (kd == 13) = false := beq_eq_false_iff_ne.2 n13
  have f14 : (kd == 14) = false := beq_eq_false_iff_ne.2 n14
  have f15 : (kd == 15) = false := beq_eq_false_iff_ne.2 n15
  have f29 : (kd == 29) = false := beq_eq_false_iff_ne.2 n29
  have f30 : (kd == 30) = false := beq_eq_false_iff_ne.2 n30
  have HC : Hid (∀ w, Calls Tryz.prog 33 #[.int .i64 kd] w fun e w' => e = .returned (.string (txO (sgn k))) ∧ Below w.heap.size w w') := fun w => by rw [hk]; exact sign_in k h1 h2 w
  clear n1 n21 n2 n3 n28 n5 n4 n13 n14 n15 n29 n30 hk h1 h2
  generalize txO (sgn k) = A at *
  go_enter Tryz.func21, Tryz.ntmps21
  go_wp2_with fail
  refine (HC.out _).mono ?_
  rintro e w1 ⟨rfl, hb⟩
  have HB := (show Hid (Below w.heap.size w w1) from (below_box w _).trans (hb.mono (by simp)))
  clear hb
  go_wp2_with fail
  go_ret
  exact ⟨rfl, HB.out⟩
theorem gtK_le (k : Int) : gtK k ≤ 999999 := by unfold gtK; (repeat' split) <;> omega
theorem text_any (t : Tk) (hr : riF t = true) (hb : TkB t) (w : World) : Calls Tryz.prog 21 #[tkG t] w fun e w' => e = .returned (.string (tkX t)) ∧ Below w.heap.size w w' := by
  obtain ⟨h1, h2, h3, h4, h5, h6⟩ := ri_nat hr
  have hs := txF_len h3
  obtain ⟨u0, u1, u2, u3, u4⟩ := (show _ from (⟨hb.u0, hb.u1, hb.u2, hb.u3, hb.u4⟩ : 0 ≤ t.s0 ∧ t.s0 < 18446744073709551616 ∧ (0 ≤ t.s1 ∧ t.s1 < 18446744073709551616) ∧ (0 ≤ t.s2 ∧ t.s2 < 18446744073709551616) ∧ (0 ≤ t.s3 ∧ t.s3 < 18446744073709551616)))
  obtain ⟨kd, nn, fr, en, tx, s0, s1, s2, s3⟩ := t
  unfold tkX tkG
  dsimp only at *
  clear hr hb
  by_cases n1 : kd = 1
  · rw [if_pos n1]; exact tt_1 _ _ _ _ _ _ _ _ _ n1 w
  rw [if_neg n1]
  by_cases n21 : kd = 21
  · rw [if_pos n21]; exact tt_21 _ _ _ _ _ _ _ _ _ n21 hs w
  rw [if_neg n21]
  by_cases n2 : kd = 2
  · rw [if_pos n2]; exact tt_2 _ _ _ _ _ _ _ _ _ n2 hs w
  rw [if_neg n2]
  by_cases n3 : kd = 3
  · rw [if_pos n3]; obtain ⟨x0, x1, x2, x3⟩ := mkS_wd s0 s1 s2 s3 ⟨u0, u1⟩ u2 u3 u4; exact tt_3 _ _ _ _ _ _ _ _ _ n3 _ x0 x1 x2 x3 w
  rw [if_neg n3]
  by_cases n28 : kd = 28
  · rw [if_pos n28]; exact tt_28 _ _ _ _ _ _ _ _ _ n28 hs w
  rw [if_neg n28]
  by_cases n5 : kd = 5
  · rw [if_pos n5]; rw [if_pos n5] at h5; have h7 := set5_le n5 h6; exact tt_5 _ _ _ _ _ _ _ _ _ nn.toNat s0.toNat n5 (by omega) (by omega) (by omega) (by omega) w
  rw [if_neg n5]
  by_cases n4 : kd = 4
  · rw [if_pos n4]; rw [if_neg n5] at h5; have h7 : gtK kd ≤ 999999 := gtK_le kd; exact tt_4 _ _ _ _ _ _ _ _ _ nn.toNat n4 (by omega) (by omega) w
  rw [if_neg n4]
  by_cases n13 : kd = 13
  · rw [if_pos n13]; rw [if_neg n5] at h5; have h7 : gtK kd ≤ 999999 := gtK_le kd; exact tt_13 _ _ _ _ _ _ _ _ _ nn.toNat n13 (by omega) (by omega) w
  rw [if_neg n13]
  by_cases n14 : kd = 14
  · rw [if_pos n14]; rw [if_neg n5] at h5; have h7 : gtK kd ≤ 999999 := gtK_le kd; exact tt_14 _ _ _ _ _ _ _ _ _ nn.toNat n14 (by omega) (by omega) w
  rw [if_neg n14]
  by_cases n15 : kd = 15
  · rw [if_pos n15]; rw [if_neg n5] at h5; have h7 : gtK kd ≤ 999999 := gtK_le kd; exact tt_15 _ _ _ _ _ _ _ _ _ nn.toNat n15 (by omega) (by omega) w
  rw [if_neg n15]
  by_cases n29 : kd = 29
  · rw [if_pos n29]; exact tt_29 _ _ _ _ _ _ _ _ _ n29 w
  rw [if_neg n29]
  by_cases n30 : kd = 30
  · rw [if_pos n30]; exact tt_30 _ _ _ _ _ _ _ _ _ n30 w
  rw [if_neg n30]
  exact tt_no _ _ _ _ _ _ _ _ _ kd.toNat (by omega) (by omega) (by omega) n1 n21 n2 n3 n28 n5 n4 n13 n14 n15 n29 n30 w
end Go.Proofs.YthffklhojdldkaaGreatDoor

namespace Go.Proofs.YthffklhojdldkaaGreatDoor
open Go.RowKit
theorem showP_any (t : Tk) (hr : riF t = true) (hb : TkB t) (w : World) (hg : GW w) : Calls Tryz.prog 18 #[tkG t] w fun e w' => e = .returned (.string (tkX t)) ∧ Below w.heap.size w w' := by
  obtain ⟨h1, h2, h3, h4, h5, h6⟩ := ri_nat hr
  have hs := txF_len h3
  have u0 := hb.u0
  have u1 := hb.u1
  have u2 := hb.u2
  have u3 := hb.u3
  have u4 := hb.u4
  obtain ⟨kd, nn, fr, en, tx, s0, s1, s2, s3⟩ := t
  unfold tkX tkG
  dsimp only at *
  clear hr hb
  by_cases n1 : kd = 1
  · rw [if_pos n1]; exact sh_1 _ _ _ _ _ _ _ _ _ n1 w hg
  rw [if_neg n1]
  by_cases n21 : kd = 21
  · rw [if_pos n21]; exact sh_21 _ _ _ _ _ _ _ _ _ n21 hs w hg
  rw [if_neg n21]
  by_cases n2 : kd = 2
  · rw [if_pos n2]; exact sh_2 _ _ _ _ _ _ _ _ _ n2 hs w hg
  rw [if_neg n2]
  by_cases n3 : kd = 3
  · rw [if_pos n3]; obtain ⟨x0, x1, x2, x3⟩ := mkS_wd s0 s1 s2 s3 ⟨u0, u1⟩ u2 u3 u4; exact sh_3 _ _ _ _ _ _ _ _ _ n3 _ x0 x1 x2 x3 w hg
  rw [if_neg n3]
  by_cases n28 : kd = 28
  · rw [if_pos n28]; exact sh_28 _ _ _ _ _ _ _ _ _ n28 hs w hg
  rw [if_neg n28]
  by_cases n5 : kd = 5
  · rw [if_pos n5]; rw [if_pos n5] at h5; have h7 := set5_le n5 h6; exact sh_5 _ _ _ _ _ _ _ _ _ nn.toNat s0.toNat n5 (by omega) (by omega) (by omega) (by omega) w hg
  rw [if_neg n5]
  by_cases n4 : kd = 4
  · rw [if_pos n4]; rw [if_neg n5] at h5; have h7 : gtK kd ≤ 999999 := gtK_le kd; exact sh_4 _ _ _ _ _ _ _ _ _ nn.toNat n4 (by omega) (by omega) w hg
  rw [if_neg n4]
  by_cases n13 : kd = 13
  · rw [if_pos n13]; rw [if_neg n5] at h5; have h7 : gtK kd ≤ 999999 := gtK_le kd; exact sh_13 _ _ _ _ _ _ _ _ _ nn.toNat n13 (by omega) (by omega) w hg
  rw [if_neg n13]
  by_cases n14 : kd = 14
  · rw [if_pos n14]; rw [if_neg n5] at h5; have h7 : gtK kd ≤ 999999 := gtK_le kd; exact sh_14 _ _ _ _ _ _ _ _ _ nn.toNat n14 (by omega) (by omega) w hg
  rw [if_neg n14]
  by_cases n15 : kd = 15
  · rw [if_pos n15]; rw [if_neg n5] at h5; have h7 : gtK kd ≤ 999999 := gtK_le kd; exact sh_15 _ _ _ _ _ _ _ _ _ nn.toNat n15 (by omega) (by omega) w hg
  rw [if_neg n15]
  by_cases n29 : kd = 29
  · rw [if_pos n29]; have h7 := sh_no kd nn fr en s0 s1 s2 s3 tx n1 n4 n2 n3 n28 n5 n13 n14 n15 n21 w hg; rw [show txO (sgOf kd) = ⟨#[37, 101]⟩ from by rw [n29]; rfl] at h7; exact h7
  rw [if_neg n29]
  by_cases n30 : kd = 30
  · rw [if_pos n30]; have h7 := sh_no kd nn fr en s0 s1 s2 s3 tx n1 n4 n2 n3 n28 n5 n13 n14 n15 n21 w hg; rw [show txO (sgOf kd) = ⟨#[37, 102]⟩ from by rw [n30]; rfl] at h7; exact h7
  rw [if_neg n30]
  have h7 := sh_no kd nn fr en s0 s1 s2 s3 tx n1 n4 n2 n3 n28 n5 n13 n14 n15 n21 w hg
  have h8 := sgOf_sgn kd.toNat (by omega) ⟨by omega, by omega, by omega, by omega, by omega, by omega⟩
  rw [show ((kd.toNat : Nat) : Int) = kd from by omega] at h8
  rw [h8] at h7
  exact h7
theorem sgn_len : ∀ k, k < 31 → (sgn k).length ≤ 2 := by decide
theorem tkX_len {t : Tk} (hr : riF t = true) (hb : TkB t) : (tkX t).size ≤ 2400 := by
  obtain ⟨h1, h2, h3, h4, h5, h6⟩ := ri_nat hr
  have hs := txF_len h3
  obtain ⟨kd, nn, fr, en, tx, s0, s1, s2, s3⟩ := t
  unfold tkX
  dsimp only at *
  by_cases n1 : kd = 1
  · rw [if_pos n1]; omega
  rw [if_neg n1]
  by_cases n21 : kd = 21
  · rw [if_pos n21, ByteArray.size_append]; have := gnm_len tx hs; show 2 + _ ≤ _; omega
  rw [if_neg n21]
  by_cases n2 : kd = 2
  · rw [if_pos n2, Q.asText_size]; have := qT_len tx; omega
  rw [if_neg n2]
  by_cases n3 : kd = 3
  · rw [if_pos n3, txO_size]; have := shT_len (mkS s0 s1 s2 s3); omega
  rw [if_neg n3]
  by_cases n28 : kd = 28
  · rw [if_pos n28, ByteArray.size_append]; show 1 + _ ≤ _; omega
  rw [if_neg n28]
  by_cases n5 : kd = 5
  · rw [if_pos n5]
    rw [if_pos n5] at h5
    have h7 := set5_le n5 h6
    have a1 := dgT_len 16 (by omega) 5 nn.toNat (by omega)
    have a2 := dgT_len 16 (by omega) 5 s0.toNat (by omega)
    unfold rnT
    rw [ByteArray.size_append, ByteArray.size_append, ByteArray.size_append, ByteArray.size_append, txO_size, txO_size]
    show 3 + _ + 1 + _ + 1 ≤ _
    omega
  rw [if_neg n5]
  rw [if_neg n5] at h5
  have h7 := gtK_le kd
  have a1 := dgT_len 10 (by omega) 5 nn.toNat (by omega)
  by_cases n4 : kd = 4
  · rw [if_pos n4, txO_size]; omega
  rw [if_neg n4]
  by_cases n13 : kd = 13
  · rw [if_pos n13, ByteArray.size_append, txO_size]; show 1 + _ ≤ _; omega
  rw [if_neg n13]
  by_cases n14 : kd = 14
  · rw [if_pos n14, ByteArray.size_append, txO_size]; show 2 + _ ≤ _; omega
  rw [if_neg n14]
  by_cases n15 : kd = 15
  · rw [if_pos n15, ByteArray.size_append, txO_size]; show 2 + _ ≤ _; omega
  rw [if_neg n15]
  by_cases n29 : kd = 29
  · rw [if_pos n29]; decide
  rw [if_neg n29]
  by_cases n30 : kd = 30
  · rw [if_pos n30]; decide
  rw [if_neg n30, txO_size]
  have := sgn_len kd.toNat (by omega)
  omega
/-- The texts of the first tokens, a blank between any two. -/
def jT (L : List Tk) : Nat → List UInt8
  | 0 => []
  | k + 1 => match L[k]? with
    | some t => jT L k ++ (if k = 0 then [] else [32]) ++ (tkX t).data.toList
    | none => jT L k
theorem jT_some {L : List Tk} {k : Nat} {t : Tk} (h : L[k]? = some t) : jT L (k + 1) = jT L k ++ (if k = 0 then [] else [32]) ++ (tkX t).data.toList := by
  rw [jT, h]
theorem jT_le (L : List Tk) (k : Nat) : (jT L k).length ≤ (jT L (k + 1)).length := by
  conv => rhs; rw [jT]
  split
  · rw [List.length_append, List.length_append]; omega
  · exact Nat.le_refl _
theorem jT_mono (L : List Tk) (k : Nat) : ∀ d, (jT L k).length ≤ (jT L (k + d)).length := by
  intro d
  induction d with
  | zero => exact Nat.le_refl _
  | succ d ih => exact Nat.le_trans ih (jT_le L (k + d))
/-- Text's answer. -/
def txR (L : List Tk) : ByteArray × Int := if (ckR L).2 = 0 then (if 65536 < (jT L L.length).length then (⟨#[]⟩, 2) else (txO (jT L L.length), 0)) else (⟨#[]⟩, (ckR L).2)
theorem txR_bad {L : List Tk} (h : ¬ (ckR L).2 = 0) : txR L = (⟨#[]⟩, (ckR L).2) := by unfold txR; rw [if_neg h]
theorem txR_long {L : List Tk} (h : (ckR L).2 = 0) {k : Nat} (hk : k ≤ L.length) (h2 : 65536 < (jT L k).length) : txR L = (⟨#[]⟩, 2) := by
  have h3 := jT_mono L k (L.length - k)
  rw [show k + (L.length - k) = L.length from by omega] at h3
  unfold txR
  rw [if_pos h, if_pos (by omega)]
theorem txR_ok {L : List Tk} (h : (ckR L).2 = 0) (h2 : ¬ 65536 < (jT L L.length).length) : txR L = (txO (jT L L.length), 0) := by
  unfold txR
  rw [if_pos h, if_neg h2]
theorem ckR_all {L : List Tk} (h : (ckR L).2 = 0) : L.length ≤ 4096 ∧ ∀ t ∈ L, riF t = true := by
  unfold ckR at h
  split at h
  · cases h
  · exact ⟨by omega, ckGo_all L 0 h⟩
theorem bcells (a b : List UInt8) : Lib.byteCells (a ++ b) = Lib.byteCells a ++ Lib.byteCells b := by unfold Lib.byteCells; rw [List.map_append]
theorem scells (s : ByteArray) : Lib.strCells s = Lib.byteCells s.data.toList := rfl
theorem ret_te {p : ByteArray × Int} {a : ByteArray} {b : Int} (h : p = (a, b)) : Ending.returned (.tuple #[.string a, .int .i64 b]) = .returned (.tuple #[.string p.1, .int .i64 p.2]) := by rw [h]
end Go.Proofs.YthffklhojdldkaaGreatDoor

namespace Go.Proofs.YthffklhojdldkaaGreatDoor.Q
open Go.RowKit
set_option maxRecDepth 100000 in
set_option maxHeartbeats 4000000 in
theorem cut_any (s : ByteArray) (i : Int) (w : World) :
    Calls Tryz.prog 82 #[.string s, .int .i64 i] w fun e w' => e = .returned (cuV (rdCut s i)) ∧ Below w.heap.size w w' := by
  have HF := (show Hid _ from FHolds.new w 0 0)
  have HB := (show Hid _ from (Below.refl w.heap.size w).alloc (Nat.le_refl _) (.cells #[.int .i64 0, .int .i64 0] 37))
  have HP : Hid (∀ w, Calls Tryz.prog 102 #[.string s, .int .i64 i] w fun e w' => e = .returned (.int .i64 (cpE s i)) ∧ w' = w) := fun w => checkPlace_any s i w
  by_cases hcp : cpE s i = 0
  · have hc : ¬ 65536 < s.size ∧ ¬ (i < 0 ∨ (s.size : Int) < i) := by
      unfold cpE at hcp; split at hcp
      · omega
      · split at hcp
        · omega
        · next a b => exact ⟨a, b⟩
    obtain ⟨h1, h2⟩ := hc
    have h0 : 0 ≤ i := by omega
    obtain ⟨n, rfl⟩ := Int.eq_ofNat_of_zero_le h0
    have HE : Hid (rdCut s (n : Int) = if chr s n = 39 ∨ chr s n = 34 then rdBody s (chr s n) (s.size + 1) (n + 1) [] else .inr (n, 20)) := (by show rdCut s (n : Int) = _; unfold rdCut; rw [if_neg h1, if_neg h2, Int.toNat_natCast])
    rw [hcp] at HP
    clear hcp
    by_cases hn : n < s.size
    · have hnI : (n : Int) < (s.size : Int) := by omega
      have en : ((n : Int) == (s.size : Int)) = false := beq_eq_false_iff_ne.2 (by omega)
      have HC := (show Hid _ from chr_in hn)
      have hb := chr_bd hn
      rw [HC.out] at hb
      have HM : Hid (∀ w, Calls Tryz.prog 103 #[.int .u8 (s[n].toNat : Int)] w fun e w' => e = .returned (.bool (mkB (s[n].toNat : Int))) ∧ w' = w) := fun w => isMark_any _ w
      cases hmk : mkB (s[n].toNat : Int)
      · have HG := (show Hid (rdCut s (n : Int) = .inr (n, 20)) from (by
          show rdCut s (n : Int) = _
          rw [HE.out, if_neg]
          rw [HC.out]
          unfold mkB at hmk
          simp at hmk
          omega))
        rw [hmk] at HM
        clear HE hmk HC
        go_enter Tryz.func82, Tryz.ntmps82
        go_wp2_with fail
        refine (HP.out _).mono ?_
        rintro e w1 ⟨rfl, rfl⟩
        go_wp2_with fail
        refine (HM.out _).mono ?_
        rintro e w1 ⟨rfl, rfl⟩
        obtain ⟨_, c0, c1, f0, f1⟩ := HF.out
        go_wp2_with fail
        rw [HG.out]
        refine bodyPost_ret (v := cuV (.inr (n, 20))) (by simp [results, Tryz.results82, go_sem, cuV, *]) rfl ⟨rfl, ?_⟩
        exact (Below.refl _ _).alloc (Nat.le_refl _) _
      · have HG := (show Hid (rdCut s (n : Int) = rdBody s (s[n].toNat : Int) (s.size + 1) (n + 1) []) from (by
          show rdCut s (n : Int) = _
          rw [HE.out, if_pos]
          · rw [HC.out]
          · rw [HC.out]
            unfold mkB at hmk
            simp at hmk
            omega))
        have HR : Hid (∀ w, Calls Tryz.prog 104 #[.string s, .int .i64 ((n : Int) + 1), .int .u8 (s[n].toNat : Int)] w fun e w' => e = .returned (cuV (rdBody s (s[n].toNat : Int) (s.size + 1) (n + 1) [])) ∧ Below w.heap.size w w') := fun w => readBehind_any s (n + 1) _ (by omega) (by omega) (by omega) w
        rw [hmk] at HM
        rw [← HG.out] at HR
        clear HE hmk HC HG
        generalize rdCut s (n : Int) = R at *
        go_enter Tryz.func82, Tryz.ntmps82
        go_wp2_with fail
        refine (HP.out _).mono ?_
        rintro e w1 ⟨rfl, rfl⟩
        go_wp2_with fail
        refine (HM.out _).mono ?_
        rintro e w1 ⟨rfl, rfl⟩
        go_wp2_with fail
        refine (HR.out _).mono ?_
        rintro e w2 ⟨rfl, hb2⟩
        have HF2 := (show Hid _ from HF.out.below hb2 HF.out.lt)
        have HB2 := (show Hid _ from HB.out.trans (hb2.mono HB.out.size))
        have hl : w.heap.size < w2.heap.size := HF2.out.lt
        clear hb2 HR
        obtain ⟨_, c0, c1, f0, f1⟩ := HF2.out
        cases R with
        | inr pq =>
          obtain ⟨a, c⟩ := pq
          dsimp only [cuV]
          go_wp2_with fail
          refine bodyPost_ret (v := cuV (.inr (a, c))) (by simp [results, Tryz.results82, go_sem, cuV, *]) rfl ⟨rfl, ?_⟩
          exact putF_below HB2.out (Nat.le_refl _) _ _
        | inl p =>
          obtain ⟨l, e⟩ := p
          dsimp only [cuV]
          go_wp2_with fail
          refine bodyPost_ret (v := cuV (.inl (l, e))) (by simp [results, Tryz.results82, go_sem, cuV, *]) rfl ⟨rfl, ?_⟩
          exact putF_below HB2.out (Nat.le_refl _) _ _
    · have hnI : ¬ (n : Int) < (s.size : Int) := by omega
      have en : ((n : Int) == (s.size : Int)) = true := beq_iff_eq.2 (by omega)
      have HG := (show Hid (rdCut s (n : Int) = .inr (n, 20)) from (by
        show rdCut s (n : Int) = _
        rw [HE.out, if_neg]
        rw [chr_out hn]
        omega))
      clear HE
      go_enter Tryz.func82, Tryz.ntmps82
      go_wp2_with fail
      refine (HP.out _).mono ?_
      rintro e w1 ⟨rfl, rfl⟩
      obtain ⟨_, c0, c1, f0, f1⟩ := HF.out
      go_wp2_with fail
      rw [HG.out]
      refine bodyPost_ret (v := cuV (.inr (n, 20))) (by simp [results, Tryz.results82, go_sem, cuV, *]) rfl ⟨rfl, ?_⟩
      exact (Below.refl _ _).alloc (Nat.le_refl _) _
  · have HG := (show Hid (rdCut s i = .inr (0, (cpE s i))) from (by
      show rdCut s i = _
      unfold rdCut cpE at *
      split
      · rfl
      · next h => 
        rw [if_neg h] at hcp
        split
        · rfl
        · next h2 => rw [if_neg h2] at hcp; exact absurd rfl hcp))
    have ec : (cpE s i != 0) = true := bne_iff_ne.2 hcp
    clear hcp
    generalize cpE s i = c at *
    go_enter Tryz.func82, Tryz.ntmps82
    go_wp2_with fail
    refine (HP.out _).mono ?_
    rintro e w1 ⟨rfl, rfl⟩
    obtain ⟨_, c0, c1, f0, f1⟩ := HF.out
    go_wp2_with fail
    rw [HG.out]
    refine bodyPost_ret (v := cuV (.inr (0, c))) (by simp [results, Tryz.results82, go_sem, cuV, *]) rfl ⟨rfl, ?_⟩
    exact (Below.refl _ _).alloc (Nat.le_refl _) _
end Go.Proofs.YthffklhojdldkaaGreatDoor.Q

namespace Go.Proofs.YthffklhojdldkaaGreatDoor
open Go.RowKit
set_option maxRecDepth 100000 in
set_option maxHeartbeats 8000000 in
theorem readLiteral_any (s : ByteArray) (b : Nat) (hs : s.size ≤ 65536) (hb : b ≤ s.size) (hq : chr s b = 39 ∨ chr s b = 34) (w : World) : Calls Tryz.prog 50 #[.string s, .int .i64 b] w fun e w' => e = .returned (tokP (litR s b)) ∧ Below w.heap.size w w' := by
  have HF : Hid (∀ i e w, Calls Tryz.prog 79 #[.int .i64 i, .int .i64 e] w fun e' w' => e' = .returned (pairV tk0 i e) ∧ Below w.heap.size w w') := fun i e w => fault_any i e w
  have HC : Hid (∀ w, Calls Tryz.prog 82 #[.string s, .int .i64 b] w fun e w' => e = .returned (Q.cuV (Q.rdCut s b)) ∧ Below w.heap.size w w') := fun w => Q.cut_any s b w
  have HX := (show Hid (BX w ((w.alloc (tkO tk0)).alloc (fxO 0 0)) tk0 0 0) from BX.new w)
  have HU := (show Hid (litR s b = litP s b (Q.rdCut s b)) from (lit_same s b hs hb hq).symm)
  cases hr : Q.rdCut s b with
  | inr p =>
    obtain ⟨a, c⟩ := p
    obtain ⟨ha, hcc⟩ := rdCut_pos hs hb hq hr
    obtain ⟨a, rfl⟩ : ∃ k : Nat, a = k := ⟨a.toNat, by omega⟩
    rw [hr, litP, Int.toNat_natCast] at HU
    rw [hr] at HC
    clear hr ha hq
    unfold Q.cuV at HC
    rcases hcc with rfl | rfl
    · have HE : Hid (litR s b = .inr (a, 51)) := by show litR s b = _; rw [HU.out, if_pos rfl]
      clear HU
      go_enter Tryz.func50, Tryz.ntmps50
      go_wp2_with fail
      refine (HC.out _).mono ?_
      rintro e w2 ⟨rfl, b2⟩
      have HX2 := (show Hid (BX w (w2.alloc (fxO a 21)) tk0 0 0) from (HX.out.below b2).below (below_box _ _))
      clear b2 HX HC
      go_wp2_with fail
      refine (HF.out _ _ _).mono ?_
      rintro e w3 ⟨rfl, b3⟩
      have HX3 := (show Hid (BX w w3 tk0 0 0) from HX2.out.below b3)
      clear b3 HX2 HF
      obtain ⟨f0, f1', f2', f3, f4, f5, f6, f7, f8, g0, g1⟩ := HX3.out.fz
      obtain ⟨c0, c1, c2, c3, c4, c5, c6, c7, c8, d0, d1⟩ := HX3.out.cells
      unfold pairV
      go_wp2_with fail
      have HP := HX3.out.put tk0 a 51
      exact ret_bx rfl rfl rfl rfl HP ⟨by rw [HE.out]; rfl, HP.b⟩
    · by_cases hlt : a < s.size
      · have HE : Hid (litR s b = .inr (a, 50)) := by show litR s b = _; rw [HU.out, if_neg (by decide), if_pos ⟨rfl, by omega⟩]
        have z1 : (a : Int) < (s.size : Int) := by omega
        clear HU
        go_enter Tryz.func50, Tryz.ntmps50
        go_wp2_with fail
        refine (HC.out _).mono ?_
        rintro e w2 ⟨rfl, b2⟩
        have HX2 := (show Hid (BX w (w2.alloc (fxO a 22)) tk0 0 0) from (HX.out.below b2).below (below_box _ _))
        clear b2 HX HC
        go_wp2_with fail
        refine (HF.out _ _ _).mono ?_
        rintro e w3 ⟨rfl, b3⟩
        have HX3 := (show Hid (BX w w3 tk0 0 0) from HX2.out.below b3)
        clear b3 HX2 HF
        obtain ⟨f0, f1', f2', f3, f4, f5, f6, f7, f8, g0, g1⟩ := HX3.out.fz
        obtain ⟨c0, c1, c2, c3, c4, c5, c6, c7, c8, d0, d1⟩ := HX3.out.cells
        unfold pairV
        go_wp2_with fail
        have HP := HX3.out.put tk0 a 50
        exact ret_bx rfl rfl rfl rfl HP ⟨by rw [HE.out]; rfl, HP.b⟩
      · have HE : Hid (litR s b = .inr (b, 52)) := by show litR s b = _; rw [HU.out, if_neg (by decide), if_neg (by omega)]
        have z1 : ¬ (a : Int) < (s.size : Int) := by omega
        clear HU
        go_enter Tryz.func50, Tryz.ntmps50
        go_wp2_with fail
        refine (HC.out _).mono ?_
        rintro e w2 ⟨rfl, b2⟩
        have HX2 := (show Hid (BX w (w2.alloc (fxO a 22)) tk0 0 0) from (HX.out.below b2).below (below_box _ _))
        clear b2 HX HC
        go_wp2_with fail
        refine (HF.out _ _ _).mono ?_
        rintro e w3 ⟨rfl, b3⟩
        have HX3 := (show Hid (BX w w3 tk0 0 0) from HX2.out.below b3)
        clear b3 HX2 HF
        obtain ⟨f0, f1', f2', f3, f4, f5, f6, f7, f8, g0, g1⟩ := HX3.out.fz
        obtain ⟨c0, c1, c2, c3, c4, c5, c6, c7, c8, d0, d1⟩ := HX3.out.cells
        unfold pairV
        go_wp2_with fail
        have HP := HX3.out.put tk0 b 52
        exact ret_bx rfl rfl rfl rfl HP ⟨by rw [HE.out]; rfl, HP.b⟩
  | inl p =>
    obtain ⟨l, n⟩ := p
    rw [hr, litP] at HU
    rw [hr] at HC
    clear hr hq
    replace HC := (show Hid (∀ w, Calls Tryz.prog 82 #[.string s, .int .i64 b] w fun e w' => e = .returned (.tuple #[.string (asText l), .int .i64 n, .agg #[.int .i64 0, .int .i64 0]]) ∧ Below w.heap.size w w') from HC)
    have hsz : (asText l).size = l.length := asText_size l
    by_cases h255 : 255 < l.length
    · have HE : Hid (litR s b = .inr (b, 2)) := by show litR s b = _; rw [HU.out, if_pos h255]
      have z1 : (255 : Int) < ((asText l).size : Int) := by omega
      clear HU hsz h255
      generalize asText l = t at *
      go_enter Tryz.func50, Tryz.ntmps50
      go_wp2_with fail
      refine (HC.out _).mono ?_
      rintro e w2 ⟨rfl, b2⟩
      have HX2 := (show Hid (BX w (w2.alloc (fxO 0 0)) tk0 0 0) from (HX.out.below b2).below (below_box _ _))
      clear b2 HX HC
      go_wp2_with fail
      refine (HF.out _ _ _).mono ?_
      rintro e w3 ⟨rfl, b3⟩
      have HX3 := (show Hid (BX w w3 tk0 0 0) from HX2.out.below b3)
      clear b3 HX2 HF
      obtain ⟨f0, f1', f2', f3, f4, f5, f6, f7, f8, g0, g1⟩ := HX3.out.fz
      obtain ⟨c0, c1, c2, c3, c4, c5, c6, c7, c8, d0, d1⟩ := HX3.out.cells
      unfold pairV
      go_wp2_with fail
      have HP := HX3.out.put tk0 b 2
      exact ret_bx rfl rfl rfl rfl HP ⟨by rw [HE.out]; rfl, HP.b⟩
    · have HE : Hid (litR s b = .inl ⟨2, 0, b, n, asText l, 0, 0, 0, 0⟩) := by show litR s b = _; rw [HU.out, if_neg h255]
      have z1 : ¬ (255 : Int) < ((asText l).size : Int) := by omega
      clear HU hsz h255 HF
      generalize asText l = t at *
      go_enter Tryz.func50, Tryz.ntmps50
      go_wp2_with fail
      refine (HC.out _).mono ?_
      rintro e w2 ⟨rfl, b2⟩
      have HX2 := (show Hid (BX w w2 tk0 0 0) from HX.out.below b2)
      clear b2 HX HC
      obtain ⟨f0, f1', f2', f3, f4, f5, f6, f7, f8, g0, g1⟩ := HX2.out.fz
      obtain ⟨c0, c1, c2, c3, c4, c5, c6, c7, c8, d0, d1⟩ := HX2.out.cells
      have hsz2 := HX2.out.size
      have hl1 : w.heap.size < w2.heap.size := by omega
      have hne1 : w.heap.size ≠ w2.heap.size := by omega
      have hne2 : w.heap.size + 1 ≠ w2.heap.size := by omega
      go_wp2_with fail
      have HP := (HX2.out.put ⟨2, 0, b, n, t, 0, 0, 0, 0⟩ 0 0).below (below_box _ (fxO 0 0))
      exact ret_bx rfl rfl rfl rfl HP ⟨by rw [HE.out]; rfl, HP.b⟩
end Go.Proofs.YthffklhojdldkaaGreatDoor

namespace Go.Proofs.YthffklhojdldkaaGreatDoor
open Go.RowKit
def oneP (s : ByteArray) (b : Nat) : Sum Tk (Nat × Int) :=
  if hdB (chr s b) = true then nameR s b else if dgB (chr s b) = true then nmR s b b 4 else if chr s b = 39 ∨ chr s b = 34 then litR s b
  else if chr s b = 91 then clT s b (rdRead s b) else if chr s b = 37 then pctP s b else sigP s b
set_option maxRecDepth 100000 in
set_option maxHeartbeats 8000000 in
theorem rt_name (s : ByteArray) (b : Nat) (hs : s.size ≤ 65536) (hb : b < s.size) (h : hdB (chr s b) = true) (w : World) (hg : SG w) : Calls Tryz.prog 26 #[.string s, .int .i64 b] w fun e w' => e = .returned (tokP (oneP s b)) ∧ Below w.heap.size w w' := by
  have HX := (show Hid (BX w ((w.alloc (tkO tk0)).alloc (fxO 0 0)) tk0 0 0) from BX.new w)
  have HG := (show Hid (SG ((w.alloc (tkO tk0)).alloc (fxO 0 0))) from (hg.later (below_box _ _)).later (below_box _ _))
  have hc := chr_in hb
  have HH : Hid (∀ w, Calls Tryz.prog 46 #[.int .u8 (s[b].toNat : Int)] w fun e w' => e = .returned (.bool (hdB (chr s b))) ∧ w' = w) := fun w => by rw [hc]; exact pbegins_any _ w
  have HD : Hid (∀ w, Calls Tryz.prog 48 #[.int .u8 (s[b].toNat : Int)] w fun e w' => e = .returned (.bool (dgB (chr s b))) ∧ w' = w) := fun w => by rw [hc]; exact pdigit_any _ w
  have z0 : (0 : Int) ≤ (b : Int) := by omega
  have z1 : (b : Int) < (s.size : Int) := by omega
  clear hg
  have HN : Hid (∀ w, Calls Tryz.prog 47 #[.string s, .int .i64 b] w fun e w' => e = .returned (tokP (nameR s b)) ∧ Below w.heap.size w w') := fun w => readName_any s b (by omega) (by omega) w
  have HE : Hid (oneP s b = nameR s b) := by show oneP s b = _; unfold oneP; rw [if_pos h]
  rw [h] at HH
  clear HD HG hc h
  go_enter Tryz.func26, Tryz.ntmps26
  go_wp2_with fail
  refine (HH.out _).mono ?_
  rintro e w1 ⟨rfl, rfl⟩
  clear HH
  go_wp2_with fail
  refine (HN.out _).mono ?_
  rintro e w3 ⟨rfl, b3⟩
  have HX3 := (show Hid (BX w w3 tk0 0 0) from HX.out.below b3)
  clear b3 HX HN
  obtain ⟨f0, f1', f2', f3, f4, f5, f6, f7, f8, g0, g1⟩ := HX3.out.fz
  obtain ⟨c0, c1, c2, c3, c4, c5, c6, c7, c8, d0, d1⟩ := HX3.out.cells
  generalize nameR s b = r at *
  cases r with
  | inl t =>
    unfold tokP
    go_wp2_with fail
    have HP := HX3.out.put t 0 0
    exact ret_bx rfl rfl rfl rfl HP ⟨by rw [HE.out]; rfl, HP.b⟩
  | inr q =>
    unfold tokP
    go_wp2_with fail
    have HP := HX3.out.put tk0 q.1 q.2
    exact ret_bx rfl rfl rfl rfl HP ⟨by rw [HE.out]; rfl, HP.b⟩
set_option maxRecDepth 100000 in
set_option maxHeartbeats 8000000 in
theorem rt_num (s : ByteArray) (b : Nat) (hs : s.size ≤ 65536) (hb : b < s.size) (h : hdB (chr s b) = false) (h2 : dgB (chr s b) = true) (w : World) (hg : SG w) : Calls Tryz.prog 26 #[.string s, .int .i64 b] w fun e w' => e = .returned (tokP (oneP s b)) ∧ Below w.heap.size w w' := by
  have HX := (show Hid (BX w ((w.alloc (tkO tk0)).alloc (fxO 0 0)) tk0 0 0) from BX.new w)
  have HG := (show Hid (SG ((w.alloc (tkO tk0)).alloc (fxO 0 0))) from (hg.later (below_box _ _)).later (below_box _ _))
  have hc := chr_in hb
  have HH : Hid (∀ w, Calls Tryz.prog 46 #[.int .u8 (s[b].toNat : Int)] w fun e w' => e = .returned (.bool (hdB (chr s b))) ∧ w' = w) := fun w => by rw [hc]; exact pbegins_any _ w
  have HD : Hid (∀ w, Calls Tryz.prog 48 #[.int .u8 (s[b].toNat : Int)] w fun e w' => e = .returned (.bool (dgB (chr s b))) ∧ w' = w) := fun w => by rw [hc]; exact pdigit_any _ w
  have z0 : (0 : Int) ≤ (b : Int) := by omega
  have z1 : (b : Int) < (s.size : Int) := by omega
  clear hg
  have HN : Hid (∀ w, Calls Tryz.prog 49 #[.string s, .int .i64 b, .int .i64 b, .int .i64 4] w fun e w' => e = .returned (tokP (nmR s b b 4)) ∧ Below w.heap.size w w') := fun w => readNumber_any s b b 4 (by omega) (by omega) (by omega) w
  have HE : Hid (oneP s b = nmR s b b 4) := by show oneP s b = _; unfold oneP; rw [if_neg (by rw [h]; decide), if_pos h2]
  rw [h] at HH
  rw [h2] at HD
  clear HG hc h h2
  go_enter Tryz.func26, Tryz.ntmps26
  go_wp2_with fail
  refine (HH.out _).mono ?_
  rintro e w1 ⟨rfl, rfl⟩
  clear HH
  go_wp2_with fail
  refine (HD.out _).mono ?_
  rintro e w1 ⟨rfl, rfl⟩
  clear HD
  go_wp2_with fail
  refine (HN.out _).mono ?_
  rintro e w3 ⟨rfl, b3⟩
  have HX3 := (show Hid (BX w w3 tk0 0 0) from HX.out.below b3)
  clear b3 HX HN
  obtain ⟨f0, f1', f2', f3, f4, f5, f6, f7, f8, g0, g1⟩ := HX3.out.fz
  obtain ⟨c0, c1, c2, c3, c4, c5, c6, c7, c8, d0, d1⟩ := HX3.out.cells
  generalize nmR s b b 4 = r at *
  cases r with
  | inl t =>
    unfold tokP
    go_wp2_with fail
    have HP := HX3.out.put t 0 0
    exact ret_bx rfl rfl rfl rfl HP ⟨by rw [HE.out]; rfl, HP.b⟩
  | inr q =>
    unfold tokP
    go_wp2_with fail
    have HP := HX3.out.put tk0 q.1 q.2
    exact ret_bx rfl rfl rfl rfl HP ⟨by rw [HE.out]; rfl, HP.b⟩
set_option maxRecDepth 100000 in
set_option maxHeartbeats 8000000 in
theorem rt_lit1 (s : ByteArray) (b : Nat) (hs : s.size ≤ 65536) (hb : b < s.size) (h : hdB (chr s b) = false) (h2 : dgB (chr s b) = false) (h3 : chr s b = 39) (w : World) (hg : SG w) : Calls Tryz.prog 26 #[.string s, .int .i64 b] w fun e w' => e = .returned (tokP (oneP s b)) ∧ Below w.heap.size w w' := by
  have HX := (show Hid (BX w ((w.alloc (tkO tk0)).alloc (fxO 0 0)) tk0 0 0) from BX.new w)
  have HG := (show Hid (SG ((w.alloc (tkO tk0)).alloc (fxO 0 0))) from (hg.later (below_box _ _)).later (below_box _ _))
  have hc := chr_in hb
  have HH : Hid (∀ w, Calls Tryz.prog 46 #[.int .u8 (s[b].toNat : Int)] w fun e w' => e = .returned (.bool (hdB (chr s b))) ∧ w' = w) := fun w => by rw [hc]; exact pbegins_any _ w
  have HD : Hid (∀ w, Calls Tryz.prog 48 #[.int .u8 (s[b].toNat : Int)] w fun e w' => e = .returned (.bool (dgB (chr s b))) ∧ w' = w) := fun w => by rw [hc]; exact pdigit_any _ w
  have z0 : (0 : Int) ≤ (b : Int) := by omega
  have z1 : (b : Int) < (s.size : Int) := by omega
  clear hg
  have HN : Hid (∀ w, Calls Tryz.prog 50 #[.string s, .int .i64 b] w fun e w' => e = .returned (tokP (litR s b)) ∧ Below w.heap.size w w') := fun w => readLiteral_any s b hs (by omega) (.inl h3) w
  have HE : Hid (oneP s b = litR s b) := by show oneP s b = _; unfold oneP; rw [if_neg (by rw [h]; decide), if_neg (by rw [h2]; decide), if_pos (.inl h3)]
  rw [h] at HH
  rw [h2] at HD
  have v1 : ((s[b].toNat : Int) == 39) = true := by rw [← hc, h3]; rfl
  clear h3
  clear hc h h2 HG
  go_enter Tryz.func26, Tryz.ntmps26
  go_wp2_with fail
  refine (HH.out _).mono ?_
  rintro e w1 ⟨rfl, rfl⟩
  clear HH
  go_wp2_with fail
  refine (HD.out _).mono ?_
  rintro e w1 ⟨rfl, rfl⟩
  clear HD
  go_wp2_with fail
  refine (HN.out _).mono ?_
  rintro e w3 ⟨rfl, b3⟩
  have HX3 := (show Hid (BX w w3 tk0 0 0) from HX.out.below b3)
  clear b3 HX HN
  obtain ⟨f0, f1', f2', f3, f4, f5, f6, f7, f8, g0, g1⟩ := HX3.out.fz
  obtain ⟨c0, c1, c2, c3, c4, c5, c6, c7, c8, d0, d1⟩ := HX3.out.cells
  generalize litR s b = r at *
  cases r with
  | inl t =>
    unfold tokP
    go_wp2_with fail
    have HP := HX3.out.put t 0 0
    exact ret_bx rfl rfl rfl rfl HP ⟨by rw [HE.out]; rfl, HP.b⟩
  | inr q =>
    unfold tokP
    go_wp2_with fail
    have HP := HX3.out.put tk0 q.1 q.2
    exact ret_bx rfl rfl rfl rfl HP ⟨by rw [HE.out]; rfl, HP.b⟩
set_option maxRecDepth 100000 in
set_option maxHeartbeats 8000000 in
theorem rt_lit2 (s : ByteArray) (b : Nat) (hs : s.size ≤ 65536) (hb : b < s.size) (h : hdB (chr s b) = false) (h2 : dgB (chr s b) = false) (h3 : chr s b = 34) (w : World) (hg : SG w) : Calls Tryz.prog 26 #[.string s, .int .i64 b] w fun e w' => e = .returned (tokP (oneP s b)) ∧ Below w.heap.size w w' := by
  have HX := (show Hid (BX w ((w.alloc (tkO tk0)).alloc (fxO 0 0)) tk0 0 0) from BX.new w)
  have HG := (show Hid (SG ((w.alloc (tkO tk0)).alloc (fxO 0 0))) from (hg.later (below_box _ _)).later (below_box _ _))
  have hc := chr_in hb
  have HH : Hid (∀ w, Calls Tryz.prog 46 #[.int .u8 (s[b].toNat : Int)] w fun e w' => e = .returned (.bool (hdB (chr s b))) ∧ w' = w) := fun w => by rw [hc]; exact pbegins_any _ w
  have HD : Hid (∀ w, Calls Tryz.prog 48 #[.int .u8 (s[b].toNat : Int)] w fun e w' => e = .returned (.bool (dgB (chr s b))) ∧ w' = w) := fun w => by rw [hc]; exact pdigit_any _ w
  have z0 : (0 : Int) ≤ (b : Int) := by omega
  have z1 : (b : Int) < (s.size : Int) := by omega
  clear hg
  have HN : Hid (∀ w, Calls Tryz.prog 50 #[.string s, .int .i64 b] w fun e w' => e = .returned (tokP (litR s b)) ∧ Below w.heap.size w w') := fun w => readLiteral_any s b hs (by omega) (.inr h3) w
  have HE : Hid (oneP s b = litR s b) := by show oneP s b = _; unfold oneP; rw [if_neg (by rw [h]; decide), if_neg (by rw [h2]; decide), if_pos (.inr h3)]
  rw [h] at HH
  rw [h2] at HD
  have v1 : ((s[b].toNat : Int) == 39) = false := by rw [← hc, h3]; rfl
  have v2 : ((s[b].toNat : Int) == 34) = true := by rw [← hc, h3]; rfl
  clear h3
  clear hc h h2 HG
  go_enter Tryz.func26, Tryz.ntmps26
  go_wp2_with fail
  refine (HH.out _).mono ?_
  rintro e w1 ⟨rfl, rfl⟩
  clear HH
  go_wp2_with fail
  refine (HD.out _).mono ?_
  rintro e w1 ⟨rfl, rfl⟩
  clear HD
  go_wp2_with fail
  refine (HN.out _).mono ?_
  rintro e w3 ⟨rfl, b3⟩
  have HX3 := (show Hid (BX w w3 tk0 0 0) from HX.out.below b3)
  clear b3 HX HN
  obtain ⟨f0, f1', f2', f3, f4, f5, f6, f7, f8, g0, g1⟩ := HX3.out.fz
  obtain ⟨c0, c1, c2, c3, c4, c5, c6, c7, c8, d0, d1⟩ := HX3.out.cells
  generalize litR s b = r at *
  cases r with
  | inl t =>
    unfold tokP
    go_wp2_with fail
    have HP := HX3.out.put t 0 0
    exact ret_bx rfl rfl rfl rfl HP ⟨by rw [HE.out]; rfl, HP.b⟩
  | inr q =>
    unfold tokP
    go_wp2_with fail
    have HP := HX3.out.put tk0 q.1 q.2
    exact ret_bx rfl rfl rfl rfl HP ⟨by rw [HE.out]; rfl, HP.b⟩
set_option maxRecDepth 100000 in
set_option maxHeartbeats 8000000 in
theorem rt_cls (s : ByteArray) (b : Nat) (hs : s.size ≤ 65536) (hb : b < s.size) (h : hdB (chr s b) = false) (h2 : dgB (chr s b) = false) (h3 : chr s b = 91) (w : World) (hg : SG w) : Calls Tryz.prog 26 #[.string s, .int .i64 b] w fun e w' => e = .returned (tokP (oneP s b)) ∧ Below w.heap.size w w' := by
  have HX := (show Hid (BX w ((w.alloc (tkO tk0)).alloc (fxO 0 0)) tk0 0 0) from BX.new w)
  have HG := (show Hid (SG ((w.alloc (tkO tk0)).alloc (fxO 0 0))) from (hg.later (below_box _ _)).later (below_box _ _))
  have hc := chr_in hb
  have HH : Hid (∀ w, Calls Tryz.prog 46 #[.int .u8 (s[b].toNat : Int)] w fun e w' => e = .returned (.bool (hdB (chr s b))) ∧ w' = w) := fun w => by rw [hc]; exact pbegins_any _ w
  have HD : Hid (∀ w, Calls Tryz.prog 48 #[.int .u8 (s[b].toNat : Int)] w fun e w' => e = .returned (.bool (dgB (chr s b))) ∧ w' = w) := fun w => by rw [hc]; exact pdigit_any _ w
  have z0 : (0 : Int) ≤ (b : Int) := by omega
  have z1 : (b : Int) < (s.size : Int) := by omega
  clear hg
  have HN : Hid (∀ w, Calls Tryz.prog 51 #[.string s, .int .i64 b] w fun e w' => e = .returned (tokP (clT s b (rdRead s b))) ∧ Below w.heap.size w w') := fun w => readCls_any s b (by omega) w
  have HE : Hid (oneP s b = clT s b (rdRead s b)) := by show oneP s b = _; unfold oneP; rw [if_neg (by rw [h]; decide), if_neg (by rw [h2]; decide), if_neg (by omega), if_pos h3]
  rw [h] at HH
  rw [h2] at HD
  have v1 : ((s[b].toNat : Int) == 39) = false := by rw [← hc, beq_eq_false_iff_ne]; omega
  have v2 : ((s[b].toNat : Int) == 34) = false := by rw [← hc, beq_eq_false_iff_ne]; omega
  have v3 : ((s[b].toNat : Int) == 91) = true := by rw [← hc, h3]; rfl
  clear h3
  clear hc h h2 HG
  go_enter Tryz.func26, Tryz.ntmps26
  go_wp2_with fail
  refine (HH.out _).mono ?_
  rintro e w1 ⟨rfl, rfl⟩
  clear HH
  go_wp2_with fail
  refine (HD.out _).mono ?_
  rintro e w1 ⟨rfl, rfl⟩
  clear HD
  go_wp2_with fail
  refine (HN.out _).mono ?_
  rintro e w3 ⟨rfl, b3⟩
  have HX3 := (show Hid (BX w w3 tk0 0 0) from HX.out.below b3)
  clear b3 HX HN
  obtain ⟨f0, f1', f2', f3, f4, f5, f6, f7, f8, g0, g1⟩ := HX3.out.fz
  obtain ⟨c0, c1, c2, c3, c4, c5, c6, c7, c8, d0, d1⟩ := HX3.out.cells
  generalize clT s b (rdRead s b) = r at *
  cases r with
  | inl t =>
    unfold tokP
    go_wp2_with fail
    have HP := HX3.out.put t 0 0
    exact ret_bx rfl rfl rfl rfl HP ⟨by rw [HE.out]; rfl, HP.b⟩
  | inr q =>
    unfold tokP
    go_wp2_with fail
    have HP := HX3.out.put tk0 q.1 q.2
    exact ret_bx rfl rfl rfl rfl HP ⟨by rw [HE.out]; rfl, HP.b⟩
set_option maxRecDepth 100000 in
set_option maxHeartbeats 8000000 in
theorem rt_pct (s : ByteArray) (b : Nat) (hs : s.size ≤ 65536) (hb : b < s.size) (h : hdB (chr s b) = false) (h2 : dgB (chr s b) = false) (h3 : chr s b = 37) (w : World) (hg : SG w) : Calls Tryz.prog 26 #[.string s, .int .i64 b] w fun e w' => e = .returned (tokP (oneP s b)) ∧ Below w.heap.size w w' := by
  have HX := (show Hid (BX w ((w.alloc (tkO tk0)).alloc (fxO 0 0)) tk0 0 0) from BX.new w)
  have HG := (show Hid (SG ((w.alloc (tkO tk0)).alloc (fxO 0 0))) from (hg.later (below_box _ _)).later (below_box _ _))
  have hc := chr_in hb
  have HH : Hid (∀ w, Calls Tryz.prog 46 #[.int .u8 (s[b].toNat : Int)] w fun e w' => e = .returned (.bool (hdB (chr s b))) ∧ w' = w) := fun w => by rw [hc]; exact pbegins_any _ w
  have HD : Hid (∀ w, Calls Tryz.prog 48 #[.int .u8 (s[b].toNat : Int)] w fun e w' => e = .returned (.bool (dgB (chr s b))) ∧ w' = w) := fun w => by rw [hc]; exact pdigit_any _ w
  have z0 : (0 : Int) ≤ (b : Int) := by omega
  have z1 : (b : Int) < (s.size : Int) := by omega
  clear hg
  have HN : Hid (∀ w, SG w → Calls Tryz.prog 52 #[.string s, .int .i64 b] w fun e w' => e = .returned (tokP (pctP s b)) ∧ Below w.heap.size w w') := fun w g => readPercent_any s b (by omega) (by omega) w g
  have HE : Hid (oneP s b = pctP s b) := by show oneP s b = _; unfold oneP; rw [if_neg (by rw [h]; decide), if_neg (by rw [h2]; decide), if_neg (by omega), if_neg (by omega), if_pos h3]
  rw [h] at HH
  rw [h2] at HD
  have v1 : ((s[b].toNat : Int) == 39) = false := by rw [← hc, beq_eq_false_iff_ne]; omega
  have v2 : ((s[b].toNat : Int) == 34) = false := by rw [← hc, beq_eq_false_iff_ne]; omega
  have v3 : ((s[b].toNat : Int) == 91) = false := by rw [← hc, h3]; rfl
  have v4 : ((s[b].toNat : Int) == 37) = true := by rw [← hc, h3]; rfl
  clear h3
  clear hc h h2 
  go_enter Tryz.func26, Tryz.ntmps26
  go_wp2_with fail
  refine (HH.out _).mono ?_
  rintro e w1 ⟨rfl, rfl⟩
  clear HH
  go_wp2_with fail
  refine (HD.out _).mono ?_
  rintro e w1 ⟨rfl, rfl⟩
  clear HD
  go_wp2_with fail
  refine (HN.out _ HG.out).mono ?_
  rintro e w3 ⟨rfl, b3⟩
  have HX3 := (show Hid (BX w w3 tk0 0 0) from HX.out.below b3)
  clear b3 HX HN HG
  obtain ⟨f0, f1', f2', f3, f4, f5, f6, f7, f8, g0, g1⟩ := HX3.out.fz
  obtain ⟨c0, c1, c2, c3, c4, c5, c6, c7, c8, d0, d1⟩ := HX3.out.cells
  generalize pctP s b = r at *
  cases r with
  | inl t =>
    unfold tokP
    go_wp2_with fail
    have HP := HX3.out.put t 0 0
    exact ret_bx rfl rfl rfl rfl HP ⟨by rw [HE.out]; rfl, HP.b⟩
  | inr q =>
    unfold tokP
    go_wp2_with fail
    have HP := HX3.out.put tk0 q.1 q.2
    exact ret_bx rfl rfl rfl rfl HP ⟨by rw [HE.out]; rfl, HP.b⟩
set_option maxRecDepth 100000 in
set_option maxHeartbeats 8000000 in
theorem rt_sgn (s : ByteArray) (b : Nat) (hs : s.size ≤ 65536) (hb : b < s.size) (h : hdB (chr s b) = false) (h2 : dgB (chr s b) = false) (h3 : ¬ chr s b = 39) (h4 : ¬ chr s b = 34) (h5 : ¬ chr s b = 91) (h6 : ¬ chr s b = 37) (w : World) (hg : SG w) : Calls Tryz.prog 26 #[.string s, .int .i64 b] w fun e w' => e = .returned (tokP (oneP s b)) ∧ Below w.heap.size w w' := by
  have HX := (show Hid (BX w ((w.alloc (tkO tk0)).alloc (fxO 0 0)) tk0 0 0) from BX.new w)
  have HG := (show Hid (SG ((w.alloc (tkO tk0)).alloc (fxO 0 0))) from (hg.later (below_box _ _)).later (below_box _ _))
  have hc := chr_in hb
  have HH : Hid (∀ w, Calls Tryz.prog 46 #[.int .u8 (s[b].toNat : Int)] w fun e w' => e = .returned (.bool (hdB (chr s b))) ∧ w' = w) := fun w => by rw [hc]; exact pbegins_any _ w
  have HD : Hid (∀ w, Calls Tryz.prog 48 #[.int .u8 (s[b].toNat : Int)] w fun e w' => e = .returned (.bool (dgB (chr s b))) ∧ w' = w) := fun w => by rw [hc]; exact pdigit_any _ w
  have z0 : (0 : Int) ≤ (b : Int) := by omega
  have z1 : (b : Int) < (s.size : Int) := by omega
  clear hg
  have HN : Hid (∀ w, SG w → Calls Tryz.prog 53 #[.string s, .int .i64 b] w fun e w' => e = .returned (tokP (sigP s b)) ∧ Below w.heap.size w w') := fun w g => readSign_any s b (by omega) (by omega) w g
  have HE : Hid (oneP s b = sigP s b) := by show oneP s b = _; unfold oneP; rw [if_neg (by rw [h]; decide), if_neg (by rw [h2]; decide), if_neg (by omega), if_neg h5, if_neg h6]
  rw [h] at HH
  rw [h2] at HD
  have v1 : ((s[b].toNat : Int) == 39) = false := by rw [← hc, beq_eq_false_iff_ne]; omega
  have v2 : ((s[b].toNat : Int) == 34) = false := by rw [← hc, beq_eq_false_iff_ne]; omega
  have v3 : ((s[b].toNat : Int) == 91) = false := by rw [← hc, beq_eq_false_iff_ne]; exact h5
  have v4 : ((s[b].toNat : Int) == 37) = false := by rw [← hc, beq_eq_false_iff_ne]; exact h6
  clear h3 h4 h5 h6
  clear hc h h2 
  go_enter Tryz.func26, Tryz.ntmps26
  go_wp2_with fail
  refine (HH.out _).mono ?_
  rintro e w1 ⟨rfl, rfl⟩
  clear HH
  go_wp2_with fail
  refine (HD.out _).mono ?_
  rintro e w1 ⟨rfl, rfl⟩
  clear HD
  go_wp2_with fail
  refine (HN.out _ HG.out).mono ?_
  rintro e w3 ⟨rfl, b3⟩
  have HX3 := (show Hid (BX w w3 tk0 0 0) from HX.out.below b3)
  clear b3 HX HN HG
  obtain ⟨f0, f1', f2', f3, f4, f5, f6, f7, f8, g0, g1⟩ := HX3.out.fz
  obtain ⟨c0, c1, c2, c3, c4, c5, c6, c7, c8, d0, d1⟩ := HX3.out.cells
  generalize sigP s b = r at *
  cases r with
  | inl t =>
    unfold tokP
    go_wp2_with fail
    have HP := HX3.out.put t 0 0
    exact ret_bx rfl rfl rfl rfl HP ⟨by rw [HE.out]; rfl, HP.b⟩
  | inr q =>
    unfold tokP
    go_wp2_with fail
    have HP := HX3.out.put tk0 q.1 q.2
    exact ret_bx rfl rfl rfl rfl HP ⟨by rw [HE.out]; rfl, HP.b⟩
theorem readToken_any (s : ByteArray) (b : Nat) (hs : s.size ≤ 65536) (hb : b < s.size) (w : World) (hg : SG w) : Calls Tryz.prog 26 #[.string s, .int .i64 b] w fun e w' => e = .returned (tokP (oneP s b)) ∧ Below w.heap.size w w' := by
  cases h : hdB (chr s b) with
  | true => exact rt_name s b hs hb h w hg
  | false =>
    cases h2 : dgB (chr s b) with
    | true => exact rt_num s b hs hb h h2 w hg
    | false =>
      by_cases h3 : chr s b = 39
      · exact rt_lit1 s b hs hb h h2 h3 w hg
      by_cases h4 : chr s b = 34
      · exact rt_lit2 s b hs hb h h2 h4 w hg
      by_cases h5 : chr s b = 91
      · exact rt_cls s b hs hb h h2 h5 w hg
      by_cases h6 : chr s b = 37
      · exact rt_pct s b hs hb h h2 h6 w hg
      · exact rt_sgn s b hs hb h h2 h3 h4 h5 h6 w hg
end Go.Proofs.YthffklhojdldkaaGreatDoor
