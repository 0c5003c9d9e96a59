/- DERIVED. Plain mathematics and walks, laid together (4). -/
import Derived.Test.YtbipjdgholdhcabGreatFr03
namespace Go.Proofs.YtbipjdgholdhcabGreat.T
open Go.RowKit
theorem below_two (w : World) (o p : Obj) : Below w.heap.size w ((w.alloc o).alloc p) := by
  have h := below_box w o
  exact h.alloc h.size _

set_option maxRecDepth 100000 in
set_option maxHeartbeats 8000000 in
theorem fieldR_4 (nn : Int) (tx : ByteArray) (a b c d : Int) (_hs : tx.size ≤ 140737488355328) (w : World) : Calls Tryz.prog 77 #[.agg #[.int .i64 4, .int .i64 nn, .string tx, .int .u64 a, .int .u64 b, .int .u64 c, .int .u64 d]] w fun e w' => e = .returned (.bool (txF 4 tx && nuF 4 nn && seF 4 a b c d)) ∧ Below w.heap.size w w' := by
  have sq := seE_zero 4 a b c d (by decide)
  have hq := set_neq a b c d 0 0 0 0
  cases hz : seE a b c d 0 0 0 0 with
  | false =>
    have HF : Hid ((txF 4 tx && nuF 4 nn && seF 4 a b c d) = false) := (by show (_ && _) = _; rw [← sq, hz, Bool.and_false])
    rw [hz] at hq
    clear sq hz
    go_enter Tryz.func77, Tryz.ntmps77
    go_wp2_with fail
    go_ret
    exact ⟨by rw [HF.out]; rfl, below_two _ _ _⟩
  | true =>
    have hse : seF 4 a b c d = true := by rw [← sq, hz]
    rw [hz] at hq
    clear sq hz
    have HU : Hid (nuF 4 nn = decide (nn = 0)) := rfl
    by_cases n1 : nn < 0
    · have HF : Hid ((txF 4 tx && nuF 4 nn && seF 4 a b c d) = false) := (by show (_ && _) = _; rw [hse, HU.out, decide_eq_false (by omega), Bool.and_true, Bool.and_false])
      clear HU hse
      go_enter Tryz.func77, Tryz.ntmps77
      go_wp2_with fail
      go_ret
      exact ⟨by rw [HF.out]; rfl, below_two _ _ _⟩
    by_cases n2 : 50 < nn
    · have HF : Hid ((txF 4 tx && nuF 4 nn && seF 4 a b c d) = false) := (by show (_ && _) = _; rw [hse, HU.out, decide_eq_false (by omega), Bool.and_true, Bool.and_false])
      clear HU hse
      go_enter Tryz.func77, Tryz.ntmps77
      go_wp2_with fail
      go_ret
      exact ⟨by rw [HF.out]; rfl, below_two _ _ _⟩
    by_cases n3 : nn = 0
    rotate_left
    · have HF : Hid ((txF 4 tx && nuF 4 nn && seF 4 a b c d) = false) := (by show (_ && _) = _; rw [hse, HU.out, decide_eq_false n3, Bool.and_true, Bool.and_false])
      have f3 : (nn == 0) = false := beq_eq_false_iff_ne.2 n3
      clear HU hse n3
      go_enter Tryz.func77, Tryz.ntmps77
      go_wp2_with fail
      go_ret
      exact ⟨by rw [HF.out]; rfl, below_two _ _ _⟩
    have f3 : (nn == 0) = true := beq_iff_eq.2 n3
    have HF : Hid ((txF 4 tx && nuF 4 nn && seF 4 a b c d) = txF 4 tx) := (by show (_ && _) = _; rw [hse, HU.out, decide_eq_true (by omega), Bool.and_true, Bool.and_true])
    clear hse HU n3
    by_cases q0 : (tx.size : Int) < 1
    · have HG : Hid (txF 4 tx = false) := (by show txF 4 tx = _; unfold txF; rw [if_pos rfl, decide_eq_false (by omega)])
      go_enter Tryz.func77, Tryz.ntmps77
      go_wp2_with fail
      go_ret
      exact ⟨by rw [HF.out, HG.out]; rfl, below_two _ _ _⟩
    · have HG : Hid (txF 4 tx = decide ((tx.size : Int) ≤ 255)) := (by
        show txF 4 tx = _
        unfold txF
        rw [if_pos rfl]
        by_cases q : tx.size ≤ 255
        · rw [decide_eq_true (by omega), decide_eq_true (by omega)]
        · rw [decide_eq_false (by omega), decide_eq_false (by omega)])
      go_enter Tryz.func77, Tryz.ntmps77
      go_wp2_with fail
      go_ret
      exact ⟨by rw [HF.out, HG.out]; rfl, below_two _ _ _⟩

set_option maxRecDepth 100000 in
set_option maxHeartbeats 8000000 in
theorem fieldR_6 (nn : Int) (tx : ByteArray) (a b c d : Int) (hs : tx.size ≤ 140737488355328) (w : World) : Calls Tryz.prog 77 #[.agg #[.int .i64 6, .int .i64 nn, .string tx, .int .u64 a, .int .u64 b, .int .u64 c, .int .u64 d]] w fun e w' => e = .returned (.bool (txF 6 tx && nuF 6 nn && seF 6 a b c d)) ∧ Below w.heap.size w w' := by
  have sq := seE_zero 6 a b c d (by decide)
  have hq := set_neq a b c d 0 0 0 0
  cases hz : seE a b c d 0 0 0 0 with
  | false =>
    have HF : Hid ((txF 6 tx && nuF 6 nn && seF 6 a b c d) = false) := (by show (_ && _) = _; rw [← sq, hz, Bool.and_false])
    rw [hz] at hq
    clear sq hz
    go_enter Tryz.func77, Tryz.ntmps77
    go_wp2_with fail
    go_ret
    exact ⟨by rw [HF.out]; rfl, below_two _ _ _⟩
  | true =>
    have hse : seF 6 a b c d = true := by rw [← sq, hz]
    rw [hz] at hq
    clear sq hz
    have HU : Hid (nuF 6 nn = decide (nn = 0)) := rfl
    by_cases n1 : nn < 0
    · have HF : Hid ((txF 6 tx && nuF 6 nn && seF 6 a b c d) = false) := (by show (_ && _) = _; rw [hse, HU.out, decide_eq_false (by omega), Bool.and_true, Bool.and_false])
      clear HU hse
      go_enter Tryz.func77, Tryz.ntmps77
      go_wp2_with fail
      go_ret
      exact ⟨by rw [HF.out]; rfl, below_two _ _ _⟩
    by_cases n2 : 50 < nn
    · have HF : Hid ((txF 6 tx && nuF 6 nn && seF 6 a b c d) = false) := (by show (_ && _) = _; rw [hse, HU.out, decide_eq_false (by omega), Bool.and_true, Bool.and_false])
      clear HU hse
      go_enter Tryz.func77, Tryz.ntmps77
      go_wp2_with fail
      go_ret
      exact ⟨by rw [HF.out]; rfl, below_two _ _ _⟩
    by_cases n3 : nn = 0
    rotate_left
    · have HF : Hid ((txF 6 tx && nuF 6 nn && seF 6 a b c d) = false) := (by show (_ && _) = _; rw [hse, HU.out, decide_eq_false n3, Bool.and_true, Bool.and_false])
      have f3 : (nn == 0) = false := beq_eq_false_iff_ne.2 n3
      clear HU hse n3
      go_enter Tryz.func77, Tryz.ntmps77
      go_wp2_with fail
      go_ret
      exact ⟨by rw [HF.out]; rfl, below_two _ _ _⟩
    have f3 : (nn == 0) = true := beq_iff_eq.2 n3
    have HF : Hid ((txF 6 tx && nuF 6 nn && seF 6 a b c d) = txF 6 tx) := (by show (_ && _) = _; rw [hse, HU.out, decide_eq_true (by omega), Bool.and_true, Bool.and_true])
    clear hse HU n3
    have HN : Hid (∀ w, Calls Tryz.prog 18 #[.string tx] w fun e w' => e = .returned (.bool (nmB tx)) ∧ w' = w) := fun w => nameR_any tx hs w
    have HG : Hid (txF 6 tx = nmB tx) := rfl
    go_enter Tryz.func77, Tryz.ntmps77
    go_wp2_with fail
    refine (HN.out _).mono ?_
    rintro e w2 ⟨rfl, rfl⟩
    clear HN
    go_wp2_with fail
    go_ret
    exact ⟨by rw [HF.out, HG.out]; rfl, below_two _ _ _⟩

set_option maxRecDepth 100000 in
set_option maxHeartbeats 8000000 in
theorem fieldR_19 (nn : Int) (tx : ByteArray) (a b c d : Int) (hs : tx.size ≤ 140737488355328) (w : World) : Calls Tryz.prog 77 #[.agg #[.int .i64 19, .int .i64 nn, .string tx, .int .u64 a, .int .u64 b, .int .u64 c, .int .u64 d]] w fun e w' => e = .returned (.bool (txF 19 tx && nuF 19 nn && seF 19 a b c d)) ∧ Below w.heap.size w w' := by
  have sq := seE_zero 19 a b c d (by decide)
  have hq := set_neq a b c d 0 0 0 0
  cases hz : seE a b c d 0 0 0 0 with
  | false =>
    have HF : Hid ((txF 19 tx && nuF 19 nn && seF 19 a b c d) = false) := (by show (_ && _) = _; rw [← sq, hz, Bool.and_false])
    rw [hz] at hq
    clear sq hz
    go_enter Tryz.func77, Tryz.ntmps77
    go_wp2_with fail
    go_ret
    exact ⟨by rw [HF.out]; rfl, below_two _ _ _⟩
  | true =>
    have hse : seF 19 a b c d = true := by rw [← sq, hz]
    rw [hz] at hq
    clear sq hz
    have HU : Hid (nuF 19 nn = decide (nn = 0)) := rfl
    by_cases n1 : nn < 0
    · have HF : Hid ((txF 19 tx && nuF 19 nn && seF 19 a b c d) = false) := (by show (_ && _) = _; rw [hse, HU.out, decide_eq_false (by omega), Bool.and_true, Bool.and_false])
      clear HU hse
      go_enter Tryz.func77, Tryz.ntmps77
      go_wp2_with fail
      go_ret
      exact ⟨by rw [HF.out]; rfl, below_two _ _ _⟩
    by_cases n2 : 50 < nn
    · have HF : Hid ((txF 19 tx && nuF 19 nn && seF 19 a b c d) = false) := (by show (_ && _) = _; rw [hse, HU.out, decide_eq_false (by omega), Bool.and_true, Bool.and_false])
      clear HU hse
      go_enter Tryz.func77, Tryz.ntmps77
      go_wp2_with fail
      go_ret
      exact ⟨by rw [HF.out]; rfl, below_two _ _ _⟩
    by_cases n3 : nn = 0
    rotate_left
    · have HF : Hid ((txF 19 tx && nuF 19 nn && seF 19 a b c d) = false) := (by show (_ && _) = _; rw [hse, HU.out, decide_eq_false n3, Bool.and_true, Bool.and_false])
      have f3 : (nn == 0) = false := beq_eq_false_iff_ne.2 n3
      clear HU hse n3
      go_enter Tryz.func77, Tryz.ntmps77
      go_wp2_with fail
      go_ret
      exact ⟨by rw [HF.out]; rfl, below_two _ _ _⟩
    have f3 : (nn == 0) = true := beq_iff_eq.2 n3
    have HF : Hid ((txF 19 tx && nuF 19 nn && seF 19 a b c d) = txF 19 tx) := (by show (_ && _) = _; rw [hse, HU.out, decide_eq_true (by omega), Bool.and_true, Bool.and_true])
    clear hse HU n3
    by_cases q0 : tx.size = 0
    · have HG : Hid (txF 19 tx = true) := (by show txF 19 tx = _; unfold txF; rw [if_neg (by decide), if_neg (by decide), if_pos rfl, decide_eq_true q0]; rfl)
      have t0 := emp_t q0
      clear q0
      go_enter Tryz.func77, Tryz.ntmps77
      go_wp2_with fail
      go_ret
      exact ⟨by rw [HF.out, HG.out]; rfl, below_two _ _ _⟩
    · have HG : Hid (txF 19 tx = nmB tx) := (by show txF 19 tx = _; unfold txF; rw [if_neg (by decide), if_neg (by decide), if_pos rfl, decide_eq_false q0]; rfl)
      have t0 := emp_f q0
      have HN : Hid (∀ w, Calls Tryz.prog 18 #[.string tx] w fun e w' => e = .returned (.bool (nmB tx)) ∧ w' = w) := fun w => nameR_any tx hs w
      clear q0
      go_enter Tryz.func77, Tryz.ntmps77
      go_wp2_with fail
      refine (HN.out _).mono ?_
      rintro e w2 ⟨rfl, rfl⟩
      clear HN
      go_wp2_with fail
      go_ret
      exact ⟨by rw [HF.out, HG.out]; rfl, below_two _ _ _⟩

set_option maxRecDepth 100000 in
set_option maxHeartbeats 8000000 in
theorem fieldR_22 (nn : Int) (tx : ByteArray) (a b c d : Int) (hs : tx.size ≤ 140737488355328) (w : World) : Calls Tryz.prog 77 #[.agg #[.int .i64 22, .int .i64 nn, .string tx, .int .u64 a, .int .u64 b, .int .u64 c, .int .u64 d]] w fun e w' => e = .returned (.bool (txF 22 tx && nuF 22 nn && seF 22 a b c d)) ∧ Below w.heap.size w w' := by
  have sq := seE_zero 22 a b c d (by decide)
  have hq := set_neq a b c d 0 0 0 0
  cases hz : seE a b c d 0 0 0 0 with
  | false =>
    have HF : Hid ((txF 22 tx && nuF 22 nn && seF 22 a b c d) = false) := (by show (_ && _) = _; rw [← sq, hz, Bool.and_false])
    rw [hz] at hq
    clear sq hz
    go_enter Tryz.func77, Tryz.ntmps77
    go_wp2_with fail
    go_ret
    exact ⟨by rw [HF.out]; rfl, below_two _ _ _⟩
  | true =>
    have hse : seF 22 a b c d = true := by rw [← sq, hz]
    rw [hz] at hq
    clear sq hz
    have HU : Hid (nuF 22 nn = decide (nn = 0)) := rfl
    by_cases n1 : nn < 0
    · have HF : Hid ((txF 22 tx && nuF 22 nn && seF 22 a b c d) = false) := (by show (_ && _) = _; rw [hse, HU.out, decide_eq_false (by omega), Bool.and_true, Bool.and_false])
      clear HU hse
      go_enter Tryz.func77, Tryz.ntmps77
      go_wp2_with fail
      go_ret
      exact ⟨by rw [HF.out]; rfl, below_two _ _ _⟩
    by_cases n2 : 50 < nn
    · have HF : Hid ((txF 22 tx && nuF 22 nn && seF 22 a b c d) = false) := (by show (_ && _) = _; rw [hse, HU.out, decide_eq_false (by omega), Bool.and_true, Bool.and_false])
      clear HU hse
      go_enter Tryz.func77, Tryz.ntmps77
      go_wp2_with fail
      go_ret
      exact ⟨by rw [HF.out]; rfl, below_two _ _ _⟩
    by_cases n3 : nn = 0
    rotate_left
    · have HF : Hid ((txF 22 tx && nuF 22 nn && seF 22 a b c d) = false) := (by show (_ && _) = _; rw [hse, HU.out, decide_eq_false n3, Bool.and_true, Bool.and_false])
      have f3 : (nn == 0) = false := beq_eq_false_iff_ne.2 n3
      clear HU hse n3
      go_enter Tryz.func77, Tryz.ntmps77
      go_wp2_with fail
      go_ret
      exact ⟨by rw [HF.out]; rfl, below_two _ _ _⟩
    have f3 : (nn == 0) = true := beq_iff_eq.2 n3
    have HF : Hid ((txF 22 tx && nuF 22 nn && seF 22 a b c d) = txF 22 tx) := (by show (_ && _) = _; rw [hse, HU.out, decide_eq_true (by omega), Bool.and_true, Bool.and_true])
    clear hse HU n3
    have HN : Hid (∀ w, Calls Tryz.prog 86 #[.string tx] w fun e w' => e = .returned (.bool (tmB tx)) ∧ w' = w) := fun w => templateR_any tx hs w
    have HG : Hid (txF 22 tx = tmB tx) := rfl
    go_enter Tryz.func77, Tryz.ntmps77
    go_wp2_with fail
    refine (HN.out _).mono ?_
    rintro e w2 ⟨rfl, rfl⟩
    clear HN
    go_wp2_with fail
    go_ret
    exact ⟨by rw [HF.out, HG.out]; rfl, below_two _ _ _⟩

set_option maxRecDepth 100000 in
set_option maxHeartbeats 8000000 in
theorem fieldR_5 (nn : Int) (tx : ByteArray) (a b c d : Int) (_hs : tx.size ≤ 140737488355328) (w : World) : Calls Tryz.prog 77 #[.agg #[.int .i64 5, .int .i64 nn, .string tx, .int .u64 a, .int .u64 b, .int .u64 c, .int .u64 d]] w fun e w' => e = .returned (.bool (txF 5 tx && nuF 5 nn && seF 5 a b c d)) ∧ Below w.heap.size w w' := by
  have hse : seF 5 a b c d = true := rfl
  have HU : Hid (nuF 5 nn = decide (nn = 0)) := rfl
  by_cases n1 : nn < 0
  · have HF : Hid ((txF 5 tx && nuF 5 nn && seF 5 a b c d) = false) := (by show (_ && _) = _; rw [hse, HU.out, decide_eq_false (by omega), Bool.and_true, Bool.and_false])
    clear HU hse
    go_enter Tryz.func77, Tryz.ntmps77
    go_wp2_with fail
    go_ret
    exact ⟨by rw [HF.out]; rfl, below_two _ _ _⟩
  by_cases n2 : 50 < nn
  · have HF : Hid ((txF 5 tx && nuF 5 nn && seF 5 a b c d) = false) := (by show (_ && _) = _; rw [hse, HU.out, decide_eq_false (by omega), Bool.and_true, Bool.and_false])
    clear HU hse
    go_enter Tryz.func77, Tryz.ntmps77
    go_wp2_with fail
    go_ret
    exact ⟨by rw [HF.out]; rfl, below_two _ _ _⟩
  by_cases n3 : nn = 0
  rotate_left
  · have HF : Hid ((txF 5 tx && nuF 5 nn && seF 5 a b c d) = false) := (by show (_ && _) = _; rw [hse, HU.out, decide_eq_false n3, Bool.and_true, Bool.and_false])
    have f3 : (nn == 0) = false := beq_eq_false_iff_ne.2 n3
    clear HU hse n3
    go_enter Tryz.func77, Tryz.ntmps77
    go_wp2_with fail
    go_ret
    exact ⟨by rw [HF.out]; rfl, below_two _ _ _⟩
  have f3 : (nn == 0) = true := beq_iff_eq.2 n3
  have HF : Hid ((txF 5 tx && nuF 5 nn && seF 5 a b c d) = txF 5 tx) := (by show (_ && _) = _; rw [hse, HU.out, decide_eq_true (by omega), Bool.and_true, Bool.and_true])
  clear hse HU n3
  have HT : Hid (txF 5 tx = decide (tx.size = 0)) := rfl
  by_cases q0 : tx.size = 0
  · have HG : Hid (txF 5 tx = true) := (by show txF _ tx = _; rw [HT.out, decide_eq_true q0])
    have t0 := emp_t q0
    clear q0
    go_enter Tryz.func77, Tryz.ntmps77
    go_wp2_with fail
    go_ret
    exact ⟨by rw [HF.out, HG.out]; rfl, below_two _ _ _⟩
  · have HG : Hid (txF 5 tx = false) := (by show txF _ tx = _; rw [HT.out, decide_eq_false q0])
    have t0 := emp_f q0
    clear q0
    go_enter Tryz.func77, Tryz.ntmps77
    go_wp2_with fail
    go_ret
    exact ⟨by rw [HF.out, HG.out]; rfl, below_two _ _ _⟩

set_option maxRecDepth 100000 in
set_option maxHeartbeats 8000000 in
theorem fieldR_14 (nn : Int) (tx : ByteArray) (a b c d : Int) (_hs : tx.size ≤ 140737488355328) (w : World) : Calls Tryz.prog 77 #[.agg #[.int .i64 14, .int .i64 nn, .string tx, .int .u64 a, .int .u64 b, .int .u64 c, .int .u64 d]] w fun e w' => e = .returned (.bool (txF 14 tx && nuF 14 nn && seF 14 a b c d)) ∧ Below w.heap.size w w' := by
  have sq := seE_zero 14 a b c d (by decide)
  have hq := set_neq a b c d 0 0 0 0
  cases hz : seE a b c d 0 0 0 0 with
  | false =>
    have HF : Hid ((txF 14 tx && nuF 14 nn && seF 14 a b c d) = false) := (by show (_ && _) = _; rw [← sq, hz, Bool.and_false])
    rw [hz] at hq
    clear sq hz
    go_enter Tryz.func77, Tryz.ntmps77
    go_wp2_with fail
    go_ret
    exact ⟨by rw [HF.out]; rfl, below_two _ _ _⟩
  | true =>
    have hse : seF 14 a b c d = true := by rw [← sq, hz]
    rw [hz] at hq
    clear sq hz
    have HU : Hid (nuF 14 nn = decide (0 ≤ nn ∧ nn ≤ 50)) := rfl
    by_cases n1 : nn < 0
    · have HF : Hid ((txF 14 tx && nuF 14 nn && seF 14 a b c d) = false) := (by show (_ && _) = _; rw [hse, HU.out, decide_eq_false (by omega), Bool.and_true, Bool.and_false])
      clear HU hse
      go_enter Tryz.func77, Tryz.ntmps77
      go_wp2_with fail
      go_ret
      exact ⟨by rw [HF.out]; rfl, below_two _ _ _⟩
    by_cases n2 : 50 < nn
    · have HF : Hid ((txF 14 tx && nuF 14 nn && seF 14 a b c d) = false) := (by show (_ && _) = _; rw [hse, HU.out, decide_eq_false (by omega), Bool.and_true, Bool.and_false])
      clear HU hse
      go_enter Tryz.func77, Tryz.ntmps77
      go_wp2_with fail
      go_ret
      exact ⟨by rw [HF.out]; rfl, below_two _ _ _⟩
    have HF : Hid ((txF 14 tx && nuF 14 nn && seF 14 a b c d) = txF 14 tx) := (by show (_ && _) = _; rw [hse, HU.out, decide_eq_true (by omega), Bool.and_true, Bool.and_true])
    clear hse HU
    have HT : Hid (txF 14 tx = decide (tx.size = 0)) := rfl
    by_cases q0 : tx.size = 0
    · have HG : Hid (txF 14 tx = true) := (by show txF _ tx = _; rw [HT.out, decide_eq_true q0])
      have t0 := emp_t q0
      clear q0
      go_enter Tryz.func77, Tryz.ntmps77
      go_wp2_with fail
      go_ret
      exact ⟨by rw [HF.out, HG.out]; rfl, below_two _ _ _⟩
    · have HG : Hid (txF 14 tx = false) := (by show txF _ tx = _; rw [HT.out, decide_eq_false q0])
      have t0 := emp_f q0
      clear q0
      go_enter Tryz.func77, Tryz.ntmps77
      go_wp2_with fail
      go_ret
      exact ⟨by rw [HF.out, HG.out]; rfl, below_two _ _ _⟩

set_option maxRecDepth 100000 in
set_option maxHeartbeats 8000000 in
theorem fieldR_15 (nn : Int) (tx : ByteArray) (a b c d : Int) (_hs : tx.size ≤ 140737488355328) (w : World) : Calls Tryz.prog 77 #[.agg #[.int .i64 15, .int .i64 nn, .string tx, .int .u64 a, .int .u64 b, .int .u64 c, .int .u64 d]] w fun e w' => e = .returned (.bool (txF 15 tx && nuF 15 nn && seF 15 a b c d)) ∧ Below w.heap.size w w' := by
  have sq := seE_zero 15 a b c d (by decide)
  have hq := set_neq a b c d 0 0 0 0
  cases hz : seE a b c d 0 0 0 0 with
  | false =>
    have HF : Hid ((txF 15 tx && nuF 15 nn && seF 15 a b c d) = false) := (by show (_ && _) = _; rw [← sq, hz, Bool.and_false])
    rw [hz] at hq
    clear sq hz
    go_enter Tryz.func77, Tryz.ntmps77
    go_wp2_with fail
    go_ret
    exact ⟨by rw [HF.out]; rfl, below_two _ _ _⟩
  | true =>
    have hse : seF 15 a b c d = true := by rw [← sq, hz]
    rw [hz] at hq
    clear sq hz
    have HU : Hid (nuF 15 nn = decide (0 ≤ nn ∧ nn ≤ 50)) := rfl
    by_cases n1 : nn < 0
    · have HF : Hid ((txF 15 tx && nuF 15 nn && seF 15 a b c d) = false) := (by show (_ && _) = _; rw [hse, HU.out, decide_eq_false (by omega), Bool.and_true, Bool.and_false])
      clear HU hse
      go_enter Tryz.func77, Tryz.ntmps77
      go_wp2_with fail
      go_ret
      exact ⟨by rw [HF.out]; rfl, below_two _ _ _⟩
    by_cases n2 : 50 < nn
    · have HF : Hid ((txF 15 tx && nuF 15 nn && seF 15 a b c d) = false) := (by show (_ && _) = _; rw [hse, HU.out, decide_eq_false (by omega), Bool.and_true, Bool.and_false])
      clear HU hse
      go_enter Tryz.func77, Tryz.ntmps77
      go_wp2_with fail
      go_ret
      exact ⟨by rw [HF.out]; rfl, below_two _ _ _⟩
    have HF : Hid ((txF 15 tx && nuF 15 nn && seF 15 a b c d) = txF 15 tx) := (by show (_ && _) = _; rw [hse, HU.out, decide_eq_true (by omega), Bool.and_true, Bool.and_true])
    clear hse HU
    have HT : Hid (txF 15 tx = decide (tx.size = 0)) := rfl
    by_cases q0 : tx.size = 0
    · have HG : Hid (txF 15 tx = true) := (by show txF _ tx = _; rw [HT.out, decide_eq_true q0])
      have t0 := emp_t q0
      clear q0
      go_enter Tryz.func77, Tryz.ntmps77
      go_wp2_with fail
      go_ret
      exact ⟨by rw [HF.out, HG.out]; rfl, below_two _ _ _⟩
    · have HG : Hid (txF 15 tx = false) := (by show txF _ tx = _; rw [HT.out, decide_eq_false q0])
      have t0 := emp_f q0
      clear q0
      go_enter Tryz.func77, Tryz.ntmps77
      go_wp2_with fail
      go_ret
      exact ⟨by rw [HF.out, HG.out]; rfl, below_two _ _ _⟩

set_option maxRecDepth 100000 in
set_option maxHeartbeats 8000000 in
theorem fieldR_16 (nn : Int) (tx : ByteArray) (a b c d : Int) (_hs : tx.size ≤ 140737488355328) (w : World) : Calls Tryz.prog 77 #[.agg #[.int .i64 16, .int .i64 nn, .string tx, .int .u64 a, .int .u64 b, .int .u64 c, .int .u64 d]] w fun e w' => e = .returned (.bool (txF 16 tx && nuF 16 nn && seF 16 a b c d)) ∧ Below w.heap.size w w' := by
  have sq := seE_zero 16 a b c d (by decide)
  have hq := set_neq a b c d 0 0 0 0
  cases hz : seE a b c d 0 0 0 0 with
  | false =>
    have HF : Hid ((txF 16 tx && nuF 16 nn && seF 16 a b c d) = false) := (by show (_ && _) = _; rw [← sq, hz, Bool.and_false])
    rw [hz] at hq
    clear sq hz
    go_enter Tryz.func77, Tryz.ntmps77
    go_wp2_with fail
    go_ret
    exact ⟨by rw [HF.out]; rfl, below_two _ _ _⟩
  | true =>
    have hse : seF 16 a b c d = true := by rw [← sq, hz]
    rw [hz] at hq
    clear sq hz
    have HU : Hid (nuF 16 nn = decide (0 ≤ nn ∧ nn ≤ 50)) := rfl
    by_cases n1 : nn < 0
    · have HF : Hid ((txF 16 tx && nuF 16 nn && seF 16 a b c d) = false) := (by show (_ && _) = _; rw [hse, HU.out, decide_eq_false (by omega), Bool.and_true, Bool.and_false])
      clear HU hse
      go_enter Tryz.func77, Tryz.ntmps77
      go_wp2_with fail
      go_ret
      exact ⟨by rw [HF.out]; rfl, below_two _ _ _⟩
    by_cases n2 : 50 < nn
    · have HF : Hid ((txF 16 tx && nuF 16 nn && seF 16 a b c d) = false) := (by show (_ && _) = _; rw [hse, HU.out, decide_eq_false (by omega), Bool.and_true, Bool.and_false])
      clear HU hse
      go_enter Tryz.func77, Tryz.ntmps77
      go_wp2_with fail
      go_ret
      exact ⟨by rw [HF.out]; rfl, below_two _ _ _⟩
    have HF : Hid ((txF 16 tx && nuF 16 nn && seF 16 a b c d) = txF 16 tx) := (by show (_ && _) = _; rw [hse, HU.out, decide_eq_true (by omega), Bool.and_true, Bool.and_true])
    clear hse HU
    have HT : Hid (txF 16 tx = decide (tx.size = 0)) := rfl
    by_cases q0 : tx.size = 0
    · have HG : Hid (txF 16 tx = true) := (by show txF _ tx = _; rw [HT.out, decide_eq_true q0])
      have t0 := emp_t q0
      clear q0
      go_enter Tryz.func77, Tryz.ntmps77
      go_wp2_with fail
      go_ret
      exact ⟨by rw [HF.out, HG.out]; rfl, below_two _ _ _⟩
    · have HG : Hid (txF 16 tx = false) := (by show txF _ tx = _; rw [HT.out, decide_eq_false q0])
      have t0 := emp_f q0
      clear q0
      go_enter Tryz.func77, Tryz.ntmps77
      go_wp2_with fail
      go_ret
      exact ⟨by rw [HF.out, HG.out]; rfl, below_two _ _ _⟩

set_option maxRecDepth 100000 in
set_option maxHeartbeats 8000000 in
theorem fieldR_23 (nn : Int) (tx : ByteArray) (a b c d : Int) (_hs : tx.size ≤ 140737488355328) (w : World) : Calls Tryz.prog 77 #[.agg #[.int .i64 23, .int .i64 nn, .string tx, .int .u64 a, .int .u64 b, .int .u64 c, .int .u64 d]] w fun e w' => e = .returned (.bool (txF 23 tx && nuF 23 nn && seF 23 a b c d)) ∧ Below w.heap.size w w' := by
  have sq := seE_zero 23 a b c d (by decide)
  have hq := set_neq a b c d 0 0 0 0
  cases hz : seE a b c d 0 0 0 0 with
  | false =>
    have HF : Hid ((txF 23 tx && nuF 23 nn && seF 23 a b c d) = false) := (by show (_ && _) = _; rw [← sq, hz, Bool.and_false])
    rw [hz] at hq
    clear sq hz
    go_enter Tryz.func77, Tryz.ntmps77
    go_wp2_with fail
    go_ret
    exact ⟨by rw [HF.out]; rfl, below_two _ _ _⟩
  | true =>
    have hse : seF 23 a b c d = true := by rw [← sq, hz]
    rw [hz] at hq
    clear sq hz
    have HU : Hid (nuF 23 nn = decide (0 ≤ nn ∧ nn ≤ 50)) := rfl
    by_cases n1 : nn < 0
    · have HF : Hid ((txF 23 tx && nuF 23 nn && seF 23 a b c d) = false) := (by show (_ && _) = _; rw [hse, HU.out, decide_eq_false (by omega), Bool.and_true, Bool.and_false])
      clear HU hse
      go_enter Tryz.func77, Tryz.ntmps77
      go_wp2_with fail
      go_ret
      exact ⟨by rw [HF.out]; rfl, below_two _ _ _⟩
    by_cases n2 : 50 < nn
    · have HF : Hid ((txF 23 tx && nuF 23 nn && seF 23 a b c d) = false) := (by show (_ && _) = _; rw [hse, HU.out, decide_eq_false (by omega), Bool.and_true, Bool.and_false])
      clear HU hse
      go_enter Tryz.func77, Tryz.ntmps77
      go_wp2_with fail
      go_ret
      exact ⟨by rw [HF.out]; rfl, below_two _ _ _⟩
    have HF : Hid ((txF 23 tx && nuF 23 nn && seF 23 a b c d) = txF 23 tx) := (by show (_ && _) = _; rw [hse, HU.out, decide_eq_true (by omega), Bool.and_true, Bool.and_true])
    clear hse HU
    have HT : Hid (txF 23 tx = decide (tx.size = 0)) := rfl
    by_cases q0 : tx.size = 0
    · have HG : Hid (txF 23 tx = true) := (by show txF _ tx = _; rw [HT.out, decide_eq_true q0])
      have t0 := emp_t q0
      clear q0
      go_enter Tryz.func77, Tryz.ntmps77
      go_wp2_with fail
      go_ret
      exact ⟨by rw [HF.out, HG.out]; rfl, below_two _ _ _⟩
    · have HG : Hid (txF 23 tx = false) := (by show txF _ tx = _; rw [HT.out, decide_eq_false q0])
      have t0 := emp_f q0
      clear q0
      go_enter Tryz.func77, Tryz.ntmps77
      go_wp2_with fail
      go_ret
      exact ⟨by rw [HF.out, HG.out]; rfl, below_two _ _ _⟩

set_option maxRecDepth 100000 in
set_option maxHeartbeats 8000000 in
theorem fieldR_any (op nn : Int) (tx : ByteArray) (a b c d : Int) (_hs : tx.size ≤ 140737488355328) (h4 : ¬ op = 4) (h6 : ¬ op = 6) (h19 : ¬ op = 19) (h22 : ¬ op = 22) (h5 : ¬ op = 5) (h14 : ¬ op = 14) (h15 : ¬ op = 15) (h16 : ¬ op = 16) (h23 : ¬ op = 23) (w : World) : Calls Tryz.prog 77 #[.agg #[.int .i64 op, .int .i64 nn, .string tx, .int .u64 a, .int .u64 b, .int .u64 c, .int .u64 d]] w fun e w' => e = .returned (.bool (txF op tx && nuF op nn && seF op a b c d)) ∧ Below w.heap.size w w' := by
  have e4 : (op == 4) = false := beq_eq_false_iff_ne.2 h4
  have e6 : (op == 6) = false := beq_eq_false_iff_ne.2 h6
  have e19 : (op == 19) = false := beq_eq_false_iff_ne.2 h19
  have e22 : (op == 22) = false := beq_eq_false_iff_ne.2 h22
  have e5 : (op != 5) = true := by rw [bne, beq_eq_false_iff_ne.2 h5]; rfl
  have e14 : (op == 14) = false := beq_eq_false_iff_ne.2 h14
  have e15 : (op == 15) = false := beq_eq_false_iff_ne.2 h15
  have e16 : (op == 16) = false := beq_eq_false_iff_ne.2 h16
  have e23 : (op == 23) = false := beq_eq_false_iff_ne.2 h23
  have sq := seE_zero op a b c d h5
  have hq := set_neq a b c d 0 0 0 0
  cases hz : seE a b c d 0 0 0 0 with
  | false =>
    have HF : Hid ((txF op tx && nuF op nn && seF op a b c d) = false) := (by show (_ && _) = _; rw [← sq, hz, Bool.and_false])
    rw [hz] at hq
    clear sq hz h4 h6 h19 h22 h5 h14 h15 h16 h23
    go_enter Tryz.func77, Tryz.ntmps77
    go_wp2_with fail
    go_ret
    exact ⟨by rw [HF.out]; rfl, below_two _ _ _⟩
  | true =>
    have hse : seF op a b c d = true := by rw [← sq, hz]
    rw [hz] at hq
    clear sq hz
    have HU : Hid (nuF op nn = decide (nn = 0)) := (by show nuF op nn = _; unfold nuF; rw [if_neg (by omega)])
    by_cases n1 : nn < 0
    · have HF : Hid ((txF op tx && nuF op nn && seF op a b c d) = false) := (by show (_ && _) = _; rw [hse, HU.out, decide_eq_false (by omega), Bool.and_true, Bool.and_false])
      clear HU hse h4 h6 h19 h22 h5 h14 h15 h16 h23
      go_enter Tryz.func77, Tryz.ntmps77
      go_wp2_with fail
      go_ret
      exact ⟨by rw [HF.out]; rfl, below_two _ _ _⟩
    by_cases n2 : 50 < nn
    · have HF : Hid ((txF op tx && nuF op nn && seF op a b c d) = false) := (by show (_ && _) = _; rw [hse, HU.out, decide_eq_false (by omega), Bool.and_true, Bool.and_false])
      clear HU hse h4 h6 h19 h22 h5 h14 h15 h16 h23
      go_enter Tryz.func77, Tryz.ntmps77
      go_wp2_with fail
      go_ret
      exact ⟨by rw [HF.out]; rfl, below_two _ _ _⟩
    by_cases n3 : nn = 0
    rotate_left
    · have HF : Hid ((txF op tx && nuF op nn && seF op a b c d) = false) := (by show (_ && _) = _; rw [hse, HU.out, decide_eq_false n3, Bool.and_true, Bool.and_false])
      have f3 : (nn == 0) = false := beq_eq_false_iff_ne.2 n3
      clear HU hse n3 h4 h6 h19 h22 h5 h14 h15 h16 h23
      go_enter Tryz.func77, Tryz.ntmps77
      go_wp2_with fail
      go_ret
      exact ⟨by rw [HF.out]; rfl, below_two _ _ _⟩
    have f3 : (nn == 0) = true := beq_iff_eq.2 n3
    have HF : Hid ((txF op tx && nuF op nn && seF op a b c d) = txF op tx) := (by show (_ && _) = _; rw [hse, HU.out, decide_eq_true (by omega), Bool.and_true, Bool.and_true])
    clear hse HU n3
    have HT : Hid (txF op tx = decide (tx.size = 0)) := (by show txF op tx = _; unfold txF; rw [if_neg h4, if_neg h6, if_neg h19, if_neg h22])
    clear h4 h6 h19 h22 h5 h14 h15 h16 h23
    by_cases q0 : tx.size = 0
    · have HG : Hid (txF op tx = true) := (by show txF _ tx = _; rw [HT.out, decide_eq_true q0])
      have t0 := emp_t q0
      clear q0
      go_enter Tryz.func77, Tryz.ntmps77
      go_wp2_with fail
      go_ret
      exact ⟨by rw [HF.out, HG.out]; rfl, below_two _ _ _⟩
    · have HG : Hid (txF op tx = false) := (by show txF _ tx = _; rw [HT.out, decide_eq_false q0])
      have t0 := emp_f q0
      clear q0
      go_enter Tryz.func77, Tryz.ntmps77
      go_wp2_with fail
      go_ret
      exact ⟨by rw [HF.out, HG.out]; rfl, below_two _ _ _⟩

theorem fieldR (n : Nd) (hs : n.tx.size ≤ 140737488355328) (w : World) : Calls Tryz.prog 77 #[ndG n] w fun e w' => e = .returned (.bool (fdF n)) ∧ Below w.heap.size w w' := by
  obtain ⟨op, nn, tx, a, b, c, d⟩ := n
  show Calls Tryz.prog 77 #[.agg #[.int .i64 op, .int .i64 nn, .string tx, .int .u64 a, .int .u64 b, .int .u64 c, .int .u64 d]] w fun e w' => e = .returned (.bool (txF op tx && nuF op nn && seF op a b c d)) ∧ Below w.heap.size w w'
  by_cases h4 : op = 4
  · subst h4; exact fieldR_4 nn tx a b c d hs w
  by_cases h6 : op = 6
  · subst h6; exact fieldR_6 nn tx a b c d hs w
  by_cases h19 : op = 19
  · subst h19; exact fieldR_19 nn tx a b c d hs w
  by_cases h22 : op = 22
  · subst h22; exact fieldR_22 nn tx a b c d hs w
  by_cases h5 : op = 5
  · subst h5; exact fieldR_5 nn tx a b c d hs w
  by_cases h14 : op = 14
  · subst h14; exact fieldR_14 nn tx a b c d hs w
  by_cases h15 : op = 15
  · subst h15; exact fieldR_15 nn tx a b c d hs w
  by_cases h16 : op = 16
  · subst h16; exact fieldR_16 nn tx a b c d hs w
  by_cases h23 : op = 23
  · subst h23; exact fieldR_23 nn tx a b c d hs w
  exact fieldR_any op nn tx a b c d hs h4 h6 h19 h22 h5 h14 h15 h16 h23 w
end Go.Proofs.YtbipjdgholdhcabGreat.T

namespace Go.Proofs.YtbipjdgholdhcabGreat.T
open Go.RowKit
theorem Tryz.info3 : (Tryz.prog.info? 3).map (fun i => (i.zero, i.size, i.bytes)) = some (some (.int .i64 0), 1, 8) := by kernel_rfl
def bgc (L : List Nd) (k : Nat) : List Value := (List.range k).map fun j => .int .i64 (pt L j).1
def hic (L : List Nd) (k : Nat) : List Value := (List.range k).map fun j => .int .i64 (pt L j).2.2
theorem bgc_succ (L : List Nd) (k : Nat) : bgc L (k + 1) = bgc L k ++ [.int .i64 (pt L k).1] := by unfold bgc; rw [List.range_succ, List.map_append]; rfl
theorem hic_succ (L : List Nd) (k : Nat) : hic L (k + 1) = hic L k ++ [.int .i64 (pt L k).2.2] := by unfold hic; rw [List.range_succ, List.map_append]; rfl
theorem bgc_get {L : List Nd} {k j : Nat} (h : j < k) : (bgc L k)[j]? = some (.int .i64 (pt L j).1) := by unfold bgc; rw [List.getElem?_map, List.getElem?_range h]; rfl
theorem hic_get {L : List Nd} {k j : Nat} (h : j < k) : (hic L k)[j]? = some (.int .i64 (pt L j).2.2) := by unfold hic; rw [List.getElem?_map, List.getElem?_range h]; rfl

structure AtF (L : List Nd) (w wr : World) (k : Nat) (v1 v2 : Value) : Prop where
  o1 : wr.ownsRow w.heap.size 3 1 v1 k (bgc L k)
  o2 : wr.ownsRow w.heap.size 3 1 v2 k (hic L k)
  ne : ∀ g, v1.ownBlock = some g → v2.ownBlock ≠ some g
  b : Below w.heap.size w wr
  e : ∀ j, j < k → er L j = 0
theorem AtF.below {L : List Nd} {w wr w2 : World} {k : Nat} {v1 v2 : Value} (h : AtF L w wr k v1 v2) (hb : Below wr.heap.size wr w2) : AtF L w w2 k v1 v2 :=
  ⟨own_below h.o1 hb, own_below h.o2 hb, h.ne, h.b.trans (hb.mono h.b.size), h.e⟩
theorem AtF.form {L : List Nd} {w wr : World} {k : Nat} {v1 v2 : Value} (h : AtF L w wr k v1 v2) : ∃ A1 c1 A2 c2, v1 = .slice A1 k c1 ∧ v2 = .slice A2 k c2 ∧ (0 < k → ∃ g1 g2, A1 = some ⟨g1, 0, none⟩ ∧ A2 = some ⟨g2, 0, none⟩) := by
  obtain ⟨A1, c1, e1, q1⟩ : ∃ A1 c1, v1 = .slice A1 k c1 ∧ (0 < k → ∃ g, A1 = some ⟨g, 0, none⟩) := by
    rcases h.o1.2 with ⟨a, b⟩ | ⟨g, cap, cur, a, _⟩
    · exact ⟨none, 0, by rw [a, b], fun q => by omega⟩
    · exact ⟨_, cap, a, fun _ => ⟨g, rfl⟩⟩
  obtain ⟨A2, c2, e2, q2⟩ : ∃ A2 c2, v2 = .slice A2 k c2 ∧ (0 < k → ∃ g, A2 = some ⟨g, 0, none⟩) := by
    rcases h.o2.2 with ⟨a, b⟩ | ⟨g, cap, cur, a, _⟩
    · exact ⟨none, 0, by rw [a, b], fun q => by omega⟩
    · exact ⟨_, cap, a, fun _ => ⟨g, rfl⟩⟩
  exact ⟨A1, c1, A2, c2, e1, e2, fun q => by
    obtain ⟨g1, h1⟩ := q1 q
    obtain ⟨g2, h2⟩ := q2 q
    exact ⟨g1, g2, h1, h2⟩⟩
/-- What from answers. -/
def FrV (w w' : World) (L : List Nd) (e : Ending) : Prop :=
  (∃ k, k < L.length ∧ (∀ j, j < k → er L j = 0) ∧ er L k ≠ 0 ∧ e = .returned (.tuple #[.slice none 0 0, .slice none 0 0, .int .i64 k, .int .i64 (er L k)])) ∨
  ((∀ j, j < L.length → er L j = 0) ∧ ∃ v1 v2, e = .returned (.tuple #[v1, v2, .int .i64 0, .int .i64 0]) ∧ AtF L w w' L.length v1 v2)
theorem FrV.bad {w w' : World} {L : List Nd} {k : Nat} {c : Int} (hk : k < L.length) (h : ∀ j, j < k → er L j = 0) (he : er L k = c) (hc : c ≠ 0) : FrV w w' L (.returned (.tuple #[.slice none 0 0, .slice none 0 0, .int .i64 k, .int .i64 c])) :=
  .inl ⟨k, hk, h, by rw [he]; exact hc, by rw [he]⟩
structure AtG (L : List Nd) (w wr : World) (k : Nat) (v1 v2 : Value) (B : Nat) (n : Nd) (gp op : Nat) : Prop where
  f : AtF L w wr k v1 v2
  x : NB wr B 0 n
  p : NdL wr gp op L
  lp : gp < w.heap.size
theorem AtG.below {L : List Nd} {w wr w2 : World} {k : Nat} {v1 v2 : Value} {B : Nat} {n : Nd} {gp op : Nat} (h : AtG L w wr k v1 v2 B n gp op) (hb : Below wr.heap.size wr w2) : AtG L w w2 k v1 v2 B n gp op :=
  ⟨h.f.below hb, h.x.below hb, h.p.same (hb.block _ (Nat.lt_of_lt_of_le h.lp h.f.b.size)), h.lp⟩

set_option maxRecDepth 100000 in
set_option maxHeartbeats 16000000 in
theorem from_any (L : List Nd) (Ap : Option Addr) (cp : Nat) (hL : L.length ≤ 2048) (hT : ∀ n ∈ L, n.tx.size ≤ 140737488355328) (w : World) (hp : RdN w Ap L) :
    Calls Tryz.prog 65 #[.slice Ap L.length cp] w fun e w' => FrV w w' L e ∧ Below w.heap.size w w' := by
  have HP := (show Hid (RdN w Ap L) from hp)
  have HA := (show Hid (AtF L w w 0 (.slice none 0 0) (.slice none 0 0)) from ⟨World.ownsRow_nil _ _ _ _, World.ownsRow_nil _ _ _ _, fun g q => by simp [Value.ownBlock] at q, Below.refl _ _, fun j q => by omega⟩)
  have HG := (show Hid (∀ k, k < L.length → ∃ n, L[k]? = some n ∧ n.tx.size ≤ 140737488355328 ∧ L ≠ []) from fun k hk => ⟨_, List.getElem?_eq_getElem hk, hT _ (List.getElem_mem hk), by rintro rfl; simp at hk⟩)
  clear hT hp
  obtain ⟨i0, hinf, hz0, hz1, hz2⟩ := info_parts Tryz.info3
  go_enter Tryz.func65, Tryz.ntmps65
  go_wp2_with fail
  go_loopw [6, 7, 8] (fun v1 v2 t wr => ∃ k : Nat, k ≤ L.length ∧ t = .int .i64 k ∧ Hid (AtF L w wr k v1 v2)) (fun _ _ t _ => L.length - (intOf t).toNat)
  case atStart => exact ⟨0, by omega, by go_num, HA⟩
  case round =>
    obtain ⟨k, hk, rfl, HW⟩ := hrel
    clear HA
    by_cases hlt : k < L.length
    · obtain ⟨n, hn, htx, hne⟩ := HG.out k hlt
      obtain ⟨gp, op, rfl, lp, cl⟩ := HP.out hne
      have HNn := (show Hid (L[k]? = some n) from hn)
      have HFd : Hid (∀ w, Calls Tryz.prog 77 #[ndG n] w fun e w' => e = .returned (.bool (fdF n)) ∧ Below w.heap.size w w') := fun w => fieldR n htx w
      have HAr : Hid (∀ w, Calls Tryz.prog 76 #[.int .i64 n.op] w fun e w' => e = .returned (.int .i64 (ar n.op)) ∧ w' = w) := fun w => arityR_any n.op w
      obtain ⟨c0, c1, c2, c3, c4, c5, c6⟩ := (cl.same (HW.out.b.block gp lp)) k n hn
      have z0 : (0 : Int) ≤ (k : Int) := by omega
      have z1 : (k : Int) < (L.length : Int) := by omega
      have HW2 := (show Hid (AtG L w (wr.alloc (ndO n)) k _ _ wr.heap.size n gp op) from ⟨HW.out.below (below_box wr (ndO n)), nb_new wr n, (cl.same (HW.out.b.block gp lp)).same ((below_box wr (ndO n)).block gp (Nat.lt_of_lt_of_le lp HW.out.b.size)), lp⟩)
      have HEr := (show Hid (er L k = if alE n ≠ 0 then alE n else if (run L k).length < arN n.op then 42 else if 60 < (pt L k).2.2 then 4 else 0) from er_of hn)
      clear hn hne cl HG HW HP
      by_cases ha : ar n.op < 0
      · have HE := (show Hid (er L k = 40) from by
          show er L k = _
          have : alE n = 40 := by unfold alE; rw [if_pos ha]
          rw [HEr.out, this]; rfl)
        clear HEr HFd HNn
        go_wp2_with fail
        refine (HAr.out _).mono ?_
        rintro e w2 ⟨rfl, rfl⟩
        clear HAr c0 c1 c2 c3 c4 c5 c6
        have za : decide (ar n.op < 0) = true := decide_eq_true ha
        clear ha
        generalize ar n.op = aa at *
        go_wp2_with fail
        refine bodyPost_ret (v := .tuple #[.slice none 0 0, .slice none 0 0, .int .i64 k, .int .i64 40]) (by simp [results, Tryz.results65, go_sem]) rfl ⟨FrV.bad hlt HW2.out.f.e HE.out (by decide), HW2.out.f.b⟩
      · have za : decide (ar n.op < 0) = false := decide_eq_false ha
        cases hf : fdF n with
        | false =>
          have HE := (show Hid (er L k = 41) from by
            show er L k = _
            have : alE n = 41 := by unfold alE; rw [if_neg ha, hf]; rfl
            rw [HEr.out, this]; rfl)
          clear HEr HNn ha
          go_wp2_with fail
          refine (HAr.out _).mono ?_
          rintro e w2 ⟨rfl, rfl⟩
          clear HAr c0 c1 c2 c3 c4 c5 c6
          generalize ar n.op = aa at *
          go_wp2_with fail
          refine (HFd.out _).mono ?_
          rintro e w3 ⟨rfl, b3⟩
          have HW3 := (show Hid _ from HW2.out.below b3)
          clear HW2 HFd b3
          rw [hf]
          go_wp2_with fail
          refine bodyPost_ret (v := .tuple #[.slice none 0 0, .slice none 0 0, .int .i64 k, .int .i64 41]) (by simp [results, Tryz.results65, go_sem]) rfl ⟨FrV.bad hlt HW3.out.f.e HE.out (by decide), HW3.out.f.b⟩
        | true =>
          have hal : alE n = 0 := by unfold alE; rw [if_neg ha, hf]; rfl
          have HE2 := (show Hid (er L k = if (run L k).length < arN n.op then 42 else if 60 < (pt L k).2.2 then 4 else 0) from by show er L k = _; rw [HEr.out, if_neg (by rw [hal]; simp)])
          have hrn := arN_of hal
          have ha2 := arN_le n.op
          clear HEr ha
          rw [← hrn] at HAr za
          go_wp2_with fail
          refine (HAr.out _).mono ?_
          rintro e w2 ⟨rfl, rfl⟩
          clear HAr c0 c1 c2 c3 c4 c5 c6 hrn hal
          have HOp := (show Hid (opAt L k = n.op) from op_of HNn.out)
          generalize haa : arN n.op = aa at *
          have HAa := (show Hid (arN n.op = aa) from haa)
          clear haa
          go_wp2_with fail
          refine (HFd.out _).mono ?_
          rintro e w3 ⟨rfl, b3⟩
          have HW3 := (show Hid (AtG L w w3 k u6 u7 wr.heap.size n gp op) from HW2.out.below b3)
          clear HW2 HFd b3
          rw [hf]
          clear hf
          obtain ⟨A1, k1, A2, k2, rfl, rfl, hfo⟩ := HW3.out.f.form
          have HFo := (show Hid (0 < k → ∃ g1 g2, A1 = some ⟨g1, 0, none⟩ ∧ A2 = some ⟨g2, 0, none⟩) from hfo)
          have HCh := (show Hid (Chn L k (run L k)) from chn_run L k hk HW3.out.f.e)
          have HPo := (show Hid (∀ x ∈ run L k, 1 ≤ x.2.2 ∧ x.2.2 ≤ 60 ∧ x.2.1 < k ∧ x = pt L x.2.1) from fun x hx => ⟨run_pos hk HW3.out.f.e x hx, (run_bd hk HW3.out.f.e x hx).2.2.1, (run_bd hk HW3.out.f.e x hx).2.1, (run_bd hk HW3.out.f.e x hx).2.2.2⟩)
          have HHb := (show Hid (∀ i, hI L n.op aa (run L k) i ≤ 60) from hI_bd L n.op aa (run L k) (fun x hx => (HPo.out x hx).2.1))
          clear hfo
          generalize hBz : wr.heap.size = Bz at *
          clear hBz
          go_wp2_with fail
          go_loopw [11, 12, 13] (fun t u v wq => ∃ i c : Nat, c + i = aa ∧ t = .int .i64 (atI k (run L k) i) ∧ u = .int .i64 (hI L n.op aa (run L k) i) ∧ v = .int .i64 c ∧ Hid (i ≤ (run L k).length) ∧ Hid (AtG L w wq k (.slice A1 k k1) (.slice A2 k k2) Bz n gp op)) (fun _ _ v _ => (intOf v).toNat)
          case atStart => exact ⟨0, aa, by omega, rfl, rfl, rfl, Nat.zero_le _, HW3⟩
          case round =>
            obtain ⟨i, c, hc, rfl, rfl, rfl, HI, HW4⟩ := hrel
            clear HW3
            by_cases hc0 : 0 < c
            · have zc : (0 : Int) < (c : Int) := by omega
              cases hst : (run L k).drop i with
              | nil =>
                have hat : atI k (run L k) i = 0 := by
                  have h := chn_at L k (run L k) HCh.out i HI.out
                  rw [hst] at h
                  exact h
                have hlen : (run L k).length < aa := by
                  have := List.drop_eq_nil_iff.1 hst
                  omega
                have HE := (show Hid (er L k = 42) from by show er L k = _; rw [HE2.out, if_pos hlen])
                have zt : (((atI k (run L k) i : Nat) : Int) == 0) = true := by rw [hat]; rfl
                clear hst hat hlen HE2 HCh HPo HHb HFo HAa HOp HNn HI
                generalize atI k (run L k) i = ai at *
                generalize hI L n.op aa (run L k) i = hi at *
                go_wp2_with fail
                refine bodyPost_ret (v := .tuple #[.slice none 0 0, .slice none 0 0, .int .i64 k, .int .i64 42]) (by simp [results, Tryz.results65, go_sem]) rfl ⟨FrV.bad hlt HW4.out.f.e HE.out (by decide), HW4.out.f.b⟩
              | cons x r =>
                have hch := chn_at L k (run L k) HCh.out i HI.out
                rw [hst] at hch
                obtain ⟨q1, q2, q3, _⟩ := hch
                have hi2 : i < (run L k).length := by
                  have := congrArg List.length hst
                  rw [List.length_drop, List.length_cons] at this
                  omega
                have hxi : (run L k)[i]? = some x := by
                  have := List.getElem?_drop (xs := run L k) (i := i) (j := 0)
                  rw [hst] at this
                  simpa using this.symm
                obtain ⟨p1, p2, p3, hpx⟩ := HPo.out x (List.mem_of_getElem? hxi)
                have hk0 : 0 < k := by omega
                obtain ⟨g1, g2, rfl, rfl⟩ := HFo.out hk0
                have ha1 : atI k (run L k) (i + 1) = x.1 := by rw [atI, hxi]
                have hh1 : hI L n.op aa (run L k) (i + 1) = max (hI L n.op aa (run L k) i) (if i + 1 = aa ∧ aa = 2 ∧ opAt L x.2.1 = n.op then x.2.2 - 1 else x.2.2) := by rw [hI, hxi]
                have hbh := HHb.out i
                have e1 := HW4.out.f.o1.cells (g := g1) rfl x.2.1 _ (bgc_get p3)
                have e2 := HW4.out.f.o2.cells (g := g2) rfl x.2.1 _ (hic_get p3)
                rw [Addr.add_lit, Nat.zero_add, ← q2] at e1 e2
                have hy : L[x.2.1]? = some L[x.2.1] := List.getElem?_eq_getElem (by omega)
                have e3 := (HW4.out.p x.2.1 _ hy).c0
                rw [← op_of hy] at e3
                have e4 := HW4.out.x.c0
                have zt : (((atI k (run L k) i : Nat) : Int) == 0) = false := beq_eq_false_iff_ne.2 (by omega)
                have hsub : ((atI k (run L k) i : Nat) : Int) - 1 = (x.2.1 : Int) := by omega
                have zx : (0 : Int) ≤ (x.2.1 : Int) := by omega
                have zk : (x.2.1 : Int) < (k : Int) := by omega
                have zl : (x.2.1 : Int) < (L.length : Int) := by omega
                have HI2 := (show Hid (i + 1 ≤ (run L k).length) from hi2)
                have HA1 := (show Hid _ from ha1)
                have HH1 := (show Hid _ from hh1)
                clear hst q1 q2 q3 hxi hy ha1 hh1 HE2 HCh HPo HHb HFo HAa HOp HNn HI hi2
                generalize hat : atI k (run L k) i = ai at *
                generalize hhi : hI L n.op aa (run L k) i = hi at *
                clear hat hhi
                obtain ⟨x1, x2, x3⟩ := x
                simp only at p1 p2 p3 e1 e2 e3 hsub zx zk zl HA1 HH1 hpx
                generalize hox : opAt L x2 = ox at *
                clear hox
                have HX1 := (show Hid ((pt L x2).1 = x1) from by show (pt L x2).1 = x1; rw [← hpx])
                clear hpx e1
                by_cases hg : c = 1 ∧ aa = 2
                · have t1 : ((c : Int) == 1) = true := beq_iff_eq.2 (by omega)
                  have t2 : ((aa : Int) == 2) = true := beq_iff_eq.2 (by omega)
                  by_cases ho : ox = n.op
                  · have HZ := (show Hid (hI L n.op aa (run L k) (i + 1) = max hi (x3 - 1)) from by show hI L n.op aa (run L k) (i + 1) = _; rw [HH1.out, if_pos ⟨by omega, hg.2, ho⟩])
                    have t3 : (ox == n.op) = true := beq_iff_eq.2 ho
                    have hx3 : ((x3 : Int) - 1) = ((x3 - 1 : Nat) : Int) := by omega
                    clear ho hg HH1
                    go_wp2_with fail
                    go_quiet (fail)
                    have HW5 := (show Hid (AtG L w (wr.drewN nq) k (.slice (some ⟨g1, 0, none⟩) k k1) (.slice (some ⟨g2, 0, none⟩) k k2) Bz n gp op) from HW4.out.below (below_drewN (Below.refl _ _) _))
                    clear HW4 e2 e3 e4
                    have e1 := HW5.out.f.o1.cells (g := g1) rfl x2 _ (bgc_get p3)
                    rw [Addr.add_lit, Nat.zero_add, HX1.out] at e1
                    generalize wr.drewN nq = w5 at *
                    go_wp2_with fail
                    go_roundw
                    case rel =>
                      refine ⟨i + 1, c - 1, by omega, by rw [HA1.out], ?_, by rw [show ((c : Int) - 1) = ((c - 1 : Nat) : Int) from by omega], HI2, HW5⟩
                      rw [HZ.out]
                      rw [← max_int]
                    case measure => simp [intOf]; omega
                  · have HZ := (show Hid (hI L n.op aa (run L k) (i + 1) = max hi (x3)) from by show hI L n.op aa (run L k) (i + 1) = _; rw [HH1.out, if_neg (fun q => ho q.2.2)])
                    have t3 : (ox == n.op) = false := beq_eq_false_iff_ne.2 ho
                    clear ho hg HH1
                    go_wp2_with fail
                    go_quiet (fail)
                    have HW5 := (show Hid (AtG L w (wr.drewN nq) k (.slice (some ⟨g1, 0, none⟩) k k1) (.slice (some ⟨g2, 0, none⟩) k k2) Bz n gp op) from HW4.out.below (below_drewN (Below.refl _ _) _))
                    clear HW4 e2 e3 e4
                    have e1 := HW5.out.f.o1.cells (g := g1) rfl x2 _ (bgc_get p3)
                    rw [Addr.add_lit, Nat.zero_add, HX1.out] at e1
                    generalize wr.drewN nq = w5 at *
                    go_wp2_with fail
                    go_roundw
                    case rel =>
                      refine ⟨i + 1, c - 1, by omega, by rw [HA1.out], ?_, by rw [show ((c : Int) - 1) = ((c - 1 : Nat) : Int) from by omega], HI2, HW5⟩
                      rw [HZ.out]
                      rw [← max_int]
                    case measure => simp [intOf]; omega
                · by_cases hc1 : c = 1
                  · have t1 : ((c : Int) == 1) = true := beq_iff_eq.2 (by omega)
                    have t2 : ((aa : Int) == 2) = false := beq_eq_false_iff_ne.2 (fun q => hg ⟨hc1, by omega⟩)
                    have HZ := (show Hid (hI L n.op aa (run L k) (i + 1) = max hi (x3)) from by show hI L n.op aa (run L k) (i + 1) = _; rw [HH1.out, if_neg (fun q => hg ⟨hc1, q.2.1⟩)])
                    clear hg HH1 hc1
                    go_wp2_with fail
                    go_quiet (fail)
                    have HW5 := (show Hid (AtG L w (wr.drewN nq) k (.slice (some ⟨g1, 0, none⟩) k k1) (.slice (some ⟨g2, 0, none⟩) k k2) Bz n gp op) from HW4.out.below (below_drewN (Below.refl _ _) _))
                    clear HW4 e2 e3 e4
                    have e1 := HW5.out.f.o1.cells (g := g1) rfl x2 _ (bgc_get p3)
                    rw [Addr.add_lit, Nat.zero_add, HX1.out] at e1
                    generalize wr.drewN nq = w5 at *
                    go_wp2_with fail
                    go_roundw
                    case rel =>
                      refine ⟨i + 1, c - 1, by omega, by rw [HA1.out], ?_, by rw [show ((c : Int) - 1) = ((c - 1 : Nat) : Int) from by omega], HI2, HW5⟩
                      rw [HZ.out]
                      rw [← max_int]
                    case measure => simp [intOf]; omega
                  · have t1 : ((c : Int) == 1) = false := beq_eq_false_iff_ne.2 (by omega)
                    have HZ := (show Hid (hI L n.op aa (run L k) (i + 1) = max hi (x3)) from by show hI L n.op aa (run L k) (i + 1) = _; rw [HH1.out, if_neg (fun q => hc1 (by have := q.1; omega))])
                    clear hg HH1 hc1
                    go_wp2_with fail
                    go_quiet (fail)
                    have HW5 := (show Hid (AtG L w (wr.drewN nq) k (.slice (some ⟨g1, 0, none⟩) k k1) (.slice (some ⟨g2, 0, none⟩) k k2) Bz n gp op) from HW4.out.below (below_drewN (Below.refl _ _) _))
                    clear HW4 e2 e3 e4
                    have e1 := HW5.out.f.o1.cells (g := g1) rfl x2 _ (bgc_get p3)
                    rw [Addr.add_lit, Nat.zero_add, HX1.out] at e1
                    generalize wr.drewN nq = w5 at *
                    go_wp2_with fail
                    go_roundw
                    case rel =>
                      refine ⟨i + 1, c - 1, by omega, by rw [HA1.out], ?_, by rw [show ((c : Int) - 1) = ((c - 1 : Nat) : Int) from by omega], HI2, HW5⟩
                      rw [HZ.out]
                      rw [← max_int]
                    case measure => simp [intOf]; omega
            · obtain rfl : c = 0 := by omega
              obtain rfl : i = aa := by omega
              have HPt := (show Hid (pt L k = (atI k (run L k) i, k, hI L n.op i (run L k) i + 1)) from by
                show pt L k = _
                have h := pt_at L k n.op (run L k) (by rw [HAa.out]; exact HI.out) (fun x hx => (HPo.out x hx).1)
                rw [HAa.out] at h
                rw [← h]
                unfold pt
                rw [HOp.out])
              have HE3 := (show Hid (er L k = if 60 < hI L n.op i (run L k) i + 1 then 4 else 0) from by
                show er L k = _
                rw [HE2.out, if_neg (by have := HI.out; omega), HPt.out])
              have hbh := HHb.out i
              have hab : atI k (run L k) i ≤ k := by
                have h := chn_at L k (run L k) HCh.out i HI.out
                cases hd : (run L k).drop i with
                | nil => rw [hd] at h; have e : atI k (run L k) i = 0 := h; omega
                | cons y r => rw [hd] at h; have := (HPo.out y (List.mem_of_mem_drop (by rw [hd]; simp))).2.2.1; have := h.1; omega
              clear HE2 HCh HPo HHb HFo HAa HOp HNn HI
              generalize atI k (run L k) i = ai at *
              generalize hI L n.op i (run L k) i = hi at *
              by_cases hd : 60 < hi + 1
              · have HE := (show Hid (er L k = 4) from by show er L k = _; rw [HE3.out, if_pos hd])
                have zd : (60 : Int) < (hi : Int) + 1 := by omega
                clear HE3 HPt hd
                go_wp2_with fail
                refine bodyPost_ret (v := .tuple #[.slice none 0 0, .slice none 0 0, .int .i64 k, .int .i64 4]) (by simp [results, Tryz.results65, go_sem]) rfl ⟨FrV.bad hlt HW4.out.f.e HE.out (by decide), HW4.out.f.b⟩
              · have HE := (show Hid (∀ j, j < k + 1 → er L j = 0) from fun j hj => by
                  by_cases q : j < k
                  · exact HW4.out.f.e j q
                  · obtain rfl : j = k := by omega
                    rw [HE3.out, if_neg hd])
                have zd : ¬ (60 : Int) < (hi : Int) + 1 := by omega
                clear HE3 hd
                have HF := (show Hid (AtF L w wr k (.slice A1 k k1) (.slice A2 k k2)) from HW4.out.f)
                have hO1 := HW4.out.f.o1
                have hbs := HW4.out.f.b.size
                clear HW4
                go_wp2_with (at_builtin; refine wpList_append_lies _ rfl _ _ 29 rfl w.heap.size 3 i0 (.int .i64 0) 1 8 Tryz.underlying29 hinf hz0 hz1 hz2 rfl (by decide) _ _ _ rfl (hO1.alloc _) ⟨wr.heap.size, 0, none⟩ 1 1 [.int .i64 ai] rfl rfl (cell_one_new _ _ _) ?c2 (by decide) ?c3 ?c4 ?c5 (wr.heap.size + 1) (by simp) ?_)
                case c2 => first | rfl | (intro u hu; simp at hu; subst hu; rfl)
                case c3 => unfold maxLen; omega
                case c4 => omega
                case c5 => first | omega | (simp; omega)
                intro g cap w6 hown1 hgrow1 hat1 hlt1
                have hO2 : w6.ownsRow w.heap.size 3 1 (.slice A2 k k2) k (hic L k) := (HF.out.o2.alloc _).kept hgrow1 (by
                  cases hv : (Value.slice A2 k k2).ownBlock with
                  | none => exact .inl rfl
                  | some g2 => exact .inr (fun e => HF.out.ne g2 e.symm hv))
                have HB6 := (show Hid (Below w.heap.size w w6) from (HF.out.b.alloc hbs _).grown hgrow1 (by simp; omega) (fun j e => (HF.out.o1.lt j e).1))
                have hb6 := HB6.out.size
                have hs6 : wr.heap.size + 1 ≤ w6.heap.size := by have := hgrow1.size; rw [World.size_alloc] at this; exact this
                have HO1 := (show Hid (w6.ownsRow w.heap.size 3 1 (.slice (some ⟨g, 0, none⟩) (k + 1) cap) (k + 1) (bgc L (k + 1))) from by rw [bgc_succ, HPt.out]; exact hown1)
                have HX1 := (show Hid (∀ j, (Value.slice A2 k k2).ownBlock = some j → j ≠ g ∧ j < w6.heap.size) from fun j hj => by
                  have hlt := (HF.out.o2.lt j hj).2
                  refine ⟨?_, by omega⟩
                  rcases hat1 with q | q
                  · rintro rfl
                    exact HF.out.ne _ q hj
                  · omega)
                have HG6 := (show Hid (g < w6.heap.size) from hlt1)
                clear hown1 hgrow1 hat1 hlt1 hO1 HF
                go_wp2_with (at_builtin; refine wpList_append_lies _ rfl _ _ 29 rfl w.heap.size 3 i0 (.int .i64 0) 1 8 Tryz.underlying29 hinf hz0 hz1 hz2 rfl (by decide) _ _ _ rfl (hO2.alloc _) ⟨w6.heap.size, 0, none⟩ 1 1 [.int .i64 ((hi : Int) + 1)] rfl rfl (cell_one_new _ _ _) ?c2 (by decide) ?c3 ?c4 ?c5 (w6.heap.size + 1) (by simp) ?_)
                case c2 => first | rfl | (intro u hu; simp at hu; subst hu; rfl)
                case c3 => unfold maxLen; omega
                case c4 => omega
                case c5 => first | omega | (simp; omega)
                intro g' cap' w7 hown2 hgrow2 hat2 hlt2
                have HW7 := (show Hid (AtF L w w7 (k + 1) (.slice (some ⟨g, 0, none⟩) (k + 1) cap) (.slice (some ⟨g', 0, none⟩) (k + 1) cap')) from by
                  refine ⟨(HO1.out.alloc _).kept hgrow2 (.inr ?_), ?_, ?_, (HB6.out.alloc hb6 _).grown hgrow2 (by simp; omega) (fun j e => (hO2.lt j e).1), HE.out⟩
                  · intro e
                    exact (HX1.out g e.symm).1 rfl
                  · rw [hic_succ, HPt.out]
                    have hcst : (((hi + 1 : Nat) : Nat) : Int) = (hi : Int) + 1 := by omega
                    show w7.ownsRow _ _ _ _ _ (hic L k ++ [.int .i64 ((hi + 1 : Nat) : Int)])
                    rw [hcst]
                    exact hown2
                  · intro j e1 e2
                    have q1 : g = j := Option.some.inj e1
                    have q2 : g' = j := Option.some.inj e2
                    rcases hat2 with q | q
                    · exact (HX1.out g' q).1 (by rw [q1, q2])
                    · have := HG6.out; omega)
                clear hown2 hgrow2 hat2 hlt2 hO2 HX1 HG6 HO1 HB6 HPt HE
                go_wp2_with fail
                go_roundw
                case rel => exact ⟨k + 1, by omega, by go_num, HW7⟩
                case measure => simp [intOf]; omega
    · obtain rfl : k = L.length := by omega
      clear HG HP
      go_wp2_with fail
      refine bodyPost_ret (v := .tuple #[u6, u7, .int .i64 0, .int .i64 0]) (by simp [results, Tryz.results65, go_sem]) rfl ⟨.inr ⟨HW.out.e, _, _, rfl, HW.out⟩, HW.out.b⟩
end Go.Proofs.YtbipjdgholdhcabGreat.T

namespace Go.Proofs.YtbipjdgholdhcabGreat.T
open Go.RowKit
theorem one_iff {L : List Nd} {m : Nat} (hm : L.length = m + 1) (h : ∀ j, j < L.length → er L j = 0) : (run L L.length).length = 1 ↔ (pt L m).1 = 0 := by
  have hc := chn_run L L.length (Nat.le_refl _) h
  rw [hm] at hc ⊢
  rw [run_succ] at hc ⊢
  have h2 := hc.2.2.2
  cases hd : (run L m).drop (arN (opAt L m)) with
  | nil => rw [hd] at h2; exact ⟨fun _ => h2, fun _ => rfl⟩
  | cons x r =>
    rw [hd] at h2
    have := h2.1
    constructor
    · intro e; simp at e
    · intro e; omega

set_option maxRecDepth 100000 in
set_option maxHeartbeats 4000000 in
theorem checkR_any (L : List Nd) (Ap : Option Addr) (cp : Nat) (hL : L.length ≤ 140737488355328) (hT : ∀ n ∈ L, n.tx.size ≤ 140737488355328) (w : World) (hp : RdN w Ap L) :
    Calls Tryz.prog 52 #[.slice Ap L.length cp] w fun e w' => e = .returned (.tuple #[.int .i64 (ck L).1, .int .i64 (ck L).2]) ∧ Below w.heap.size w w' := by
  by_cases hlong : 2048 < L.length
  · have HE := (show Hid (ck L = (0, 2)) from ck_long hlong)
    have z : (2048 : Int) < (L.length : Int) := by omega
    clear hT hp
    go_enter Tryz.func52, Tryz.ntmps52
    go_wp2_with fail
    go_ret2
    exact ⟨by rw [HE.out]; rfl, Below.refl _ _⟩
  have z : ¬ (2048 : Int) < (L.length : Int) := by omega
  have HF : Hid (∀ _ : Unit, Calls Tryz.prog 65 #[.slice Ap L.length cp] w fun e w' => FrV w w' L e ∧ Below w.heap.size w w') := fun _ => from_any L Ap cp (by omega) hT w hp
  clear hT hp
  have HN := (show Hid (¬ 2048 < L.length) from hlong)
  clear hlong
  go_enter Tryz.func52, Tryz.ntmps52
  go_wp2_with fail
  refine (HF.out ()).mono ?_
  rintro e w2 ⟨hv, b2⟩
  have HB := (show Hid (Below w.heap.size w w2) from b2)
  clear HF b2
  rcases hv with ⟨k, hk, h1, h2, rfl⟩ | ⟨h1, v1, v2, rfl, h2⟩
  · have HE := (show Hid (ck L = (k, er L k)) from ck_bad HN.out hk h1 h2)
    have t1 : (er L k != 0) = true := by rw [bne, beq_eq_false_iff_ne.2 h2]; rfl
    clear h1 h2 HN
    generalize er L k = ek at *
    go_wp2_with fail
    go_ret2
    exact ⟨by rw [HE.out]; rfl, HB.out⟩
  · have HE := (show Hid (ck L = if (run L L.length).length = 1 then (0, 0) else (L.length, 42)) from ck_end HN.out h1)
    obtain ⟨A1, c1, A2, c2, rfl, rfl, hf⟩ := h2.form
    by_cases h0 : L.length = 0
    · have HE2 := (show Hid (ck L = (L.length, 42)) from by
        show ck L = _
        rw [HE.out, if_neg]
        rw [List.eq_nil_of_length_eq_zero h0]
        simp [run])
      have t0 : ((L.length : Int) == 0) = true := beq_iff_eq.2 (by omega)
      clear h1 h2 hf h0 HE HN
      go_wp2_with fail
      go_ret2
      exact ⟨by rw [HE2.out]; rfl, HB.out⟩
    · obtain ⟨m, hm⟩ : ∃ m, L.length = m + 1 := ⟨L.length - 1, by omega⟩
      obtain ⟨g1, g2, rfl, rfl⟩ := hf (by omega)
      have hone := one_iff hm h1
      have e1 := h2.o1.cells (g := g1) rfl m _ (bgc_get (by omega))
      rw [Addr.add_lit, Nat.zero_add] at e1
      have t0 : ((L.length : Int) == 0) = false := beq_eq_false_iff_ne.2 (by omega)
      have hs : (L.length : Int) - 1 = (m : Int) := by omega
      have zm : (0 : Int) ≤ (m : Int) := by omega
      have zl : (m : Int) < (L.length : Int) := by omega
      by_cases hp0 : (pt L m).1 = 0
      · have HE2 := (show Hid (ck L = (0, 0)) from by show ck L = _; rw [HE.out, if_pos (hone.2 hp0)])
        have t2 : (((pt L m).1 : Int) != 0) = false := by rw [hp0]; rfl
        clear h1 h2 hf h0 HE HN hm hone hp0
        generalize (pt L m).1 = q at *
        go_wp2_with fail
        go_ret2
        exact ⟨by rw [HE2.out]; rfl, HB.out⟩
      · have HE2 := (show Hid (ck L = (L.length, 42)) from by show ck L = _; rw [HE.out, if_neg (fun q => hp0 (hone.1 q))])
        have t2 : (((pt L m).1 : Int) != 0) = true := by rw [bne, beq_eq_false_iff_ne.2 (by omega)]; rfl
        clear h1 h2 hf h0 HE HN hm hone hp0
        generalize (pt L m).1 = q at *
        go_wp2_with fail
        go_ret2
        exact ⟨by rw [HE2.out]; rfl, HB.out⟩
end Go.Proofs.YtbipjdgholdhcabGreat.T

namespace Go.Proofs.YtbipjdgholdhcabGreat.T
open Go.RowKit
def lastc (xs : List Pt) : List Value := xs.map fun x => .int .i64 x.2.1
end Go.Proofs.YtbipjdgholdhcabGreat.T

namespace Go.Proofs.YtbipjdgholdhcabGreat.T
open Go.RowKit
theorem own_base {w : World} {a b e size : Nat} {v : Value} {n : Nat} {xs : List Value} (h : w.ownsRow b e size v n xs) (hab : a ≤ b) : w.ownsRow a e size v n xs := by
  obtain ⟨h1, h2⟩ := h
  refine ⟨h1, ?_⟩
  rcases h2 with h2 | ⟨g, cap, cur, h3, h4, h5⟩
  · exact .inl h2
  · exact .inr ⟨g, cap, cur, h3, Nat.le_trans hab h4, h5⟩
end Go.Proofs.YtbipjdgholdhcabGreat.T

namespace Go.Proofs.YtbipjdgholdhcabGreat.N
open Go.ChangeShapes Go.WideShapes Go.ChangeAt Go.RowKit
abbrev Nd := T.Nd
theorem own_same {W W' : World} {B e s n : Nat} {v : Value} {xs : List Value} (h : W.ownsRow B e s v n xs) (hk : ∀ k, v.ownBlock = some k → W'.heap[k]? = W.heap[k]?) : W'.ownsRow B e s v n xs := by
  refine ⟨h.1, ?_⟩
  rcases h.2 with hn | ⟨g, cap, cur, rfl, hB, hg, rest⟩
  · exact .inl hn
  · exact .inr ⟨g, cap, cur, rfl, hB, (hk g rfl).trans hg, rest⟩
theorem own_ty {W : World} {B e s n : Nat} {v : Value} {xs : List Value} (h : W.ownsRow B e s v n xs) {k : Nat} (hk : v.ownBlock = some k) : ∃ cur, W.heap[k]? = some (.cells cur e (0, 0)) := by
  rcases h.2 with ⟨rfl, _⟩ | ⟨g, cap, cur, rfl, _, hg, _⟩
  · cases hk
  · cases hk; exact ⟨cur, hg⟩
/-- The words of a node's set are words. -/
theorem own_apart {W : World} {B e s n B2 e2 s2 n2 : Nat} {v v2 : Value} {xs xs2 : List Value} (h : W.ownsRow B e s v n xs) (h2 : W.ownsRow B2 e2 s2 v2 n2 xs2) (hne : e ≠ e2) {k : Nat} (hk : v.ownBlock = some k) : v2.ownBlock ≠ some k := fun q => by
  obtain ⟨c1, h1⟩ := own_ty h hk
  obtain ⟨c2, h3⟩ := own_ty h2 q
  rw [h1] at h3
  injection h3 with h4
  injection h4 with _ h5
  exact hne h5
theorem Tryz.info41 : (Tryz.prog.info? 52).map (fun i => (i.zero, i.size, i.bytes)) = some (some (.agg #[.string ⟨#[]⟩, .slice none 0 0]), 2, 40) := by kernel_rfl
structure NdW (n : Nd) : Prop where
  a : 0 ≤ n.s0 ∧ n.s0 < 18446744073709551616
  b : 0 ≤ n.s1 ∧ n.s1 < 18446744073709551616
  c : 0 ≤ n.s2 ∧ n.s2 < 18446744073709551616
  d : 0 ≤ n.s3 ∧ n.s3 < 18446744073709551616

/-- A grammar in a box of its own. -/
structure GX (W : World) (k : Nat) (a : Value) : Prop where
  heap : W.heap[k]? = some (.cells #[a] 24 (0, 0))
theorem GX.lt {W : World} {k : Nat} {a : Value} (h : GX W k a) : k < W.heap.size := (Array.getElem?_eq_some_iff.1 h.heap).1
theorem GX.same {W W' : World} {k : Nat} {a : Value} (h : GX W k a) (hb : W'.heap[k]? = W.heap[k]?) : GX W' k a := ⟨hb.trans h.heap⟩
theorem GX.below {W W' : World} {k : Nat} {a : Value} (h : GX W k a) (hb : Below W.heap.size W W') : GX W' k a := h.same (hb.block k h.lt)
theorem GX.cl {W : World} {k : Nat} {a : Value} (h : GX W k a) : W.cell? ⟨k, 0, none⟩ = some a := by
  rw [cell_of_row W k 0 _ 24 (0, 0) h.heap]; rfl
theorem GX.fz {W : World} {k : Nat} {a : Value} (h : GX W k a) : W.frozen? ⟨k, 0, none⟩ = false := frozen_of_row W k 0 _ 24 h.heap
theorem GX.set {W : World} {k : Nat} {a : Value} (h : GX W k a) (u : Value) : GX (W.setCell ⟨k, 0, none⟩ u) k u := ⟨by
  rw [heap_setCell_same _ k 0 _ 24 u h.heap]; simp⟩
theorem GX.ne {W : World} {k B e s n : Nat} {u a : Value} {xs : List Value} (h : GX W k a) (ho : W.ownsRow B e s u n xs) (he : e ≠ 24) {j : Nat} (hj : u.ownBlock = some j) : j ≠ k := fun q => by
  subst q
  obtain ⟨cs, hc⟩ := own_ty ho hj
  rw [h.heap] at hc
  injection hc with h4
  injection h4 with _ h5
  exact he h5.symm
/-- A slice of rules, read. -/
def GrD (W : World) (A : Option Addr) (gs : List (ByteArray × List Nd)) : Prop := ∀ (k : Nat) g, gs[k]? = some g → ∃ b o A2 c2, A = some ⟨b, o, none⟩ ∧ b < W.heap.size ∧ W.cell? ⟨b, o + k * 2, none⟩ = some (.string g.1) ∧ W.cell? ⟨b, o + k * 2 + 1, none⟩ = some (.slice A2 g.2.length c2) ∧ T.RdN W A2 g.2
theorem GrD.later {W W' : World} {A : Option Addr} {gs : List (ByteArray × List Nd)} (h : GrD W A gs) (hb : Below W.heap.size W W') : GrD W' A gs := fun k g hg => by
  obtain ⟨b, o, A2, c2, h1, h2, h3, h4, h5⟩ := h k g hg
  exact ⟨b, o, A2, c2, h1, Nat.lt_of_lt_of_le h2 hb.size, (hb.cell (p := ⟨b, o + k * 2, none⟩) h2).trans h3, (hb.cell (p := ⟨b, o + k * 2 + 1, none⟩) h2).trans h4, h5.below hb (Nat.le_refl _)⟩

theorem nw_of {n : Nd} (h : T.SeW n) : NdW n := ⟨h.1, h.2.1, h.2.2.1, h.2.2.2⟩
theorem Tryz.cells52 : Tryz.prog.cellsOf 52 = 2 := by kernel_rfl
theorem Tryz.cells24 : Tryz.prog.cellsOf 24 = 1 := by kernel_rfl
theorem Tryz.cells22 : Tryz.prog.cellsOf 22 = 1 := by kernel_rfl
theorem Tryz.cells50 : Tryz.prog.cellsOf 50 = 1 := by kernel_rfl
theorem Tryz.bytes52 : Tryz.prog.bytesOf 52 = 40 := by kernel_rfl
/-- What a rule that came in holds. -/
def RlIn (W : World) (g : ByteArray × List Nd) (A : Option Addr) (c : Nat) : Prop := T.RdN W A g.2 ∧ (A = none → c = 0 ∧ g.2 = []) ∧ g.1.size ≤ 140737488351232 ∧ g.2.length * 64 ≤ 140737488351232 ∧ (∀ n ∈ g.2, n.tx.size ≤ 140737488351232) ∧ ∀ n ∈ g.2, NdW n
/-- A grammar that came in. -/
structure GrIn (W : World) (A : Option Addr) (c : Nat) (gs : List (ByteArray × List Nd)) : Prop where
  d : GrD W A gs
  z : A = none → c = 0 ∧ gs = []
  len : gs.length * 40 ≤ 140737488351232
  each : ∀ (k : Nat) g, gs[k]? = some g → ∃ A2 c2, RlIn W g A2 c2 ∧ ∀ b o, A = some ⟨b, o, none⟩ → W.cell? ⟨b, o + k * 2 + 1, none⟩ = some (.slice A2 g.2.length c2)
set_option maxRecDepth 100000 in
theorem rule_in {H : Type} {enc : TypeId × Value → H} {W : World} {held : Bool} {n : Nat} {cs : List Value} {x : DataW H × List MemPlace} (h : DataW.trod enc Tryz.prog W 0 (fun _ => true) held n 52 cs = some x) (hs : ∀ m ∈ x.1.weights Tryz.prog 52, m ≤ reachBytes) :
    ∃ (s : ByteArray) (A : Option Addr) (c : Nat) (L : List Nd), cs = [.string s, .slice A L.length c] ∧ RlIn W (s, L) A c := by
  have hr : reachBytes = 140737488351232 := by decide
  obtain ⟨y0, y1, k, hx, hl, h0, h1⟩ := trod_struct2 Tryz.underlying52 h
  rw [Tryz.cells52] at hl
  match cs, hl with
  | [a, b], _ =>
    simp only [T.Tryz.cells9, Tryz.cells50, List.drop_zero, List.take_succ_cons, List.take_zero, List.drop_succ_cons] at h0 h1
    obtain ⟨s, e0, e1, _⟩ := DataW.trod_string Tryz.underlying9 h0
    have hd : x.1 = .agg [y0.1, y1.1] := congrArg Prod.fst hx
    rw [hd] at hs
    simp only [DataW.weights, Tryz.underlying52] at hs
    simp only [DataW.weightsEach, List.map_cons, List.map_nil, List.mem_append] at hs
    have hb : ∃ a l c, b = .slice a l c := by
      rcases Go.Deep.open_slice Tryz.underlying50 h1 with ⟨hc, _⟩ | ⟨a, len, cap, m, _, D, Pl, hc, _⟩
      · cases hc; exact ⟨_, _, _, rfl⟩
      · cases hc; exact ⟨_, _, _, rfl⟩
    have ht : DataW.Trod enc Tryz.prog W 0 (fun _ => true) held 50 b y1.1 y1.2 := by
      obtain ⟨a', l', c', rfl⟩ := hb
      exact ⟨k, h1⟩
    obtain ⟨A, c, L, rfl, r, nl, sz, sw⟩ := T.open_pat ht hb
    obtain ⟨s0, s1⟩ := sz (fun m hm => hs m (.inr (.inl hm)))
    have e0' : [a] = [Value.string s] := e0
    cases e0'
    refine ⟨s, A, c, L, rfl, r, nl, ?_, s0, s1, fun n hn => nw_of (sw n hn)⟩
    have := hs s.size (.inl (by rw [e1]; simp only [DataW.weights, List.mem_singleton]; rw [Array.length_toList]; rfl))
    rw [hr] at this
    exact this
set_option maxRecDepth 100000 in
theorem open_gram {H : Type} {enc : TypeId × Value → H} {W : World} {base : Nat} {held : Bool} {v : Value} {d : DataW H} {p : List MemPlace} (h : DataW.Trod enc Tryz.prog W 0 (fun _ => true) held 24 v d p) (hv : Value.okWide Tryz.prog W .any base 24 v) (hs : ∀ n ∈ d.weights Tryz.prog 24, n ≤ reachBytes) :
    ∃ A c gs, v = .agg #[.slice A (List.length (α := ByteArray × List Nd) gs) c] ∧ GrIn W A c gs := by
  have hr : reachBytes = 140737488351232 := by decide
  obtain ⟨cs, rfl, hcs⟩ := okWide_struct Tryz.underlying24 hv
  rw [Tryz.cells24] at hcs
  obtain ⟨l⟩ := cs
  match l, hcs with
  | [u], _ =>
    obtain ⟨fuel, hf⟩ := h
    have hf2 : DataW.trod enc Tryz.prog W 0 (fun _ => true) held fuel 24 [u] = some (d, p) := hf
    obtain ⟨y0, k, hx, _, h0⟩ := trod_struct1 Tryz.underlying24 hf2
    simp only [Tryz.cells22, List.drop_zero, List.take_succ_cons, List.take_zero] at h0
    have hd : d = .agg [y0.1] := congrArg Prod.fst hx
    rw [hd] at hs
    simp only [DataW.weights, Tryz.underlying24] at hs
    simp only [DataW.weightsEach, List.map_cons, List.map_nil, List.append_nil] at hs
    rcases Go.Deep.open_slice Tryz.underlying22 h0 with ⟨hc, hx⟩ | ⟨a, len, cap, m, n, D, Pl, hc, _, hl, hm, hmm, hx, hall⟩
    · have hc : [u] = [.slice none 0 0] := hc
      cases hc
      exact ⟨none, 0, [], rfl, ⟨(fun k g hg => by cases hg), fun _ => ⟨rfl, rfl⟩, (by simp), (fun k g hg => by cases hg)⟩⟩
    · have hc : [u] = [.slice (some a) len cap] := hc
      cases hc
      simp only [if_true] at hmm
      subst hmm
      have hd2 : y0.1 = .slice ((List.range len).map D) ((List.range (m - len)).map fun j => D (len + j)) := congrArg Prod.fst hx
      rw [hd2] at hs
      simp only [DataW.weights, Tryz.underlying22] at hs
      have each : ∀ i, i < len → ∃ q : (ByteArray × List Nd) × Option Addr × Nat, W.cell? (a.add (i * 2)) = some (.string q.1.1) ∧ W.cell? (a.add (i * 2 + 1)) = some (.slice q.2.1 q.1.2.length q.2.2) ∧ RlIn W q.1 q.2.1 q.2.2 := by
        intro i hi
        obtain ⟨cs', h1, h2⟩ := hall i (by omega)
        rw [Tryz.cells52] at h1
        obtain ⟨_, hlen, hcell⟩ := World.cells?_some h1
        obtain ⟨s, A, c, L, rfl, hri⟩ := rule_in h2 (fun k hk => hs k (List.mem_cons_of_mem _ (List.mem_append_left _ (T.weights_all _ 52 _ (D i) (List.mem_map.2 ⟨i, List.mem_range.2 hi, rfl⟩) _ hk))))
        refine ⟨((s, L), A, c), ?_, ?_, hri⟩
        · have e := hcell 0 (by show 0 < 2; omega)
          rw [Go.Deep.add_add] at e
          exact e
        · have e := hcell 1 (by show 1 < 2; omega)
          rw [Go.Deep.add_add] at e
          exact e
      obtain ⟨F, hF⟩ : ∃ F : Nat → (ByteArray × List Nd) × Option Addr × Nat, ∀ i, i < len → W.cell? (a.add (i * 2)) = some (.string (F i).1.1) ∧ W.cell? (a.add (i * 2 + 1)) = some (.slice (F i).2.1 (F i).1.2.length (F i).2.2) ∧ RlIn W (F i).1 (F i).2.1 (F i).2.2 :=
        ⟨fun i => if h : i < len then Classical.choose (each i h) else ((⟨#[]⟩, []), none, 0), fun i h => by simp only [dif_pos h]; exact Classical.choose_spec (each i h)⟩
      have get : ∀ (k : Nat) g, ((List.range len).map fun i => (F i).1)[k]? = some g → k < len ∧ g = (F k).1 := fun k g hg => by
        rw [List.getElem?_map] at hg
        have hk : k < len := by
          by_cases q : k < len
          · exact q
          · rw [List.getElem?_eq_none (by simp; omega)] at hg; cases hg
        rw [List.getElem?_range hk] at hg
        cases hg
        exact ⟨hk, rfl⟩
      refine ⟨some a, m, (List.range len).map fun i => (F i).1, by simp, ⟨fun k g hg => ?_, (fun q => by cases q), ?_, fun k g hg => ?_⟩⟩
      · obtain ⟨hk, rfl⟩ := get k g hg
        obtain ⟨q0, q1, q2⟩ := hF k hk
        obtain ⟨gb, off, spot⟩ := a
        have hspot : spot = none := by simpa [Addr.add] using World.cell?_spot (hF 0 (by omega)).1
        subst hspot
        rw [Addr.add_lit] at q0 q1
        exact ⟨gb, off, (F k).2.1, (F k).2.2, rfl, World.block_lt_of_cell? W _ q0, q0, by rw [Nat.add_assoc]; exact q1, q2.1⟩
      · have := hs _ (List.mem_cons_self ..)
        rw [Tryz.bytes52, hr] at this
        simp only [List.length_map, List.length_range] at this ⊢
        omega
      · obtain ⟨hk, rfl⟩ := get k g hg
        obtain ⟨q0, q1, q2⟩ := hF k hk
        refine ⟨(F k).2.1, (F k).2.2, q2, fun b o e => ?_⟩
        cases e
        rw [Addr.add_lit] at q1
        rw [Nat.add_assoc]
        exact q1
theorem GrIn.tx {W : World} {A : Option Addr} {c : Nat} {gs : List (ByteArray × List Nd)} (h : GrIn W A c gs) : ∀ g ∈ gs, g.1.size ≤ 140737488355328 ∧ g.2.length ≤ 140737488355328 ∧ ∀ n ∈ g.2, n.tx.size ≤ 140737488355328 := fun g hg => by
  obtain ⟨k, hk, rfl⟩ := List.mem_iff_getElem.1 hg
  obtain ⟨A2, c2, ⟨h1, h2, h3, h4, h5, h6⟩, _⟩ := h.each k _ (List.getElem?_eq_getElem hk)
  exact ⟨by omega, by omega, fun n hn => by have := h5 n hn; omega⟩
theorem GrIn.later {W W' : World} {A : Option Addr} {c : Nat} {gs : List (ByteArray × List Nd)} (h : GrIn W A c gs) (hb : Below W.heap.size W W') : GrIn W' A c gs :=
  ⟨h.d.later hb, h.z, h.len, fun k g hg => by
    obtain ⟨A2, c2, ⟨r1, r2⟩, r3⟩ := h.each k g hg
    exact ⟨A2, c2, ⟨r1.below hb (Nat.le_refl _), r2⟩, fun b o e => by
      have h1 := r3 b o e
      exact (hb.cell (p := ⟨b, o + k * 2 + 1, none⟩) (World.block_lt_of_cell? W _ h1)).trans h1⟩⟩
end Go.Proofs.YtbipjdgholdhcabGreat.N
