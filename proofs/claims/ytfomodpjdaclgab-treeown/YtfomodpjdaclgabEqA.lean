/- DERIVED. What '==' says of two sets, and of two nodes. -/
import Derived.Test.YtfomodpjdaclgabPlA
import Derived.Test.YtfomodpjdaclgabRows
namespace Go.Proofs.Ytfomodpjdaclgab
open Go.RowKit

def seE (a b c d a' b' c' d' : Int) : Bool := (a == a') && ((b == b') && ((c == c') && (d == d')))
def ndE (m n : Nd) : Bool := (m.op == n.op) && ((m.nn == n.nn) && ((m.tx.toList == n.tx.toList) && seE m.s0 m.s1 m.s2 m.s3 n.s0 n.s1 n.s2 n.s3))
theorem ndE_refl (m : Nd) : ndE m m = true := by unfold ndE seE; simp
theorem tx_ext {a b : ByteArray} (h : a.toList = b.toList) : a = b := by
  rw [ByteArray.toList_eq, ByteArray.toList_eq] at h
  obtain ⟨x⟩ := a
  obtain ⟨y⟩ := b
  have h2 : x.toList = y.toList := h
  rw [Array.ext' h2]
theorem ndE_eq {m n : Nd} (h : ndE m n = true) : m = n := by
  unfold ndE seE at h
  obtain ⟨a1, a2, a3, a4, a5, a6, a7⟩ := m
  obtain ⟨b1, b2, b3, b4, b5, b6, b7⟩ := n
  simp only [Bool.and_eq_true, beq_iff_eq] at h
  obtain ⟨h1, h2, h3, h4, h5, h6, h7⟩ := h
  rw [h1, h2, tx_ext h3, h4, h5, h6, h7]
theorem ndE_iff {m n : Nd} : ndE m n = true ↔ m = n := ⟨ndE_eq, fun h => by rw [h]; exact ndE_refl n⟩

theorem eq41d (m : Nat) (a b c d a' b' c' d' : Int) (w : World) : (Op.equalIn (m + 2) 35 (.agg #[.int .u64 a, .int .u64 b, .int .u64 c, .int .u64 d]) (.agg #[.int .u64 a', .int .u64 b', .int .u64 c', .int .u64 d'])).run Try.prog w = .ok (seE a b c d a' b' c' d') w := by
  have u3 := Try.underlying34
  have a3 := Try.isAgg34
  have z3 := Try.sizeOf34
  rw [Op.equalIn]
  simp only [Sem.run_bind, run_underlying Try.underlying35, Result.andThen_ok]
  simp only [Std.Legacy.Range.forIn_eq_forIn_range', Std.Legacy.Range.size, Nat.sub_zero, Nat.add_sub_cancel, Nat.div_one, List.range'_succ, List.range'_zero, List.forIn_cons, List.forIn_nil]
  unfold seE
  cases ha : (a == a')
  · go_simp
  cases hb : (b == b')
  · go_simp
  cases hc : (c == c')
  · go_simp
  cases hd : (d == d')
  · go_simp
  go_simp

theorem eq41 (a b c d a' b' c' d' : Int) (w : World) : (Op.equalIn 9999 35 (.agg #[.int .u64 a, .int .u64 b, .int .u64 c, .int .u64 d]) (.agg #[.int .u64 a', .int .u64 b', .int .u64 c', .int .u64 d'])).run Try.prog w = .ok (seE a b c d a' b' c' d') w := eq41d 9997 a b c d a' b' c' d' w
theorem eq41e (a b c d a' b' c' d' : Int) (w : World) : (Op.equalIn 10000 35 (.agg #[.int .u64 a, .int .u64 b, .int .u64 c, .int .u64 d]) (.agg #[.int .u64 a', .int .u64 b', .int .u64 c', .int .u64 d'])).run Try.prog w = .ok (seE a b c d a' b' c' d') w := eq41d 9998 a b c d a' b' c' d' w

set_option maxRecDepth 100000 in
set_option maxHeartbeats 2000000 in
theorem node_eql (m n : Nd) (W : World) : (binOp .eql 37 (ndG m) (ndG n)).run Try.prog W = .ok (.bool (ndE m n)) W := by
  have hp : Try.prog.stoodInHeld 37 = false := by kernel_rfl
  unfold ndE
  cases ha : (m.op == n.op)
  · simp [go_sem, Try.underlying37, Try.underlying3, Try.underlying9, Try.isAgg35, Try.isAgg3, Try.isAgg9, Try.sizeOf35, hp, eq41, ha]
  cases hb : (m.nn == n.nn)
  · simp [go_sem, Try.underlying37, Try.underlying3, Try.underlying9, Try.isAgg35, Try.isAgg3, Try.isAgg9, Try.sizeOf35, hp, eq41, ha, hb]
  cases hc : (m.tx.toList == n.tx.toList)
  · simp [go_sem, Try.underlying37, Try.underlying3, Try.underlying9, Try.isAgg35, Try.isAgg3, Try.isAgg9, Try.sizeOf35, hp, eq41, ha, hb, hc]
  cases hd : seE m.s0 m.s1 m.s2 m.s3 n.s0 n.s1 n.s2 n.s3
  · simp [go_sem, Try.underlying37, Try.underlying3, Try.underlying9, Try.isAgg35, Try.isAgg3, Try.isAgg9, Try.sizeOf35, hp, eq41, ha, hb, hc, hd]
  simp [go_sem, Try.underlying37, Try.underlying3, Try.underlying9, Try.isAgg35, Try.isAgg3, Try.isAgg9, Try.sizeOf35, hp, eq41, ha, hb, hc, hd]
set_option maxRecDepth 100000 in
set_option maxHeartbeats 2000000 in
theorem node_neq (m n : Nd) (W : World) : (binOp .neq 37 (ndG m) (ndG n)).run Try.prog W = .ok (.bool (!ndE m n)) W := by
  have hp : Try.prog.stoodInHeld 37 = false := by kernel_rfl
  unfold ndE
  cases ha : (m.op == n.op)
  · simp [go_sem, Try.underlying37, Try.underlying3, Try.underlying9, Try.isAgg35, Try.isAgg3, Try.isAgg9, Try.sizeOf35, hp, eq41, ha]
  cases hb : (m.nn == n.nn)
  · simp [go_sem, Try.underlying37, Try.underlying3, Try.underlying9, Try.isAgg35, Try.isAgg3, Try.isAgg9, Try.sizeOf35, hp, eq41, ha, hb]
  cases hc : (m.tx.toList == n.tx.toList)
  · simp [go_sem, Try.underlying37, Try.underlying3, Try.underlying9, Try.isAgg35, Try.isAgg3, Try.isAgg9, Try.sizeOf35, hp, eq41, ha, hb, hc]
  cases hd : seE m.s0 m.s1 m.s2 m.s3 n.s0 n.s1 n.s2 n.s3
  · simp [go_sem, Try.underlying37, Try.underlying3, Try.underlying9, Try.isAgg35, Try.isAgg3, Try.isAgg9, Try.sizeOf35, hp, eq41, ha, hb, hc, hd]
  simp [go_sem, Try.underlying37, Try.underlying3, Try.underlying9, Try.isAgg35, Try.isAgg3, Try.isAgg9, Try.sizeOf35, hp, eq41, ha, hb, hc, hd]
theorem set_eql (a b c d a' b' c' d' : Int) (W : World) : (binOp .eql 35 (.agg #[.int .u64 a, .int .u64 b, .int .u64 c, .int .u64 d]) (.agg #[.int .u64 a', .int .u64 b', .int .u64 c', .int .u64 d'])).run Try.prog W = .ok (.bool (seE a b c d a' b' c' d')) W := by
  have h := eq41e a b c d a' b' c' d'
  simp [go_sem, h]
theorem set_neq (a b c d a' b' c' d' : Int) (W : World) : (binOp .neq 35 (.agg #[.int .u64 a, .int .u64 b, .int .u64 c, .int .u64 d]) (.agg #[.int .u64 a', .int .u64 b', .int .u64 c', .int .u64 d'])).run Try.prog W = .ok (.bool (!seE a b c d a' b' c' d')) W := by
  have h := eq41e a b c d a' b' c' d'
  simp [go_sem, h]
theorem seE_zero (op a b c d : Int) (h : ¬ op = 5) : seE a b c d 0 0 0 0 = seF op a b c d := by
  unfold seE seF
  rw [if_neg h]
  by_cases ha : a = 0 <;> by_cases hb : b = 0 <;> by_cases hc : c = 0 <;> by_cases hd : d = 0 <;> simp [ha, hb, hc, hd]
end Go.Proofs.Ytfomodpjdaclgab
