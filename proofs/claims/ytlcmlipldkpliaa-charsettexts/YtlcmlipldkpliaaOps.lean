/- DERIVED. Walks: Union, Meet, Not, by the program. -/
import Derived.Test.YtlcmlipldkpliaaWithA
import Derived.LoopN
namespace Go.Proofs.Ytlcmlipldkpliaa
open Go.RowKit

theorem wd_not (x : BitVec 256) (i : Nat) (hi : i < 4) : bits .xor .u64 IntKind.u64.max (wd x i) = wd (~~~ x) i := by
  have hm : IntKind.u64.max = 18446744073709551615 := rfl
  rw [hm, u64_xor _ _ (by omega) (by omega) (wd_lo _ _) (wd_hi _ _)]
  refine wd_of_testBit _ _ _ (Int.natCast_nonneg _) fun j => ?_
  rw [Int.toNat_natCast, Nat.testBit_xor, wd_testBit, BitVec.getLsbD_not]
  have e : (18446744073709551615 : Int).toNat = 2 ^ 64 - 1 := rfl
  rw [e, Nat.testBit_two_pow_sub_one]
  by_cases h : j < 64
  · have : 64 * i + j < 256 := by omega
    simp [h, this]
  · simp [h]

set_option maxHeartbeats 2000000 in
theorem not_any (x : BitVec 256) (w : World) :
    Calls Try.prog 20 #[sv x] w fun e w' => e = .returned (sv (~~~ x)) ∧ Below w.heap.size w w' := by
  have hsg : IntKind.u64.signed = false := rfl
  go_enter Try.func20, Try.ntmps20
  go_wp2
  refine wp_loop_rounds 5 ?_
  iterate 5
    rw [rounds_succ]
    go_wp2
  exact bodyPost_ret (v := .agg #[.int .u64 (bits BinOp.xor IntKind.u64 IntKind.u64.max (wd x 0)), .int .u64 (bits BinOp.xor IntKind.u64 IntKind.u64.max (wd x 1)), .int .u64 (bits BinOp.xor IntKind.u64 IntKind.u64.max (wd x 2)), .int .u64 (bits BinOp.xor IntKind.u64 IntKind.u64.max (wd x 3))]) (by simp [results, Try.results20, go_sem]) rfl ⟨ret_sv (wd_not x 0 (by omega)) (wd_not x 1 (by omega)) (wd_not x 2 (by omega)) (wd_not x 3 (by omega)), (((Below.refl _ _).alloc (Nat.le_refl _) _).alloc (by simp) _)⟩

set_option maxHeartbeats 2000000 in
theorem union_any (x y : BitVec 256) (w : World) :
    Calls Try.prog 14 #[sv x, sv y] w fun e w' => e = .returned (sv (x ||| y)) ∧ Below w.heap.size w w' := by
  go_enter Try.func14, Try.ntmps14
  go_wp2
  refine wp_loop_rounds 5 ?_
  iterate 4
    rw [rounds_succ]
    go_wp2
    go_region
    go_wp2
  rw [rounds_succ]
  go_wp2
  exact bodyPost_ret (v := .agg #[.int .u64 (bits BinOp.or IntKind.u64 (wd x 0) (wd y 0)), .int .u64 (bits BinOp.or IntKind.u64 (wd x 1) (wd y 1)), .int .u64 (bits BinOp.or IntKind.u64 (wd x 2) (wd y 2)), .int .u64 (bits BinOp.or IntKind.u64 (wd x 3) (wd y 3))]) (by simp [results, Try.results14, go_sem]) rfl ⟨ret_sv (wd_or x y 0) (wd_or x y 1) (wd_or x y 2) (wd_or x y 3), (Below.drew (Below.drew (Below.drew (Below.drew ((((Below.refl _ _).alloc (Nat.le_refl _) _).alloc (by simp) _).alloc (by simp; omega) _)))))⟩

set_option maxHeartbeats 2000000 in
theorem meet_any (x y : BitVec 256) (w : World) :
    Calls Try.prog 16 #[sv x, sv y] w fun e w' => e = .returned (sv (x &&& y)) ∧ Below w.heap.size w w' := by
  go_enter Try.func16, Try.ntmps16
  go_wp2
  refine wp_loop_rounds 5 ?_
  iterate 4
    rw [rounds_succ]
    go_wp2
    go_region
    go_wp2
  rw [rounds_succ]
  go_wp2
  exact bodyPost_ret (v := .agg #[.int .u64 (bits BinOp.and IntKind.u64 (wd x 0) (wd y 0)), .int .u64 (bits BinOp.and IntKind.u64 (wd x 1) (wd y 1)), .int .u64 (bits BinOp.and IntKind.u64 (wd x 2) (wd y 2)), .int .u64 (bits BinOp.and IntKind.u64 (wd x 3) (wd y 3))]) (by simp [results, Try.results16, go_sem]) rfl ⟨ret_sv (wd_and x y 0) (wd_and x y 1) (wd_and x y 2) (wd_and x y 3), (Below.drew (Below.drew (Below.drew (Below.drew ((((Below.refl _ _).alloc (Nat.le_refl _) _).alloc (by simp) _).alloc (by simp; omega) _)))))⟩

end Go.Proofs.Ytlcmlipldkpliaa
