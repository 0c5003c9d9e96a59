/- DERIVED. Walks: Count, by the program. -/
import Derived.Test.YtlcmlipldkpliaaOnes
import Derived.Test.YtlcmlipldkpliaaBys
import Derived.LoopN
namespace Go.Proofs.Ytlcmlipldkpliaa
open Go.RowKit

theorem onesW_any (x : BitVec 256) (i : Nat) (w : World) :
    Calls Try.prog 64 #[.int .u64 (wd x i)] w fun e w' => e = .returned (.int .i64 (pop64 (wd x i).toNat)) ∧ w' = w := by
  have h := ones_any (wd x i).toNat w (by have := wd_hi x i; have := wd_lo x i; omega)
  rw [Int.toNat_of_nonneg (wd_lo x i)] at h
  exact h

set_option maxHeartbeats 1000000 in
theorem count_any (x : BitVec 256) (w : World) :
    Calls Try.prog 30 #[sv x] w fun e w' => e = .returned (.int .i64 (cnt x)) ∧ Below w.heap.size w w' := by
  have i0 : ∀ (a b c d : Value) w, (Instr.index 24 (.agg #[a, b, c, d]) (.int .i64 0)).run Try.prog w = .ok a w := fun _ _ _ _ _ => by kernel_rfl
  have i1 : ∀ (a b c d : Value) w, (Instr.index 24 (.agg #[a, b, c, d]) (.int .i64 1)).run Try.prog w = .ok b w := fun _ _ _ _ _ => by kernel_rfl
  have i2 : ∀ (a b c d : Value) w, (Instr.index 24 (.agg #[a, b, c, d]) (.int .i64 2)).run Try.prog w = .ok c w := fun _ _ _ _ _ => by kernel_rfl
  have i3 : ∀ (a b c d : Value) w, (Instr.index 24 (.agg #[a, b, c, d]) (.int .i64 3)).run Try.prog w = .ok d w := fun _ _ _ _ _ => by kernel_rfl
  have HC := (show Hid _ from cnt_words x)
  have hl : ∀ i, pop64 (wd x i).toNat ≤ 64 := fun i => by
    rw [pop64_eq _ (by have := wd_hi x i; have := wd_lo x i; omega)]; exact cntTo_le _ _
  have l0 := hl 0
  have l1 := hl 1
  have l2 := hl 2
  have l3 := hl 3
  clear hl
  go_enter Try.func30, Try.ntmps30
  go_wp2
  refine wp_loop_rounds 5 ?_
  iterate 5
    rw [rounds_succ]
    go_wp2_with (go_at_call 64; refine (onesW_any _ _ _).mono ?_; rintro e w' ⟨rfl, rfl⟩)
  go_ret
  exact ⟨ret_int (by rw [HC.out]; omega), (Below.refl _ _).alloc (Nat.le_refl _) _⟩
end Go.Proofs.Ytlcmlipldkpliaa
