/- DERIVED. What '==' says of two sets. -/
import Derived.Test.YtlcmlipldkpliaaSlots
namespace Go.Proofs.Ytlcmlipldkpliaa
open Go.RowKit
theorem eqW (x y : BitVec 256) : (x == y) = (wd x 0 == wd y 0 && (wd x 1 == wd y 1 && (wd x 2 == wd y 2 && wd x 3 == wd y 3))) := by
  rw [Bool.eq_iff_iff]
  simp only [Bool.and_eq_true, beq_iff_eq]
  exact ⟨fun h => by rw [h]; simp, fun ⟨a, b, c, d⟩ => set_ext x y a b c d⟩
theorem eq24w (a b c d a' b' c' d' : Int) (w : World) : (Op.equalIn 10000 24 (.agg #[.int .u64 a, .int .u64 b, .int .u64 c, .int .u64 d]) (.agg #[.int .u64 a', .int .u64 b', .int .u64 c', .int .u64 d'])).run Try.prog w = .ok (a == a' && (b == b' && (c == c' && d == d'))) w := by
  have u3 := Try.underlying22
  have a3 := Try.isAgg22
  have z3 := Try.sizeOf22
  rw [show (10000 : Nat) = 9999 + 1 from rfl, Op.equalIn]
  simp only [Sem.run_bind, run_underlying Try.underlying24, Result.andThen_ok]
  simp only [Std.Legacy.Range.forIn_eq_forIn_range', Std.Legacy.Range.size, Nat.sub_zero, Nat.add_sub_cancel, Nat.div_one, List.range'_succ, List.range'_zero, List.forIn_cons, List.forIn_nil]
  go_simp
  by_cases h1 : a = a' <;> by_cases h2 : b = b' <;> by_cases h3 : c = c' <;> by_cases h4 : d = d' <;> simp [h1, h2, h3, h4]
theorem eq24 (x y : BitVec 256) (w : World) : (Op.equalIn 10000 24 (.agg #[.int .u64 (wd x 0), .int .u64 (wd x 1), .int .u64 (wd x 2), .int .u64 (wd x 3)]) (.agg #[.int .u64 (wd y 0), .int .u64 (wd y 1), .int .u64 (wd y 2), .int .u64 (wd y 3)])).run Try.prog w = .ok (x == y) w := by
  rw [eq24w, eqW]
end Go.Proofs.Ytlcmlipldkpliaa
