/- DERIVED. Walks: the document's With. -/
import Derived.Test.YtiillgahnbimjaaDoorWithA
namespace Go.Proofs.YtiillgahnbimjaaDoor
open Go.RowKit

set_option maxHeartbeats 1000000 in
theorem withR_any (x : BitVec 256) (b : Int) (w : World) (h0 : 0 ≤ b) (h1 : b ≤ 255) :
    Calls Tryd.prog 50 #[sv x, .int .i64 b] w fun e w' => e = .returned (sv (x ||| bt b.toNat)) ∧ Below w.heap.size w w' := by
  have hq : b / 64 = 0 ∨ b / 64 = 1 ∨ b / 64 = 2 ∨ b / 64 = 3 := by omega
  have hr : IntKind.i64.wrap (b.tmod 64) = b % 64 := by rw [Int.tmod_eq_emod_of_nonneg h0, IntKind.wrap_i64]; omega
  have hr0 : 0 ≤ b % 64 := by omega
  have hr1 : b % 64 < 64 := by omega
  have hp := pw_of b h0
  rcases hq with hq | hq | hq | hq
  · have hs := (show Hid _ from wds_with x b h0 h1 0 hq)
    have t1 : IntKind.i64.wrap (b.tdiv 64) = 0 := by rw [wrap_quo b h0 h1]; exact hq
    go_enter Tryd.func50, Tryd.ntmps50
    go_wp2
    go_region
    all_goals
      go_wp2
      replace hs := hs.out
      exact bodyPost_ret (v := .agg #[.int .u64 (bits BinOp.or IntKind.u64 (wd x 0) (pw b.toNat)), .int .u64 (wd x 1), .int .u64 (wd x 2), .int .u64 (wd x 3)]) (by simp [results, Tryd.results50, go_sem]) rfl ⟨ret_sv hs.1 (hs.2 1 (by omega)) (hs.2 2 (by omega)) (hs.2 3 (by omega)), (((Below.refl _ _).alloc (Nat.le_refl _) _).alloc (by simp) _).drew⟩
  · have hs := (show Hid _ from wds_with x b h0 h1 1 hq)
    have t1 : IntKind.i64.wrap (b.tdiv 64) = 1 := by rw [wrap_quo b h0 h1]; exact hq
    go_enter Tryd.func50, Tryd.ntmps50
    go_wp2
    go_region
    all_goals
      go_wp2
      replace hs := hs.out
      exact bodyPost_ret (v := .agg #[.int .u64 (wd x 0), .int .u64 (bits BinOp.or IntKind.u64 (wd x 1) (pw b.toNat)), .int .u64 (wd x 2), .int .u64 (wd x 3)]) (by simp [results, Tryd.results50, go_sem]) rfl ⟨ret_sv (hs.2 0 (by omega)) hs.1 (hs.2 2 (by omega)) (hs.2 3 (by omega)), (((Below.refl _ _).alloc (Nat.le_refl _) _).alloc (by simp) _).drew⟩
  · have hs := (show Hid _ from wds_with x b h0 h1 2 hq)
    have t1 : IntKind.i64.wrap (b.tdiv 64) = 2 := by rw [wrap_quo b h0 h1]; exact hq
    go_enter Tryd.func50, Tryd.ntmps50
    go_wp2
    go_region
    all_goals
      go_wp2
      replace hs := hs.out
      exact bodyPost_ret (v := .agg #[.int .u64 (wd x 0), .int .u64 (wd x 1), .int .u64 (bits BinOp.or IntKind.u64 (wd x 2) (pw b.toNat)), .int .u64 (wd x 3)]) (by simp [results, Tryd.results50, go_sem]) rfl ⟨ret_sv (hs.2 0 (by omega)) (hs.2 1 (by omega)) hs.1 (hs.2 3 (by omega)), (((Below.refl _ _).alloc (Nat.le_refl _) _).alloc (by simp) _).drew⟩
  · have hs := (show Hid _ from wds_with x b h0 h1 3 hq)
    have t1 : IntKind.i64.wrap (b.tdiv 64) = 3 := by rw [wrap_quo b h0 h1]; exact hq
    go_enter Tryd.func50, Tryd.ntmps50
    go_wp2
    go_region
    all_goals
      go_wp2
      replace hs := hs.out
      exact bodyPost_ret (v := .agg #[.int .u64 (wd x 0), .int .u64 (wd x 1), .int .u64 (wd x 2), .int .u64 (bits BinOp.or IntKind.u64 (wd x 3) (pw b.toNat))]) (by simp [results, Tryd.results50, go_sem]) rfl ⟨ret_sv (hs.2 0 (by omega)) (hs.2 1 (by omega)) (hs.2 2 (by omega)) hs.1, (((Below.refl _ _).alloc (Nat.le_refl _) _).alloc (by simp) _).drew⟩
end Go.Proofs.YtiillgahnbimjaaDoor
