/- DERIVED. Walks: isByte, bit, with. -/
import Derived.Test.YtiillgahnbimjaaDoorPlA
import Derived.Test.YtiillgahnbimjaaDoorProg
import Derived.Test.YtiillgahnbimjaaDoorMath
import Derived.WalkKit
import Derived.WalkSpells
import Derived.WalkLawsBesides
import Derived.Deep.QuietTactic
import Derived.BigQuiet
import Derived.Deep.RegionHeld3
namespace Go.Proofs.YtiillgahnbimjaaDoor
open Go.RowKit

set_option maxHeartbeats 400000 in
theorem isByte_any (b : Int) (w : World) :
    Calls Tryd.prog 54 #[.int .i64 b] w fun e w' => e = .returned (.bool (decide (0 ≤ b) && decide (b ≤ 255))) ∧ w' = w := by
  by_cases h0 : 0 ≤ b
  · have hd : decide (0 ≤ b) = true := by simpa using h0
    go_enter Tryd.func54, Tryd.ntmps54
    go_wp2
    go_ret
    exact ⟨by simp [h0], rfl⟩
  · have hd : decide (0 ≤ b) = false := by simpa using h0
    go_enter Tryd.func54, Tryd.ntmps54
    go_wp2
    go_ret
    exact ⟨by simp, rfl⟩


abbrev sv (x : BitVec 256) : Value := .agg #[.int .u64 (wd x 0), .int .u64 (wd x 1), .int .u64 (wd x 2), .int .u64 (wd x 3)]

theorem ret_int {k : IntKind} {a b : Int} (h : a = b) : Ending.returned (.int k a) = .returned (.int k b) := by rw [h]

set_option maxHeartbeats 400000 in
theorem bit_any (b : Int) (w : World) (h0 : 0 ≤ b) (h1 : b ≤ 255) :
    Calls Tryd.prog 56 #[.int .i64 b] w fun e w' => e = .returned (.int .u64 (pw b.toNat)) ∧ w' = w := by
  go_enter Tryd.func56, Tryd.ntmps56
  go_wp2
  go_ret
  exact ⟨ret_int (pw_of b h0), rfl⟩

theorem ret_sv {a b c d : Int} {y : BitVec 256} (h0 : a = wd y 0) (h1 : b = wd y 1) (h2 : c = wd y 2) (h3 : d = wd y 3) : Ending.returned (.agg #[.int .u64 a, .int .u64 b, .int .u64 c, .int .u64 d]) = .returned (sv y) := by
  rw [h0, h1, h2, h3]

set_option maxHeartbeats 1000000 in
theorem with_any (x : BitVec 256) (b : Int) (w : World) (h0 : 0 ≤ b) (h1 : b ≤ 255) :
    Calls Tryd.prog 55 #[sv x, .int .i64 b] w fun e w' => e = .returned (sv (x ||| bt b.toNat)) ∧ Below w.heap.size w w' := by
  have hq : b / 64 = 0 ∨ b / 64 = 1 ∨ b / 64 = 2 ∨ b / 64 = 3 := by omega
  rcases hq with hq | hq | hq | hq
  · have hs := (show Hid _ from wds_with x b h0 h1 0 hq)
    have t1 : IntKind.i64.wrap (b.tdiv 64) = 0 := by rw [wrap_quo b h0 h1]; exact hq
    go_enter Tryd.func55, Tryd.ntmps55
    go_wp2
    go_region_with ((go_at_call 56; refine (bit_any _ _ (by omega) (by omega)).mono ?_; rintro e w' ⟨rfl, rfl⟩))
    all_goals
      go_wp2
      replace hs := hs.out
      exact bodyPost_ret (v := .agg #[.int .u64 (bits BinOp.or IntKind.u64 (wd x 0) (pw b.toNat)), .int .u64 (wd x 1), .int .u64 (wd x 2), .int .u64 (wd x 3)]) (by simp [results, Tryd.results55, go_sem]) rfl ⟨ret_sv hs.1 (hs.2 1 (by omega)) (hs.2 2 (by omega)) (hs.2 3 (by omega)), (((Below.refl _ _).alloc (Nat.le_refl _) _).alloc (by simp) _).drew⟩
  · have hs := (show Hid _ from wds_with x b h0 h1 1 hq)
    have t1 : IntKind.i64.wrap (b.tdiv 64) = 1 := by rw [wrap_quo b h0 h1]; exact hq
    go_enter Tryd.func55, Tryd.ntmps55
    go_wp2
    go_region_with ((go_at_call 56; refine (bit_any _ _ (by omega) (by omega)).mono ?_; rintro e w' ⟨rfl, rfl⟩))
    all_goals
      go_wp2
      replace hs := hs.out
      exact bodyPost_ret (v := .agg #[.int .u64 (wd x 0), .int .u64 (bits BinOp.or IntKind.u64 (wd x 1) (pw b.toNat)), .int .u64 (wd x 2), .int .u64 (wd x 3)]) (by simp [results, Tryd.results55, go_sem]) rfl ⟨ret_sv (hs.2 0 (by omega)) hs.1 (hs.2 2 (by omega)) (hs.2 3 (by omega)), (((Below.refl _ _).alloc (Nat.le_refl _) _).alloc (by simp) _).drew⟩
  · have hs := (show Hid _ from wds_with x b h0 h1 2 hq)
    have t1 : IntKind.i64.wrap (b.tdiv 64) = 2 := by rw [wrap_quo b h0 h1]; exact hq
    go_enter Tryd.func55, Tryd.ntmps55
    go_wp2
    go_region_with ((go_at_call 56; refine (bit_any _ _ (by omega) (by omega)).mono ?_; rintro e w' ⟨rfl, rfl⟩))
    all_goals
      go_wp2
      replace hs := hs.out
      exact bodyPost_ret (v := .agg #[.int .u64 (wd x 0), .int .u64 (wd x 1), .int .u64 (bits BinOp.or IntKind.u64 (wd x 2) (pw b.toNat)), .int .u64 (wd x 3)]) (by simp [results, Tryd.results55, go_sem]) rfl ⟨ret_sv (hs.2 0 (by omega)) (hs.2 1 (by omega)) hs.1 (hs.2 3 (by omega)), (((Below.refl _ _).alloc (Nat.le_refl _) _).alloc (by simp) _).drew⟩
  · have hs := (show Hid _ from wds_with x b h0 h1 3 hq)
    have t1 : IntKind.i64.wrap (b.tdiv 64) = 3 := by rw [wrap_quo b h0 h1]; exact hq
    go_enter Tryd.func55, Tryd.ntmps55
    go_wp2
    go_region_with ((go_at_call 56; refine (bit_any _ _ (by omega) (by omega)).mono ?_; rintro e w' ⟨rfl, rfl⟩))
    all_goals
      go_wp2
      replace hs := hs.out
      exact bodyPost_ret (v := .agg #[.int .u64 (wd x 0), .int .u64 (wd x 1), .int .u64 (wd x 2), .int .u64 (bits BinOp.or IntKind.u64 (wd x 3) (pw b.toNat))]) (by simp [results, Tryd.results55, go_sem]) rfl ⟨ret_sv (hs.2 0 (by omega)) (hs.2 1 (by omega)) (hs.2 2 (by omega)) hs.1, (((Below.refl _ _).alloc (Nat.le_refl _) _).alloc (by simp) _).drew⟩
end Go.Proofs.YtiillgahnbimjaaDoor
