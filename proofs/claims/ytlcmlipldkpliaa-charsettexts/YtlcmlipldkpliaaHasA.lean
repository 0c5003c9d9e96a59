/- DERIVED. Walks: Has, by the program and by the document. -/
import Derived.Test.YtlcmlipldkpliaaWithA
namespace Go.Proofs.Ytlcmlipldkpliaa
open Go.RowKit

def hasB (x : BitVec 256) (b : Int) : Bool := decide (0 ≤ b) && (decide (b ≤ 255) && x.getLsbD b.toNat)
theorem hasB_no (x : BitVec 256) (b : Int) (h : ¬ (0 ≤ b ∧ b ≤ 255)) : hasB x b = false := by
  unfold hasB
  by_cases h0 : 0 ≤ b
  · have : ¬ b ≤ 255 := fun h1 => h ⟨h0, h1⟩
    simp [this]
  · simp [h0]
theorem hasB_yes (x : BitVec 256) (b : Int) (h0 : 0 ≤ b) (h1 : b ≤ 255) : hasB x b = x.getLsbD b.toNat := by
  unfold hasB; simp [h0, h1]
theorem ret_bool {a b : Bool} (h : a = b) : Ending.returned (.bool a) = .returned (.bool b) := by rw [h]

set_option maxHeartbeats 1000000 in
theorem has_any (x : BitVec 256) (b : Int) (w : World) :
    Calls Try.prog 12 #[sv x, .int .i64 b] w fun e w' => e = .returned (.bool (hasB x b)) ∧ Below w.heap.size w w' := by
  by_cases hb : 0 ≤ b ∧ b ≤ 255
  · obtain ⟨h0, h1⟩ := hb
    have hi : (decide (0 ≤ b) && decide (b ≤ 255)) = true := by simp [h0, h1]
    have hy := (show Hid _ from hasB_yes x b h0 h1)
    have hq : b / 64 = 0 ∨ b / 64 = 1 ∨ b / 64 = 2 ∨ b / 64 = 3 := by omega
    rcases hq with hq | hq | hq | hq
    · have t1 : IntKind.i64.wrap (b.tdiv 64) = 0 := by rw [wrap_quo b h0 h1]; exact hq
      have hs := (show Hid _ from has_and x b.toNat 0 (by omega) (by omega))
      go_enter Try.func12, Try.ntmps12
      go_wp2
      go_quiet (first | (go_at_call 54; exact Calls.quiet_of_same (isByte_any _ _)) | (go_at_call 55; exact Calls.quiet_of_same (bit_any _ _ (by omega) (by omega))))
      go_wp2
      go_ret
      exact ⟨ret_bool (hs.out.trans hy.out.symm), below_drewN ((Below.refl _ _).alloc (Nat.le_refl _) _) _⟩
    · have t1 : IntKind.i64.wrap (b.tdiv 64) = 1 := by rw [wrap_quo b h0 h1]; exact hq
      have hs := (show Hid _ from has_and x b.toNat 1 (by omega) (by omega))
      go_enter Try.func12, Try.ntmps12
      go_wp2
      go_quiet (first | (go_at_call 54; exact Calls.quiet_of_same (isByte_any _ _)) | (go_at_call 55; exact Calls.quiet_of_same (bit_any _ _ (by omega) (by omega))))
      go_wp2
      go_ret
      exact ⟨ret_bool (hs.out.trans hy.out.symm), below_drewN ((Below.refl _ _).alloc (Nat.le_refl _) _) _⟩
    · have t1 : IntKind.i64.wrap (b.tdiv 64) = 2 := by rw [wrap_quo b h0 h1]; exact hq
      have hs := (show Hid _ from has_and x b.toNat 2 (by omega) (by omega))
      go_enter Try.func12, Try.ntmps12
      go_wp2
      go_quiet (first | (go_at_call 54; exact Calls.quiet_of_same (isByte_any _ _)) | (go_at_call 55; exact Calls.quiet_of_same (bit_any _ _ (by omega) (by omega))))
      go_wp2
      go_ret
      exact ⟨ret_bool (hs.out.trans hy.out.symm), below_drewN ((Below.refl _ _).alloc (Nat.le_refl _) _) _⟩
    · have t1 : IntKind.i64.wrap (b.tdiv 64) = 3 := by rw [wrap_quo b h0 h1]; exact hq
      have hs := (show Hid _ from has_and x b.toNat 3 (by omega) (by omega))
      go_enter Try.func12, Try.ntmps12
      go_wp2
      go_quiet (first | (go_at_call 54; exact Calls.quiet_of_same (isByte_any _ _)) | (go_at_call 55; exact Calls.quiet_of_same (bit_any _ _ (by omega) (by omega))))
      go_wp2
      go_ret
      exact ⟨ret_bool (hs.out.trans hy.out.symm), below_drewN ((Below.refl _ _).alloc (Nat.le_refl _) _) _⟩
  · have hi : (decide (0 ≤ b) && decide (b ≤ 255)) = false := by
      by_cases h0 : 0 ≤ b
      · have : ¬ b ≤ 255 := fun h1 => hb ⟨h0, h1⟩
        simp [this]
      · simp [h0]
    have hy := (show Hid _ from hasB_no x b hb)
    go_enter Try.func12, Try.ntmps12
    go_wp2
    go_quiet (first | (go_at_call 54; exact Calls.quiet_of_same (isByte_any _ _)) | (go_at_call 55; exact Calls.quiet_of_same (bit_any _ _ (by omega) (by omega))))
    go_wp2
    go_ret
    exact ⟨ret_bool hy.out.symm, below_drewN ((Below.refl _ _).alloc (Nat.le_refl _) _) _⟩

theorem has_shr' (x : BitVec 256) (b : Int) (h0 : 0 ≤ b) (i : Nat) (hi : b / 64 = (i : Int)) : (bits .and .u64 (wd x i / 2 ^ (b % 64).toNat) 1 == 1) = x.getLsbD b.toNat := by
  have h2 := has_shr x b.toNat i (by omega)
  obtain ⟨n, hn⟩ := Int.eq_ofNat_of_zero_le (wd_lo x i)
  have hlt := wd_hi x i
  rw [hn] at h2 hlt ⊢
  have e1 : (b % 64).toNat = b.toNat % 64 := by omega
  have e2 : (n : Int) / 2 ^ (b % 64).toNat = ((n / 2 ^ (b.toNat % 64) : Nat) : Int) := by rw [e1]; simp
  rw [e2, show (1 : Int) = ((1 : Nat) : Int) from rfl, u64_and_nat _ _ (Nat.lt_of_le_of_lt (Nat.div_le_self _ _) (by omega)) (by omega), nat_mask1]
  simp only [Int.toNat_natCast] at h2
  rw [h2]
  cases x.getLsbD b.toNat <;> rfl

set_option maxHeartbeats 1000000 in
theorem hasR_any (x : BitVec 256) (b : Int) (w : World) :
    Calls Try.prog 13 #[sv x, .int .i64 b] w fun e w' => e = .returned (.bool (hasB x b)) ∧ Below w.heap.size w w' := by
  by_cases h0 : 0 ≤ b
  · have d0 : decide (0 ≤ b) = true := by simpa using h0
    by_cases h1 : b ≤ 255
    · have d1 : decide (b ≤ 255) = true := by simpa using h1
      have hy := (show Hid _ from hasB_yes x b h0 h1)
      have hr : IntKind.i64.wrap (b.tmod 64) = b % 64 := by rw [Int.tmod_eq_emod_of_nonneg h0, IntKind.wrap_i64]; omega
      have hq : b / 64 = 0 ∨ b / 64 = 1 ∨ b / 64 = 2 ∨ b / 64 = 3 := by omega
      rcases hq with hq | hq | hq | hq
      · have t1 : IntKind.i64.wrap (b.tdiv 64) = 0 := by rw [wrap_quo b h0 h1]; exact hq
        have hs := (show Hid _ from has_shr' x b h0 0 hq)
        go_enter Try.func13, Try.ntmps13
        go_wp2
        go_ret
        exact ⟨ret_bool (hs.out.trans hy.out.symm), (Below.refl _ _).alloc (Nat.le_refl _) _⟩
      · have t1 : IntKind.i64.wrap (b.tdiv 64) = 1 := by rw [wrap_quo b h0 h1]; exact hq
        have hs := (show Hid _ from has_shr' x b h0 1 hq)
        go_enter Try.func13, Try.ntmps13
        go_wp2
        go_ret
        exact ⟨ret_bool (hs.out.trans hy.out.symm), (Below.refl _ _).alloc (Nat.le_refl _) _⟩
      · have t1 : IntKind.i64.wrap (b.tdiv 64) = 2 := by rw [wrap_quo b h0 h1]; exact hq
        have hs := (show Hid _ from has_shr' x b h0 2 hq)
        go_enter Try.func13, Try.ntmps13
        go_wp2
        go_ret
        exact ⟨ret_bool (hs.out.trans hy.out.symm), (Below.refl _ _).alloc (Nat.le_refl _) _⟩
      · have t1 : IntKind.i64.wrap (b.tdiv 64) = 3 := by rw [wrap_quo b h0 h1]; exact hq
        have hs := (show Hid _ from has_shr' x b h0 3 hq)
        go_enter Try.func13, Try.ntmps13
        go_wp2
        go_ret
        exact ⟨ret_bool (hs.out.trans hy.out.symm), (Below.refl _ _).alloc (Nat.le_refl _) _⟩
    · have d1 : decide (b ≤ 255) = false := by simpa using h1
      have hy := (show Hid _ from hasB_no x b (fun h => h1 h.2))
      go_enter Try.func13, Try.ntmps13
      go_wp2
      go_ret
      exact ⟨ret_bool hy.out.symm, (Below.refl _ _).alloc (Nat.le_refl _) _⟩
  · have d0 : decide (0 ≤ b) = false := by simpa using h0
    have hy := (show Hid _ from hasB_no x b (fun h => h0 h.1))
    go_enter Try.func13, Try.ntmps13
    go_wp2
    go_ret
    exact ⟨ret_bool hy.out.symm, (Below.refl _ _).alloc (Nat.le_refl _) _⟩
end Go.Proofs.Ytlcmlipldkpliaa
