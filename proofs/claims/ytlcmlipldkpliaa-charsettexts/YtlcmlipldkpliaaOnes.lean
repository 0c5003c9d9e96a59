/- DERIVED. Walks: OnesCount64. -/
import Derived.Test.YtlcmlipldkpliaaPop
namespace Go.Proofs.Ytlcmlipldkpliaa
open Go.RowKit

theorem wrapU (n : Nat) (h : n < 18446744073709551616) : IntKind.u64.wrap (n : Int) = (n : Int) := by rw [IntKind.wrap_u64]; omega

theorem st1 (x : Nat) (h : x < 18446744073709551616) : IntKind.u64.wrap (bits .and .u64 ((x : Int) / 2) 6148914691236517205 + bits .and .u64 (x : Int) 6148914691236517205) = ((((x / 2) &&& 6148914691236517205) + (x &&& 6148914691236517205) : Nat) : Int) := by
  have a : bits .and .u64 ((x / 2 : Nat) : Int) 6148914691236517205 = (((x / 2) &&& 6148914691236517205 : Nat) : Int) := u64_and_nat (x / 2) 6148914691236517205 (by omega) (by omega)
  have b : bits .and .u64 (x : Int) 6148914691236517205 = ((x &&& 6148914691236517205 : Nat) : Int) := u64_and_nat x 6148914691236517205 (by omega) (by omega)
  have c : ((x : Int) / 2) = ((x / 2 : Nat) : Int) := by omega
  rw [c, a, b]
  have l1 : (x / 2) &&& 6148914691236517205 ≤ 6148914691236517205 := Nat.and_le_right
  have l2 : x &&& 6148914691236517205 ≤ 6148914691236517205 := Nat.and_le_right
  generalize (x / 2) &&& 6148914691236517205 = p at *
  generalize x &&& 6148914691236517205 = q at *
  rw [IntKind.wrap_u64]; omega
theorem st1_le (x : Nat) : ((x / 2) &&& 6148914691236517205) + (x &&& 6148914691236517205) < 18446744073709551616 := by
  have l1 : (x / 2) &&& 6148914691236517205 ≤ 6148914691236517205 := Nat.and_le_right
  have l2 : x &&& 6148914691236517205 ≤ 6148914691236517205 := Nat.and_le_right
  omega
theorem st2 (x : Nat) (h : x < 18446744073709551616) : IntKind.u64.wrap (bits .and .u64 ((x : Int) / 4) 3689348814741910323 + bits .and .u64 (x : Int) 3689348814741910323) = ((((x / 4) &&& 3689348814741910323) + (x &&& 3689348814741910323) : Nat) : Int) := by
  have a : bits .and .u64 ((x / 4 : Nat) : Int) 3689348814741910323 = (((x / 4) &&& 3689348814741910323 : Nat) : Int) := u64_and_nat (x / 4) 3689348814741910323 (by omega) (by omega)
  have b : bits .and .u64 (x : Int) 3689348814741910323 = ((x &&& 3689348814741910323 : Nat) : Int) := u64_and_nat x 3689348814741910323 (by omega) (by omega)
  have c : ((x : Int) / 4) = ((x / 4 : Nat) : Int) := by omega
  rw [c, a, b]
  have l1 : (x / 4) &&& 3689348814741910323 ≤ 3689348814741910323 := Nat.and_le_right
  have l2 : x &&& 3689348814741910323 ≤ 3689348814741910323 := Nat.and_le_right
  generalize (x / 4) &&& 3689348814741910323 = p at *
  generalize x &&& 3689348814741910323 = q at *
  rw [IntKind.wrap_u64]; omega
theorem st2_le (x : Nat) : ((x / 4) &&& 3689348814741910323) + (x &&& 3689348814741910323) ≤ 7378697629483820646 := by
  have l1 : (x / 4) &&& 3689348814741910323 ≤ 3689348814741910323 := Nat.and_le_right
  have l2 : x &&& 3689348814741910323 ≤ 3689348814741910323 := Nat.and_le_right
  omega
theorem st3 (x : Nat) (h : x ≤ 7378697629483820646) : bits .and .u64 (IntKind.u64.wrap ((x : Int) / 16 + (x : Int))) 1085102592571150095 = (((x / 16 + x) &&& 1085102592571150095 : Nat) : Int) := by
  have c : IntKind.u64.wrap ((x : Int) / 16 + (x : Int)) = ((x / 16 + x : Nat) : Int) := by rw [IntKind.wrap_u64]; omega
  rw [c]
  exact u64_and_nat (x / 16 + x) 1085102592571150095 (by omega) (by omega)
theorem st4 (x : Nat) (h : x ≤ 1085102592571150095) : IntKind.u64.wrap ((x : Int) + (x : Int) / 256) = ((x + x / 256 : Nat) : Int) := by rw [IntKind.wrap_u64]; omega
theorem st5 (x : Nat) (h : x ≤ 1185102592571150095) : IntKind.u64.wrap ((x : Int) + (x : Int) / 65536) = ((x + x / 65536 : Nat) : Int) := by rw [IntKind.wrap_u64]; omega
theorem st6 (x : Nat) (h : x ≤ 1285102592571150095) : IntKind.u64.wrap ((x : Int) + (x : Int) / 4294967296) = ((x + x / 4294967296 : Nat) : Int) := by rw [IntKind.wrap_u64]; omega
theorem st7 (x : Nat) (h : x ≤ 1385102592571150095) : bits .and .i64 (x : Int) 127 = ((x % 128 : Nat) : Int) := by
  rw [← Nat.and_two_pow_sub_one_eq_mod x 7]
  have h1 : (BitVec.ofInt 64 (x : Int)).toNat = x := ofInt_u64 x (by omega)
  have hx : x &&& 127 ≤ 127 := Nat.and_le_right
  show IntKind.i64.wrap ((BitVec.ofInt 64 (x : Int) &&& BitVec.ofInt 64 127).toNat : Int) = _
  rw [BitVec.toNat_and, h1, show (BitVec.ofInt 64 127).toNat = 127 from rfl, IntKind.wrap_i64]
  show _ = ((x &&& 127 : Nat) : Int)
  omega

theorem ones_steps (x : Nat) (h : x < 18446744073709551616) : ∃ x1 x2 x3 x4 x5 x6 : Nat,
    IntKind.u64.wrap (bits .and .u64 ((x : Int) / 2) 6148914691236517205 + bits .and .u64 (x : Int) 6148914691236517205) = (x1 : Int) ∧
    IntKind.u64.wrap (bits .and .u64 ((x1 : Int) / 4) 3689348814741910323 + bits .and .u64 (x1 : Int) 3689348814741910323) = (x2 : Int) ∧
    bits .and .u64 (IntKind.u64.wrap ((x2 : Int) / 16 + (x2 : Int))) 1085102592571150095 = (x3 : Int) ∧
    IntKind.u64.wrap ((x3 : Int) + (x3 : Int) / 256) = (x4 : Int) ∧
    IntKind.u64.wrap ((x4 : Int) + (x4 : Int) / 65536) = (x5 : Int) ∧
    IntKind.u64.wrap ((x5 : Int) + (x5 : Int) / 4294967296) = (x6 : Int) ∧
    x6 ≤ 1385102592571150095 ∧ Hid (x6 % 128 = pop64 x) := by
  have b3 : ∀ y : Nat, y &&& 1085102592571150095 ≤ 1085102592571150095 := fun y => Nat.and_le_right
  refine ⟨_, _, _, _, _, _, st1 x h, st2 _ (st1_le x), st3 _ (st2_le _), st4 _ (b3 _), st5 _ ?_, st6 _ ?_, ?_, rfl⟩
  · have := b3 ((((((x / 2) &&& 6148914691236517205) + (x &&& 6148914691236517205)) / 4 &&& 3689348814741910323) + ((((x / 2) &&& 6148914691236517205) + (x &&& 6148914691236517205)) &&& 3689348814741910323)) / 16 + (((((x / 2) &&& 6148914691236517205) + (x &&& 6148914691236517205)) / 4 &&& 3689348814741910323) + ((((x / 2) &&& 6148914691236517205) + (x &&& 6148914691236517205)) &&& 3689348814741910323)))
    generalize (_ &&& 1085102592571150095 : Nat) = z at *
    omega
  · have := b3 ((((((x / 2) &&& 6148914691236517205) + (x &&& 6148914691236517205)) / 4 &&& 3689348814741910323) + ((((x / 2) &&& 6148914691236517205) + (x &&& 6148914691236517205)) &&& 3689348814741910323)) / 16 + (((((x / 2) &&& 6148914691236517205) + (x &&& 6148914691236517205)) / 4 &&& 3689348814741910323) + ((((x / 2) &&& 6148914691236517205) + (x &&& 6148914691236517205)) &&& 3689348814741910323)))
    generalize (_ &&& 1085102592571150095 : Nat) = z at *
    omega
  · have := b3 ((((((x / 2) &&& 6148914691236517205) + (x &&& 6148914691236517205)) / 4 &&& 3689348814741910323) + ((((x / 2) &&& 6148914691236517205) + (x &&& 6148914691236517205)) &&& 3689348814741910323)) / 16 + (((((x / 2) &&& 6148914691236517205) + (x &&& 6148914691236517205)) / 4 &&& 3689348814741910323) + ((((x / 2) &&& 6148914691236517205) + (x &&& 6148914691236517205)) &&& 3689348814741910323)))
    generalize (_ &&& 1085102592571150095 : Nat) = z at *
    omega

set_option maxHeartbeats 1000000 in
theorem ones_any (x : Nat) (w : World) (h : x < 18446744073709551616) :
    Calls Try.prog 64 #[.int .u64 x] w fun e w' => e = .returned (.int .i64 (pop64 x)) ∧ w' = w := by
  obtain ⟨x1, x2, x3, x4, x5, x6, e1, e2, e3, e4, e5, e6, h6, HP⟩ := ones_steps x h
  have e7 := st7 x6 h6
  have e8 : IntKind.i64.wrap (x6 : Int) = (x6 : Int) := by rw [IntKind.wrap_i64]; omega
  go_enter Try.func64, Try.ntmps64
  go_wp2
  go_ret
  exact ⟨ret_int (by have := HP.out; omega), rfl⟩
end Go.Proofs.Ytlcmlipldkpliaa
