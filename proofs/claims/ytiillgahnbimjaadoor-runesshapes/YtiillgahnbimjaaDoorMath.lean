/- Plain mathematics: a set of bytes as a number of 256 bits; its four words. -/
import Derived.WalkKit
namespace Go.Proofs.YtiillgahnbimjaaDoor
open Go.RowKit

/-- Word i of a set. -/
def wd (x : BitVec 256) (i : Nat) : Int := ((x.extractLsb' (64 * i) 64).toNat : Int)

/-- The set of one byte. -/
def bt (b : Nat) : BitVec 256 := 1#256 <<< b

theorem wd_lo (x : BitVec 256) (i : Nat) : 0 ≤ wd x i := by unfold wd; omega
theorem wd_hi (x : BitVec 256) (i : Nat) : wd x i < 18446744073709551616 := by
  unfold wd; have := (x.extractLsb' (64 * i) 64).isLt; omega
theorem wd_toNat (x : BitVec 256) (i : Nat) : (wd x i).toNat = (x.extractLsb' (64 * i) 64).toNat := by unfold wd; omega
theorem wd_testBit (x : BitVec 256) (i j : Nat) : (wd x i).toNat.testBit j = (decide (j < 64) && x.getLsbD (64 * i + j)) := by
  rw [wd_toNat, BitVec.testBit_toNat, BitVec.getLsbD_extractLsb']

theorem wd_of_testBit (x : BitVec 256) (i : Nat) (n : Int) (h0 : 0 ≤ n) (h : ∀ j, n.toNat.testBit j = (decide (j < 64) && x.getLsbD (64 * i + j))) : n = wd x i := by
  have : n.toNat = (wd x i).toNat := Nat.eq_of_testBit_eq fun j => by rw [h j, wd_testBit]
  have := wd_lo x i
  omega

theorem wd_or (x y : BitVec 256) (i : Nat) : bits .or .u64 (wd x i) (wd y i) = wd (x ||| y) i := by
  rw [u64_or _ _ (wd_lo _ _) (wd_hi _ _) (wd_lo _ _) (wd_hi _ _)]
  refine wd_of_testBit _ _ _ (by omega) fun j => ?_
  rw [Int.toNat_natCast, Nat.testBit_or, wd_testBit, wd_testBit, BitVec.getLsbD_or]
  cases decide (j < 64) <;> simp
theorem wd_and (x y : BitVec 256) (i : Nat) : bits .and .u64 (wd x i) (wd y i) = wd (x &&& y) i := by
  rw [u64_and _ _ (wd_lo _ _) (wd_hi _ _) (wd_lo _ _) (wd_hi _ _)]
  refine wd_of_testBit _ _ _ (by omega) fun j => ?_
  rw [Int.toNat_natCast, Nat.testBit_and, wd_testBit, wd_testBit, BitVec.getLsbD_and]
  cases decide (j < 64) <;> simp

theorem bt_get (b j : Nat) (hb : b < 256) : (bt b).getLsbD j = decide (j = b) := by
  unfold bt
  rw [BitVec.getLsbD_shiftLeft]
  by_cases h : j = b
  · subst h; simp [hb]
  · by_cases h1 : j < b
    · simp [h1, h]
    · by_cases h2 : j < 256
      · have : j - b ≠ 0 := by omega
        simp [h, h2, BitVec.getLsbD_one, this]
      · simp [h, h2]

/-- The word of one bit, as the walk writes it. -/
theorem pow_wrap (k : Nat) (h : k < 64) : IntKind.u64.wrap (2 ^ k) = ((2 ^ k : Nat) : Int) := by
  rw [IntKind.wrap_u64]
  have h1 : 2 ^ k < 2 ^ 64 := Nat.pow_lt_pow_right (by omega) h
  have h2 : ((2 ^ k : Nat) : Int) = (2 : Int) ^ k := by simp
  rw [← h2]
  generalize 2 ^ k = n at *
  omega

theorem wd_bt_same (b i : Nat) (hb : b < 256) (hi : b / 64 = i) : wd (bt b) i = ((2 ^ (b % 64) : Nat) : Int) := by
  refine (wd_of_testBit _ _ _ (Int.natCast_nonneg _) fun j => ?_).symm
  rw [Int.toNat_natCast, Nat.testBit_two_pow, bt_get _ _ hb]
  by_cases h : b % 64 = j
  · have : j < 64 := by omega
    have h2 : 64 * i + j = b := by omega
    simp [h, this, h2]
  · by_cases h3 : j < 64
    · have h2 : ¬ 64 * i + j = b := by omega
      simp [h, h2]
    · simp [h, h3]
theorem wd_bt_other (b i : Nat) (hb : b < 256) (hi : b / 64 ≠ i) : wd (bt b) i = 0 := by
  refine (wd_of_testBit _ _ _ (by omega) fun j => ?_).symm
  rw [bt_get _ _ hb]
  by_cases h3 : j < 64
  · have h2 : ¬ 64 * i + j = b := by omega
    simp [h2]
  · simp [h3]

theorem bits_or_zero (x : BitVec 256) (i : Nat) : bits .or .u64 (wd x i) 0 = wd x i := by
  rw [u64_or _ _ (wd_lo _ _) (wd_hi _ _) (by omega) (by omega)]
  have := wd_lo x i
  simp; omega

/-- The word in which the byte lies. -/
theorem wd_with_same (x : BitVec 256) (b i : Nat) (hb : b < 256) (hi : b / 64 = i) : bits .or .u64 (wd x i) (((2 ^ (b % 64) : Nat) : Int)) = wd (x ||| bt b) i := by
  rw [← wd_bt_same b i hb hi, wd_or]
theorem wd_with_other (x : BitVec 256) (b i : Nat) (hb : b < 256) (hi : b / 64 ≠ i) : wd (x ||| bt b) i = wd x i := by
  rw [← wd_or, wd_bt_other b i hb hi, bits_or_zero]

theorem pow_lt64 (b : Nat) : ((2 ^ (b % 64) : Nat) : Int) < 18446744073709551616 := by
  have : 2 ^ (b % 64) < 2 ^ 64 := Nat.pow_lt_pow_right (by omega) (Nat.mod_lt _ (by omega))
  omega

theorem has_and (x : BitVec 256) (b i : Nat) (hb : b < 256) (hi : b / 64 = i) : (bits .and .u64 (wd x i) (((2 ^ (b % 64) : Nat) : Int)) != 0) = x.getLsbD b := by
  rw [← wd_bt_same b i hb hi, wd_and]
  cases h : x.getLsbD b with
  | true =>
    have h1 : (wd (x &&& bt b) i).toNat.testBit (b % 64) = true := by
      rw [wd_testBit, BitVec.getLsbD_and, bt_get _ _ hb]
      have : 64 * i + b % 64 = b := by omega
      simp [this, h]; omega
    rw [bne_iff_ne]
    intro h2
    rw [h2] at h1
    simp at h1
  | false =>
    have : wd (x &&& bt b) i = 0 := by
      refine (wd_of_testBit _ _ _ (by omega) fun j => ?_).symm
      rw [BitVec.getLsbD_and, bt_get _ _ hb]
      by_cases h2 : 64 * i + j = b
      · simp [h2, h]
      · simp [h2]
    rw [this]; rfl

theorem has_shr (x : BitVec 256) (b i : Nat) (hi : b / 64 = i) : (wd x i).toNat / 2 ^ (b % 64) % 2 = (x.getLsbD b).toNat := by
  have h := wd_testBit x i (b % 64)
  have h2 : 64 * i + b % 64 = b := by omega
  have h3 : b % 64 < 64 := by omega
  rw [h2] at h
  simp only [h3, decide_true, Bool.true_and] at h
  rw [← h, Nat.testBit_eq_decide_div_mod_eq]
  have := Nat.mod_two_eq_zero_or_one ((wd x i).toNat / 2 ^ (b % 64))
  rcases this with e | e <;> simp [e]

theorem set_ext (x y : BitVec 256) (h0 : wd x 0 = wd y 0) (h1 : wd x 1 = wd y 1) (h2 : wd x 2 = wd y 2) (h3 : wd x 3 = wd y 3) : x = y := by
  apply BitVec.eq_of_getLsbD_eq
  intro j hj
  have key : ∀ i, wd x i = wd y i → j / 64 = i → x.getLsbD j = y.getLsbD j := fun i e hi => by
    have a := wd_testBit x i (j % 64)
    rw [e, wd_testBit] at a
    have e1 : 64 * i + j % 64 = j := by omega
    have e2 : j % 64 < 64 := by omega
    rw [e1] at a
    simpa [e2] using a.symm
  have : j / 64 = 0 ∨ j / 64 = 1 ∨ j / 64 = 2 ∨ j / 64 = 3 := by omega
  rcases this with e | e | e | e
  · exact key 0 h0 e
  · exact key 1 h1 e
  · exact key 2 h2 e
  · exact key 3 h3 e

/-- Any four words are a set's. -/
theorem set_of (a b c d : Int) (ha : 0 ≤ a ∧ a < 18446744073709551616) (hb : 0 ≤ b ∧ b < 18446744073709551616) (hc : 0 ≤ c ∧ c < 18446744073709551616) (hd : 0 ≤ d ∧ d < 18446744073709551616) :
    ∃ x : BitVec 256, wd x 0 = a ∧ wd x 1 = b ∧ wd x 2 = c ∧ wd x 3 = d := by
  refine ⟨BitVec.ofNat 256 (a.toNat + 2 ^ 64 * (b.toNat + 2 ^ 64 * (c.toNat + 2 ^ 64 * d.toNat))), ?_⟩
  simp only [wd, BitVec.extractLsb'_toNat, BitVec.toNat_ofNat, Nat.shiftRight_eq_div_pow]
  refine ⟨?_, ?_, ?_, ?_⟩ <;> omega

/-- The word of one bit. -/
def pw (n : Nat) : Int := ((2 ^ (n % 64) : Nat) : Int)
theorem pw_of (b : Int) (h0 : 0 ≤ b) : IntKind.u64.wrap (2 ^ (b % 64).toNat) = pw b.toNat := by
  rw [pow_wrap _ (by omega), show (b % 64).toNat = b.toNat % 64 from by omega]; rfl
theorem pw_lo (n : Nat) : 0 ≤ pw n := Int.natCast_nonneg _
theorem pw_hi (n : Nat) : pw n < 18446744073709551616 := pow_lt64 n

/-- One byte more, word by word. -/
theorem wds_with (x : BitVec 256) (b : Int) (h0 : 0 ≤ b) (h1 : b ≤ 255) (i : Nat) (hi : b / 64 = (i : Int)) :
    bits .or .u64 (wd x i) (pw b.toNat) = wd (x ||| bt b.toNat) i ∧ ∀ j, j ≠ i → wd x j = wd (x ||| bt b.toNat) j :=
  ⟨wd_with_same x _ i (by omega) (by omega), fun j hj => (wd_with_other x _ j (by omega) (by omega)).symm⟩
theorem wrap_quo (b : Int) (h0 : 0 ≤ b) (h1 : b ≤ 255) : IntKind.i64.wrap (b.tdiv 64) = b / 64 := by
  rw [Int.tdiv_eq_ediv_of_nonneg h0, IntKind.wrap_i64]; omega
end Go.Proofs.YtiillgahnbimjaaDoor
