/- DERIVED. Plain mathematics and walks, laid together (1). -/
import Derived.Shelf.Small.Utf8
import Derived.Shelf.Small.Strs
import Derived.Shelf.Strings.Search1
import Derived.Shelf.Strings.Prefix
import Derived.Test.YtkihfkcmcdiajaaGreatDoorProg
import Derived.WalkKit
import Derived.Test.YtkihfkcmcdiajaaGreatDoorRows
import Derived.WalkSpells
import Derived.WalkLawsBesides
import Derived.Deep.QuietTactic
import Derived.BigQuiet
import Derived.Deep.RegionHeld3
import Derived.Maps.AppendAt
import Derived.RangeFuncNested
import Derived.RangeFuncBound
import Derived.RangeFuncCalls
import Derived.RangeFuncLeaves
import Derived.RangeFuncFrom
import Derived.Shelf.Abstract
import Derived.Shelf.RegionOpen
import Derived.OwnWalkIn
import Derived.TacticsInMore
import Derived.LoopNIn
import Derived.LoopIn
import Derived.LoopN
import Derived.RangeFuncBox
import Derived.Lib.Builder
namespace Go.Proofs
open Go.Shelf
def Tryz.lays118_ren : Go.Shelf.Ren := ⟨fun | 118 => 205 | n => n, fun | 21 => 21 | 3 => 3 | 4 => 4 | n => n, fun | n => n⟩
theorem Tryz.lays118 : Go.Proofs.Lays.n118 Tryz.prog Tryz.lays118_ren := {
  mixed := by kernel_rfl
  f118 := Tryz.func205.trans (congrArg some (by kernel_rfl))
  t3 := Tryz.underlying3
  a3 := Tryz.isAgg3
  z3 := Tryz.sizeOf3
  v3 := Tryz.zeroValue3
  t4 := Tryz.underlying4
  a4 := Tryz.isAgg4
  z4 := Tryz.sizeOf4
  v4 := Tryz.zeroValue4
  t21 := Tryz.underlying21
  a21 := Tryz.isAgg21
  z21 := Tryz.sizeOf21
  v21 := Tryz.zeroValue21 }
theorem Tryz.utf8_RuneLen (r : Int) (w : World) :
    Calls Tryz.prog 205 #[.int .i32 r] w fun e w' => e = .returned (.int .i64 (Lib.runeLen r)) ∧ w' = w := Any.utf8_RuneLen Tryz.lays118 r w
def Tryz.lays137_ren : Go.Shelf.Ren := ⟨fun | 137 => 144 | 217 => 158 | 266 => 176 | n => n, fun | 9 => 9 | 5 => 5 | 3 => 3 | n => n, fun | n => n⟩
theorem Tryz.lays137 : Go.Proofs.Lays.n137 Tryz.prog Tryz.lays137_ren := {
  mixed := by kernel_rfl
  f137 := Tryz.func144.trans (congrArg some (by kernel_rfl))
  f217 := Tryz.func158.trans (congrArg some (by kernel_rfl))
  f266 := Tryz.func176.trans (congrArg some (by kernel_rfl))
  t3 := Tryz.underlying3
  a3 := Tryz.isAgg3
  z3 := Tryz.sizeOf3
  v3 := Tryz.zeroValue3
  t5 := Tryz.underlying5
  a5 := Tryz.isAgg5
  z5 := Tryz.sizeOf5
  v5 := Tryz.zeroValue5
  t9 := Tryz.underlying9
  a9 := Tryz.isAgg9
  z9 := Tryz.sizeOf9
  v9 := Tryz.zeroValue9 }
open Go.RowKit in
theorem Tryz.strings_IndexByte (s : ByteArray) (c : Int) (w : World) :
    Calls Tryz.prog 144 #[.string s, .int .u8 c] w fun e w' => e = .returned (.int .i64 (Lib.indexByte s.data.toList c.toNat.toUInt8)) ∧ w' = w := Any.strings_IndexByte Tryz.lays137 s c w
def Tryz.lays99_ren : Go.Shelf.Ren := ⟨fun | 99 => 100 | 206 => 125 | n => n, fun | 9 => 9 | 4 => 4 | 3 => 3 | n => n, fun | n => n⟩
theorem Tryz.lays99 : Go.Proofs.Lays.n99 Tryz.prog Tryz.lays99_ren := {
  mixed := by kernel_rfl
  f99 := Tryz.func100.trans (congrArg some (by kernel_rfl))
  f206 := Tryz.func125.trans (congrArg some (by kernel_rfl))
  t3 := Tryz.underlying3
  a3 := Tryz.isAgg3
  z3 := Tryz.sizeOf3
  v3 := Tryz.zeroValue3
  t4 := Tryz.underlying4
  a4 := Tryz.isAgg4
  z4 := Tryz.sizeOf4
  v4 := Tryz.zeroValue4
  t9 := Tryz.underlying9
  a9 := Tryz.isAgg9
  z9 := Tryz.sizeOf9
  v9 := Tryz.zeroValue9 }
open Go.RowKit Go.Lib in
theorem Tryz.strings_HasPrefix (s p : ByteArray) (w : World) :
    Calls Tryz.prog 100 #[.string s, .string p] w fun e w' => e = .returned (.bool (Lib.hasPrefix s.data.toList p.data.toList)) ∧ w' = w := Any.strings_HasPrefix Tryz.lays99 s p w
end Go.Proofs

namespace Go.Proofs.YtkihfkcmcdiajaaGreatDoor
open Go.RowKit
/-- Word i of a set. -/
def wd (x : BitVec 256) (i : Nat) : Int := ((x.extractLsb' (64 * i) 64).toNat : Int)

/-- The set of one byte. -/
def bt (b : Nat) : BitVec 256 := 1#256 <<< b

theorem wd_lo (x : BitVec 256) (i : Nat) : 0 ≤ wd x i := by unfold wd; omega
theorem wd_hi (x : BitVec 256) (i : Nat) : wd x i < 18446744073709551616 := by
  unfold wd; have := (x.extractLsb' (64 * i) 64).isLt; omega
theorem wd_toNat (x : BitVec 256) (i : Nat) : (wd x i).toNat = (x.extractLsb' (64 * i) 64).toNat := by unfold wd; omega
theorem wd_testBit (x : BitVec 256) (i j : Nat) : (wd x i).toNat.testBit j = (decide (j < 64) && x.getLsbD (64 * i + j)) := by
  rw [wd_toNat, BitVec.testBit_toNat, BitVec.getLsbD_extractLsb']

theorem wd_of_testBit (x : BitVec 256) (i : Nat) (n : Int) (h0 : 0 ≤ n) (h : ∀ j, n.toNat.testBit j = (decide (j < 64) && x.getLsbD (64 * i + j))) : n = wd x i := by
  have : n.toNat = (wd x i).toNat := Nat.eq_of_testBit_eq fun j => by rw [h j, wd_testBit]
  have := wd_lo x i
  omega

theorem wd_or (x y : BitVec 256) (i : Nat) : bits .or .u64 (wd x i) (wd y i) = wd (x ||| y) i := by
  rw [u64_or _ _ (wd_lo _ _) (wd_hi _ _) (wd_lo _ _) (wd_hi _ _)]
  refine wd_of_testBit _ _ _ (by omega) fun j => ?_
  rw [Int.toNat_natCast, Nat.testBit_or, wd_testBit, wd_testBit, BitVec.getLsbD_or]
  cases decide (j < 64) <;> simp
theorem wd_and (x y : BitVec 256) (i : Nat) : bits .and .u64 (wd x i) (wd y i) = wd (x &&& y) i := by
  rw [u64_and _ _ (wd_lo _ _) (wd_hi _ _) (wd_lo _ _) (wd_hi _ _)]
  refine wd_of_testBit _ _ _ (by omega) fun j => ?_
  rw [Int.toNat_natCast, Nat.testBit_and, wd_testBit, wd_testBit, BitVec.getLsbD_and]
  cases decide (j < 64) <;> simp

theorem bt_get (b j : Nat) (hb : b < 256) : (bt b).getLsbD j = decide (j = b) := by
  unfold bt
  rw [BitVec.getLsbD_shiftLeft]
  by_cases h : j = b
  · subst h; simp [hb]
  · by_cases h1 : j < b
    · simp [h1, h]
    · by_cases h2 : j < 256
      · have : j - b ≠ 0 := by omega
        simp [h, h2, BitVec.getLsbD_one, this]
      · simp [h, h2]

/-- The word of one bit, as the walk writes it. -/
theorem pow_wrap (k : Nat) (h : k < 64) : IntKind.u64.wrap (2 ^ k) = ((2 ^ k : Nat) : Int) := by
  rw [IntKind.wrap_u64]
  have h1 : 2 ^ k < 2 ^ 64 := Nat.pow_lt_pow_right (by omega) h
  have h2 : ((2 ^ k : Nat) : Int) = (2 : Int) ^ k := by simp
  rw [← h2]
  generalize 2 ^ k = n at *
  omega

theorem wd_bt_same (b i : Nat) (hb : b < 256) (hi : b / 64 = i) : wd (bt b) i = ((2 ^ (b % 64) : Nat) : Int) := by
  refine (wd_of_testBit _ _ _ (Int.natCast_nonneg _) fun j => ?_).symm
  rw [Int.toNat_natCast, Nat.testBit_two_pow, bt_get _ _ hb]
  by_cases h : b % 64 = j
  · have : j < 64 := by omega
    have h2 : 64 * i + j = b := by omega
    simp [h, this, h2]
  · by_cases h3 : j < 64
    · have h2 : ¬ 64 * i + j = b := by omega
      simp [h, h2]
    · simp [h, h3]
theorem wd_bt_other (b i : Nat) (hb : b < 256) (hi : b / 64 ≠ i) : wd (bt b) i = 0 := by
  refine (wd_of_testBit _ _ _ (by omega) fun j => ?_).symm
  rw [bt_get _ _ hb]
  by_cases h3 : j < 64
  · have h2 : ¬ 64 * i + j = b := by omega
    simp [h2]
  · simp [h3]

theorem bits_or_zero (x : BitVec 256) (i : Nat) : bits .or .u64 (wd x i) 0 = wd x i := by
  rw [u64_or _ _ (wd_lo _ _) (wd_hi _ _) (by omega) (by omega)]
  have := wd_lo x i
  simp; omega

/-- The word in which the byte lies. -/
theorem wd_with_same (x : BitVec 256) (b i : Nat) (hb : b < 256) (hi : b / 64 = i) : bits .or .u64 (wd x i) (((2 ^ (b % 64) : Nat) : Int)) = wd (x ||| bt b) i := by
  rw [← wd_bt_same b i hb hi, wd_or]
theorem wd_with_other (x : BitVec 256) (b i : Nat) (hb : b < 256) (hi : b / 64 ≠ i) : wd (x ||| bt b) i = wd x i := by
  rw [← wd_or, wd_bt_other b i hb hi, bits_or_zero]

/-- The word of one bit. -/
def pw (n : Nat) : Int := ((2 ^ (n % 64) : Nat) : Int)
theorem pw_of (b : Int) (h0 : 0 ≤ b) : IntKind.u64.wrap (2 ^ (b % 64).toNat) = pw b.toNat := by
  rw [pow_wrap _ (by omega), show (b % 64).toNat = b.toNat % 64 from by omega]; rfl
/-- One byte more, word by word. -/
theorem wds_with (x : BitVec 256) (b : Int) (h0 : 0 ≤ b) (h1 : b ≤ 255) (i : Nat) (hi : b / 64 = (i : Int)) :
    bits .or .u64 (wd x i) (pw b.toNat) = wd (x ||| bt b.toNat) i ∧ ∀ j, j ≠ i → wd x j = wd (x ||| bt b.toNat) j :=
  ⟨wd_with_same x _ i (by omega) (by omega), fun j hj => (wd_with_other x _ j (by omega) (by omega)).symm⟩
theorem wrap_quo (b : Int) (h0 : 0 ≤ b) (h1 : b ≤ 255) : IntKind.i64.wrap (b.tdiv 64) = b / 64 := by
  rw [Int.tdiv_eq_ediv_of_nonneg h0, IntKind.wrap_i64]; omega
end Go.Proofs.YtkihfkcmcdiajaaGreatDoor

namespace Go.Proofs.YtkihfkcmcdiajaaGreatDoor
open Go.RowKit
set_option maxHeartbeats 400000 in
theorem isByte_any (b : Int) (w : World) :
    Calls Tryz.prog 206 #[.int .i64 b] w fun e w' => e = .returned (.bool (decide (0 ≤ b) && decide (b ≤ 255))) ∧ w' = w := by
  by_cases h0 : 0 ≤ b
  · have hd : decide (0 ≤ b) = true := by simpa using h0
    go_enter Tryz.func206, Tryz.ntmps206
    go_wp2
    go_ret
    exact ⟨by simp [h0], rfl⟩
  · have hd : decide (0 ≤ b) = false := by simpa using h0
    go_enter Tryz.func206, Tryz.ntmps206
    go_wp2
    go_ret
    exact ⟨by simp, rfl⟩


abbrev sv (x : BitVec 256) : Value := .agg #[.int .u64 (wd x 0), .int .u64 (wd x 1), .int .u64 (wd x 2), .int .u64 (wd x 3)]

theorem ret_int {k : IntKind} {a b : Int} (h : a = b) : Ending.returned (.int k a) = .returned (.int k b) := by rw [h]

set_option maxHeartbeats 400000 in
theorem bit_any (b : Int) (w : World) (h0 : 0 ≤ b) (h1 : b ≤ 255) :
    Calls Tryz.prog 180 #[.int .i64 b] w fun e w' => e = .returned (.int .u64 (pw b.toNat)) ∧ w' = w := by
  go_enter Tryz.func180, Tryz.ntmps180
  go_wp2
  go_ret
  exact ⟨ret_int (pw_of b h0), rfl⟩

theorem ret_sv {a b c d : Int} {y : BitVec 256} (h0 : a = wd y 0) (h1 : b = wd y 1) (h2 : c = wd y 2) (h3 : d = wd y 3) : Ending.returned (.agg #[.int .u64 a, .int .u64 b, .int .u64 c, .int .u64 d]) = .returned (sv y) := by
  rw [h0, h1, h2, h3]

set_option maxHeartbeats 1000000 in
theorem with_any (x : BitVec 256) (b : Int) (w : World) (h0 : 0 ≤ b) (h1 : b ≤ 255) :
    Calls Tryz.prog 164 #[sv x, .int .i64 b] w fun e w' => e = .returned (sv (x ||| bt b.toNat)) ∧ Below w.heap.size w w' := by
  have hq : b / 64 = 0 ∨ b / 64 = 1 ∨ b / 64 = 2 ∨ b / 64 = 3 := by omega
  rcases hq with hq | hq | hq | hq
  · have hs := (show Hid _ from wds_with x b h0 h1 0 hq)
    have t1 : IntKind.i64.wrap (b.tdiv 64) = 0 := by rw [wrap_quo b h0 h1]; exact hq
    go_enter Tryz.func164, Tryz.ntmps164
    go_wp2
    go_region_with ((go_at_call 180; refine (bit_any _ _ (by omega) (by omega)).mono ?_; rintro e w' ⟨rfl, rfl⟩))
    all_goals
      go_wp2
      replace hs := hs.out
      exact bodyPost_ret (v := .agg #[.int .u64 (bits BinOp.or IntKind.u64 (wd x 0) (pw b.toNat)), .int .u64 (wd x 1), .int .u64 (wd x 2), .int .u64 (wd x 3)]) (by simp [results, Tryz.results164, go_sem]) rfl ⟨ret_sv hs.1 (hs.2 1 (by omega)) (hs.2 2 (by omega)) (hs.2 3 (by omega)), (((Below.refl _ _).alloc (Nat.le_refl _) _).alloc (by simp) _).drew⟩
  · have hs := (show Hid _ from wds_with x b h0 h1 1 hq)
    have t1 : IntKind.i64.wrap (b.tdiv 64) = 1 := by rw [wrap_quo b h0 h1]; exact hq
    go_enter Tryz.func164, Tryz.ntmps164
    go_wp2
    go_region_with ((go_at_call 180; refine (bit_any _ _ (by omega) (by omega)).mono ?_; rintro e w' ⟨rfl, rfl⟩))
    all_goals
      go_wp2
      replace hs := hs.out
      exact bodyPost_ret (v := .agg #[.int .u64 (wd x 0), .int .u64 (bits BinOp.or IntKind.u64 (wd x 1) (pw b.toNat)), .int .u64 (wd x 2), .int .u64 (wd x 3)]) (by simp [results, Tryz.results164, go_sem]) rfl ⟨ret_sv (hs.2 0 (by omega)) hs.1 (hs.2 2 (by omega)) (hs.2 3 (by omega)), (((Below.refl _ _).alloc (Nat.le_refl _) _).alloc (by simp) _).drew⟩
  · have hs := (show Hid _ from wds_with x b h0 h1 2 hq)
    have t1 : IntKind.i64.wrap (b.tdiv 64) = 2 := by rw [wrap_quo b h0 h1]; exact hq
    go_enter Tryz.func164, Tryz.ntmps164
    go_wp2
    go_region_with ((go_at_call 180; refine (bit_any _ _ (by omega) (by omega)).mono ?_; rintro e w' ⟨rfl, rfl⟩))
    all_goals
      go_wp2
      replace hs := hs.out
      exact bodyPost_ret (v := .agg #[.int .u64 (wd x 0), .int .u64 (wd x 1), .int .u64 (bits BinOp.or IntKind.u64 (wd x 2) (pw b.toNat)), .int .u64 (wd x 3)]) (by simp [results, Tryz.results164, go_sem]) rfl ⟨ret_sv (hs.2 0 (by omega)) (hs.2 1 (by omega)) hs.1 (hs.2 3 (by omega)), (((Below.refl _ _).alloc (Nat.le_refl _) _).alloc (by simp) _).drew⟩
  · have hs := (show Hid _ from wds_with x b h0 h1 3 hq)
    have t1 : IntKind.i64.wrap (b.tdiv 64) = 3 := by rw [wrap_quo b h0 h1]; exact hq
    go_enter Tryz.func164, Tryz.ntmps164
    go_wp2
    go_region_with ((go_at_call 180; refine (bit_any _ _ (by omega) (by omega)).mono ?_; rintro e w' ⟨rfl, rfl⟩))
    all_goals
      go_wp2
      replace hs := hs.out
      exact bodyPost_ret (v := .agg #[.int .u64 (wd x 0), .int .u64 (wd x 1), .int .u64 (wd x 2), .int .u64 (bits BinOp.or IntKind.u64 (wd x 3) (pw b.toNat))]) (by simp [results, Tryz.results164, go_sem]) rfl ⟨ret_sv (hs.2 0 (by omega)) (hs.2 1 (by omega)) (hs.2 2 (by omega)) hs.1, (((Below.refl _ _).alloc (Nat.le_refl _) _).alloc (by simp) _).drew⟩
end Go.Proofs.YtkihfkcmcdiajaaGreatDoor

namespace Go.Proofs.YtkihfkcmcdiajaaGreatDoor
open Go.RowKit
/-- Block b holds the set x, and may be written. -/
structure Holds (w : World) (b : Nat) (x : BitVec 256) : Prop where
  lt : b < w.heap.size
  c0 : w.cell? ⟨b, 0, none⟩ = some (.int .u64 (wd x 0))
  c1 : w.cell? ⟨b, 1, none⟩ = some (.int .u64 (wd x 1))
  c2 : w.cell? ⟨b, 2, none⟩ = some (.int .u64 (wd x 2))
  c3 : w.cell? ⟨b, 3, none⟩ = some (.int .u64 (wd x 3))
  f0 : w.frozen? ⟨b, 0, none⟩ = false
  f1 : w.frozen? ⟨b, 1, none⟩ = false
  f2 : w.frozen? ⟨b, 2, none⟩ = false
  f3 : w.frozen? ⟨b, 3, none⟩ = false

theorem Holds.below {B : Nat} {w w' : World} {b : Nat} {x : BitVec 256} (h : Holds w b x) (hb : Below B w w') (hB : b < B) : Holds w' b x :=
  ⟨Nat.lt_of_lt_of_le h.lt hb.size, (hb.cell (p := ⟨b, 0, none⟩) hB).trans h.c0, (hb.cell (p := ⟨b, 1, none⟩) hB).trans h.c1, (hb.cell (p := ⟨b, 2, none⟩) hB).trans h.c2, (hb.cell (p := ⟨b, 3, none⟩) hB).trans h.c3, (hb.frozen (p := ⟨b, 0, none⟩) hB).trans h.f0, (hb.frozen (p := ⟨b, 1, none⟩) hB).trans h.f1, (hb.frozen (p := ⟨b, 2, none⟩) hB).trans h.f2, (hb.frozen (p := ⟨b, 3, none⟩) hB).trans h.f3⟩
theorem Holds.drew {w : World} {b : Nat} {x : BitVec 256} (h : Holds w b x) : Holds w.drew b x := h.below (Below.refl w.heap.size w).drew h.lt
theorem Holds.alloc {w : World} {b : Nat} {x : BitVec 256} (h : Holds w b x) (o : Obj) : Holds (w.alloc o) b x := h.below ((Below.refl w.heap.size w).alloc (Nat.le_refl _) o) h.lt
theorem Holds.new (w : World) (x : BitVec 256) : Holds (w.alloc (.cells #[.int .u64 (wd x 0), .int .u64 (wd x 1), .int .u64 (wd x 2), .int .u64 (wd x 3)] 49)) w.heap.size x := by
  constructor <;> simp [go_sem]

theorem wd_zero (i : Nat) : wd 0#256 i = 0 := by unfold wd; simp
theorem Holds.zero (w : World) : Holds (w.alloc (.cells #[.int .u64 0, .int .u64 0, .int .u64 0, .int .u64 0] 49)) w.heap.size 0#256 := by
  have h := Holds.new w 0#256
  rw [wd_zero, wd_zero, wd_zero, wd_zero] at h
  exact h
theorem Holds.zero' (w : World) (o : Obj) : Holds ((w.alloc o).alloc (.cells #[.int .u64 0, .int .u64 0, .int .u64 0, .int .u64 0] 49)) (w.heap.size + 1) 0#256 := by
  have h := Holds.zero (w.alloc o)
  rw [show (w.alloc o).heap.size = w.heap.size + 1 from by simp] at h
  exact h

/-- The four stores of a set into block b. -/
abbrev put4 (w : World) (b : Nat) (y : BitVec 256) : World := (((w.setCell ⟨b, 0, none⟩ (.int .u64 (wd y 0))).setCell ⟨b, 1, none⟩ (.int .u64 (wd y 1))).setCell ⟨b, 2, none⟩ (.int .u64 (wd y 2))).setCell ⟨b, 3, none⟩ (.int .u64 (wd y 3))

theorem Holds.put {w : World} {b : Nat} {x : BitVec 256} (h : Holds w b x) (y : BitVec 256) : Holds (put4 w b y) b y := by
  obtain ⟨lt, c0, c1, c2, c3, f0, f1, f2, f3⟩ := h
  constructor <;> simp [go_sem, *]
theorem Holds.put_other {w : World} {b c : Nat} {x : BitVec 256} (h : Holds w c x) (hne : c ≠ b) (y : BitVec 256) : Holds (put4 w b y) c x := by
  obtain ⟨lt, c0, c1, c2, c3, f0, f1, f2, f3⟩ := h
  constructor <;> simp [go_sem, *]

/-- The set of the bytes below n that the test names. -/
def ofB (f : Nat → Bool) : Nat → BitVec 256
  | 0 => 0#256
  | n + 1 => if f n then ofB f n ||| bt n else ofB f n
theorem ofB_get (f : Nat → Bool) (n : Nat) (hn : n ≤ 256) (j : Nat) : (ofB f n).getLsbD j = (decide (j < n) && f j) := by
  induction n with
  | zero => simp [ofB]
  | succ n ih =>
    have ih := ih (by omega)
    unfold ofB
    by_cases h : f n = true
    · rw [if_pos h, BitVec.getLsbD_or, ih, bt_get _ _ (by omega)]
      by_cases e : j = n
      · subst e; simp [h]
      · have : decide (j < n + 1) = decide (j < n) := decide_eq_decide.2 (by omega)
        simp [e, this]
    · rw [if_neg h, ih]
      by_cases e : j = n
      · subst e; simp [h]
      · have : decide (j < n + 1) = decide (j < n) := decide_eq_decide.2 (by omega)
        simp [this]
theorem set_eq (x y : BitVec 256) (h : ∀ j, j < 256 → x.getLsbD j = y.getLsbD j) : x = y := BitVec.eq_of_getLsbD_eq h
/-- The bytes from lo to hi. -/
def spn (lo hi : Int) : BitVec 256 := ofB (fun j => decide (lo ≤ (j : Int))) (hi + 1).toNat
theorem spn_get (lo hi : Int) (h1 : hi ≤ 255) (j : Nat) : (spn lo hi).getLsbD j = (decide (lo ≤ (j : Int)) && decide ((j : Int) ≤ hi)) := by
  unfold spn
  rw [ofB_get _ _ (by omega)]
  have : decide (j < (hi + 1).toNat) = decide ((j : Int) ≤ hi) := decide_eq_decide.2 (by omega)
  rw [this, Bool.and_comm]
theorem spn_nil (lo : Int) (h0 : 0 ≤ lo) (h1 : lo ≤ 256) : spn lo (lo - 1) = 0#256 := by
  refine set_eq _ _ fun j hj => ?_
  rw [spn_get _ _ (by omega)]
  by_cases h : lo ≤ (j : Int)
  · have : ¬ (j : Int) ≤ lo - 1 := by omega
    simp [this]
  · simp [h]
theorem spn_snoc (lo b : Int) (h0 : 0 ≤ lo) (hb : lo ≤ b) (h1 : b ≤ 255) : spn lo b = spn lo (b - 1) ||| bt b.toNat := by
  refine set_eq _ _ fun j hj => ?_
  rw [spn_get _ _ (by omega), BitVec.getLsbD_or, spn_get _ _ (by omega), bt_get _ _ (by omega)]
  by_cases e : j = b.toNat
  · have a1 : lo ≤ (j : Int) := by omega
    have a2 : (j : Int) ≤ b := by omega
    rw [decide_eq_true a1, decide_eq_true a2, decide_eq_true e]; simp
  · have : decide ((j : Int) ≤ b) = decide ((j : Int) ≤ b - 1) := decide_eq_decide.2 (by omega)
    simp [e, this]
end Go.Proofs.YtkihfkcmcdiajaaGreatDoor

namespace Go.Proofs.YtkihfkcmcdiajaaGreatDoor
def s1 (b : Nat) : Nat := ((b / 2) &&& 85) + (b &&& 85)
def s2 (b : Nat) : Nat := ((b / 4) &&& 51) + (b &&& 51)
def s3 (b : Nat) : Nat := (b / 16 + b) % 16
end Go.Proofs.YtkihfkcmcdiajaaGreatDoor

namespace Go.Proofs.YtkihfkcmcdiajaaGreatDoor
open Go.RowKit
theorem ret_bool {a b : Bool} (h : a = b) : Ending.returned (.bool a) = .returned (.bool b) := by rw [h]
end Go.Proofs.YtkihfkcmcdiajaaGreatDoor

namespace Go.Proofs.YtkihfkcmcdiajaaGreatDoor
open Go.RowKit
/-- A list of numbers as a text. -/
def asText (l : List Int) : ByteArray := l.foldl (fun r n => r.push (UInt8.ofNat n.toNat)) ByteArray.empty
theorem asText_data (l : List Int) : (asText l).data.toList = l.map (fun n => UInt8.ofNat n.toNat) := by
  have key : ∀ (l : List Int) (s : ByteArray), (l.foldl (fun r n => r.push (UInt8.ofNat n.toNat)) s).data.toList = s.data.toList ++ l.map (fun n => UInt8.ofNat n.toNat) := by
    intro l
    induction l with
    | nil => intro s; simp
    | cons b l ih => intro s; rw [List.foldl_cons, ih]; simp [ByteArray.push]
  have := key l ByteArray.empty
  simpa [asText] using this
theorem asText_size (l : List Int) : (asText l).size = l.length := by
  have h := congrArg List.length (asText_data l)
  simpa using h
end Go.Proofs.YtkihfkcmcdiajaaGreatDoor

namespace Go.Proofs.YtkihfkcmcdiajaaGreatDoor
open Go.RowKit
abbrev c4 (x : BitVec 256) : Obj := .cells #[.int .u64 (wd x 0), .int .u64 (wd x 1), .int .u64 (wd x 2), .int .u64 (wd x 3)] 49
abbrev z4 : Obj := .cells #[.int .u64 0, .int .u64 0, .int .u64 0, .int .u64 0] 49
end Go.Proofs.YtkihfkcmcdiajaaGreatDoor

namespace Go.Proofs.YtkihfkcmcdiajaaGreatDoor
open Go.RowKit
theorem Tryz.info5 : (Tryz.prog.info? 5).map (fun i => (i.zero, i.size, i.bytes)) = some (some (.int .u8 0), 1, 1) := by kernel_rfl

/-- A row that the call owns, behind a call that turned nothing of what was there. -/
theorem own_below {w w' : World} {base e size : Nat} {v : Value} {n : Nat} {xs : List Value} (h : w.ownsRow base e size v n xs) (hb : Below w.heap.size w w') (_hB : base ≤ w.heap.size) : w'.ownsRow base e size v n xs := by
  refine h.kept (row := none) ⟨hb.os, hb.tape, hb.output, hb.size, fun k hk _ => hb.block k hk⟩ ?_
  cases h2 : v.ownBlock
  · exact .inl rfl
  · exact .inr (by simp)

/-- The text of a row of bytes that the call owns. -/
theorem text_own {w : World} {base : Nat} {v : Value} {l : List Int} (h : w.ownsRow base 5 1 v l.length (l.map (Value.int .u8))) :
    (convert 84 9 v).run Tryz.prog w = .ok (.string (asText l)) w := by
  have hc := h
  obtain ⟨hlen, h2⟩ := h
  rcases h2 with ⟨rfl, hn⟩ | ⟨g, cap, cur, rfl, _⟩
  · obtain rfl : l = [] := List.eq_nil_of_length_eq_zero hn
    rw [run_convert_bytes_string w 84 9 5 _ _ _ Tryz.underlying84 Tryz.underlying5 Tryz.underlying9]
    rfl
  · rw [run_convert_bytes_string w 84 9 5 _ _ _ Tryz.underlying84 Tryz.underlying5 Tryz.underlying9]
    refine run_bytesToString w ⟨g, 0, none⟩ l.length cap l ?_
    have := run_loadCells_list (P := Tryz.prog) (w := w) ⟨g, 0, none⟩ (l.map (Value.int .u8)) (hc.cells rfl)
    rwa [List.length_map] at this
end Go.Proofs.YtkihfkcmcdiajaaGreatDoor

namespace Go.Proofs.YtkihfkcmcdiajaaGreatDoor
open Go.RowKit Go.Shelf
attribute [local go_sem] Oper.semAt_some

/-- Block b is as it was. -/
def KeepB (b : Nat) (W W' : World) : Prop := W'.heap[b]? = W.heap[b]?
theorem KeepB.refl (b : Nat) (W : World) : KeepB b W W := rfl
theorem KeepB.trans {b : Nat} {A B C : World} (h : KeepB b A B) (k : KeepB b B C) : KeepB b A C := Eq.trans k h
theorem KeepB.put {b : Nat} {w : World} (hb : b < w.heap.size) (W : World) (l : Nat) (o o' : Obj) (hl : w.heap.size ≤ l) (_ : W.heap[l]? = some o) (_ : o.isCells = false) (_ : o.isWalk = false) : KeepB b W (W.putObj l o') := by
  by_cases h : b < W.heap.size
  · exact (grownBy_putObj' W l o').block b h (fun e => by cases e; omega)
  · have e1 : W.heap[b]? = none := Array.getElem?_eq_none (by omega)
    have e2 : (W.putObj l o').heap.size = W.heap.size := by simp [World.putObj]
    show (W.putObj l o').heap[b]? = W.heap[b]?
    rw [e1]; exact Array.getElem?_eq_none (by omega)
theorem KeepB.setCell {b : Nat} {W : World} {p : Addr} (h : b ≠ p.block) (u : Value) : KeepB b W (W.setCell p u) := Below.heap_setCell _ _ _ _ h
theorem KeepB.alloc {b : Nat} {W : World} (h : b < W.heap.size) (o : Obj) : KeepB b W (W.alloc o) := Below.heap_alloc _ _ _ h
theorem KeepB.below {b B : Nat} {W W' : World} (h : Below B W W') (hb : b < B) : KeepB b W W' := h.block b hb
theorem KeepB.grown {b : Nat} {W W' : World} {row : Option Nat} (h : W.grownBy W' row) (hb : b < W.heap.size) (hne : row ≠ some b) : KeepB b W W' := h.block b hb (fun e => hne e.symm)
theorem grown_below {W W' : World} (hb : Below W.heap.size W W') : W.grownBy W' none := ⟨hb.os, hb.tape, hb.output, hb.size, fun k hk _ => hb.block k hk⟩
end Go.Proofs.YtkihfkcmcdiajaaGreatDoor

namespace Go.Proofs.YtkihfkcmcdiajaaGreatDoor
open Go.RowKit
theorem st3 (x : Nat) (h : x ≤ 7378697629483820646) : bits .and .u64 (IntKind.u64.wrap ((x : Int) / 16 + (x : Int))) 1085102592571150095 = (((x / 16 + x) &&& 1085102592571150095 : Nat) : Int) := by
  have c : IntKind.u64.wrap ((x : Int) / 16 + (x : Int)) = ((x / 16 + x : Nat) : Int) := by rw [IntKind.wrap_u64]; omega
  rw [c]
  exact u64_and_nat (x / 16 + x) 1085102592571150095 (by omega) (by omega)
end Go.Proofs.YtkihfkcmcdiajaaGreatDoor

namespace Go.Proofs.YtkihfkcmcdiajaaGreatDoor
open Go.RowKit
theorem wd_not (x : BitVec 256) (i : Nat) (hi : i < 4) : bits .xor .u64 IntKind.u64.max (wd x i) = wd (~~~ x) i := by
  have hm : IntKind.u64.max = 18446744073709551615 := rfl
  rw [hm, u64_xor _ _ (by omega) (by omega) (wd_lo _ _) (wd_hi _ _)]
  refine wd_of_testBit _ _ _ (Int.natCast_nonneg _) fun j => ?_
  rw [Int.toNat_natCast, Nat.testBit_xor, wd_testBit, BitVec.getLsbD_not]
  have e : (18446744073709551615 : Int).toNat = 2 ^ 64 - 1 := rfl
  rw [e, Nat.testBit_two_pow_sub_one]
  by_cases h : j < 64
  · have : 64 * i + j < 256 := by omega
    simp [h, this]
  · simp [h]

set_option maxHeartbeats 2000000 in
theorem not_any (x : BitVec 256) (w : World) :
    Calls Tryz.prog 150 #[sv x] w fun e w' => e = .returned (sv (~~~ x)) ∧ Below w.heap.size w w' := by
  have hsg : IntKind.u64.signed = false := rfl
  go_enter Tryz.func150, Tryz.ntmps150
  go_wp2
  refine wp_loop_rounds 5 ?_
  iterate 5
    rw [rounds_succ]
    go_wp2
  exact bodyPost_ret (v := .agg #[.int .u64 (bits BinOp.xor IntKind.u64 IntKind.u64.max (wd x 0)), .int .u64 (bits BinOp.xor IntKind.u64 IntKind.u64.max (wd x 1)), .int .u64 (bits BinOp.xor IntKind.u64 IntKind.u64.max (wd x 2)), .int .u64 (bits BinOp.xor IntKind.u64 IntKind.u64.max (wd x 3))]) (by simp [results, Tryz.results150, go_sem]) rfl ⟨ret_sv (wd_not x 0 (by omega)) (wd_not x 1 (by omega)) (wd_not x 2 (by omega)) (wd_not x 3 (by omega)), (((Below.refl _ _).alloc (Nat.le_refl _) _).alloc (by simp) _)⟩

set_option maxHeartbeats 2000000 in
theorem union_any (x y : BitVec 256) (w : World) :
    Calls Tryz.prog 161 #[sv x, sv y] w fun e w' => e = .returned (sv (x ||| y)) ∧ Below w.heap.size w w' := by
  go_enter Tryz.func161, Tryz.ntmps161
  go_wp2
  refine wp_loop_rounds 5 ?_
  iterate 4
    rw [rounds_succ]
    go_wp2
    go_region
    go_wp2
  rw [rounds_succ]
  go_wp2
  exact bodyPost_ret (v := .agg #[.int .u64 (bits BinOp.or IntKind.u64 (wd x 0) (wd y 0)), .int .u64 (bits BinOp.or IntKind.u64 (wd x 1) (wd y 1)), .int .u64 (bits BinOp.or IntKind.u64 (wd x 2) (wd y 2)), .int .u64 (bits BinOp.or IntKind.u64 (wd x 3) (wd y 3))]) (by simp [results, Tryz.results161, go_sem]) rfl ⟨ret_sv (wd_or x y 0) (wd_or x y 1) (wd_or x y 2) (wd_or x y 3), (Below.drew (Below.drew (Below.drew (Below.drew ((((Below.refl _ _).alloc (Nat.le_refl _) _).alloc (by simp) _).alloc (by simp; omega) _)))))⟩

set_option maxHeartbeats 2000000 in
theorem meet_any (x y : BitVec 256) (w : World) :
    Calls Tryz.prog 181 #[sv x, sv y] w fun e w' => e = .returned (sv (x &&& y)) ∧ Below w.heap.size w w' := by
  go_enter Tryz.func181, Tryz.ntmps181
  go_wp2
  refine wp_loop_rounds 5 ?_
  iterate 4
    rw [rounds_succ]
    go_wp2
    go_region
    go_wp2
  rw [rounds_succ]
  go_wp2
  exact bodyPost_ret (v := .agg #[.int .u64 (bits BinOp.and IntKind.u64 (wd x 0) (wd y 0)), .int .u64 (bits BinOp.and IntKind.u64 (wd x 1) (wd y 1)), .int .u64 (bits BinOp.and IntKind.u64 (wd x 2) (wd y 2)), .int .u64 (bits BinOp.and IntKind.u64 (wd x 3) (wd y 3))]) (by simp [results, Tryz.results181, go_sem]) rfl ⟨ret_sv (wd_and x y 0) (wd_and x y 1) (wd_and x y 2) (wd_and x y 3), (Below.drew (Below.drew (Below.drew (Below.drew ((((Below.refl _ _).alloc (Nat.le_refl _) _).alloc (by simp) _).alloc (by simp; omega) _)))))⟩
end Go.Proofs.YtkihfkcmcdiajaaGreatDoor

namespace Go.Proofs.YtkihfkcmcdiajaaGreatDoor
open Go.RowKit
theorem size2 (w : World) (a b : Obj) : ((w.alloc a).alloc b).heap.size = w.heap.size + 1 + 1 := by simp
theorem size3 (w : World) (a b c : Obj) : (((w.alloc a).alloc b).alloc c).heap.size = w.heap.size + 1 + 1 + 1 := by simp
theorem holds3 (w : World) (a b : Obj) : Holds (((w.alloc a).alloc b).alloc z4) (w.heap.size + 1 + 1) 0#256 := by
  have h := Holds.zero ((w.alloc a).alloc b)
  rw [size2] at h
  exact h
theorem below3 (w : World) (a b c : Obj) : Below w.heap.size w (((w.alloc a).alloc b).alloc c) :=
  (((Below.refl _ _).alloc (Nat.le_refl _) _).alloc (by simp) _).alloc (by simp; omega) _
set_option maxHeartbeats 1000000 in
theorem less_any (x y : BitVec 256) (w : World) :
    Calls Tryz.prog 166 #[sv x, sv y] w fun e w' => e = .returned (sv (x &&& ~~~ y)) ∧ Below w.heap.size w w' := by
  have hsz := size3 w (c4 x) (c4 y) z4
  have HX := (show Hid _ from ((Holds.new w x).alloc (c4 y)).alloc z4)
  have HH := (show Hid _ from holds3 w (c4 x) (c4 y))
  have HB := (show Hid _ from below3 w (c4 x) (c4 y) z4)
  have HR : Hid (Below (w.heap.size + 1 + 1 + 1) (((w.alloc (c4 x)).alloc (c4 y)).alloc z4) (((w.alloc (c4 x)).alloc (c4 y)).alloc z4)) := Below.refl _ _
  go_enter Tryz.func166, Tryz.ntmps166
  go_wp2
  go_region_with (first | (go_at_call 150; refine (not_any _ _).mono ?_; rintro e w1 ⟨rfl, hb⟩; have hz1 := hb.size; (try simp at hz1); replace HR : Hid (Below (w.heap.size + 1 + 1 + 1) (((w.alloc (c4 x)).alloc (c4 y)).alloc z4) w1) := (by first | exact HR.out.trans (hb.mono (by omega)) | exact HR.out.drew.trans (hb.mono (by simp))); obtain ⟨l5, p0, p1, p2, p3, q0, q1, q2, q3⟩ := HH.out.below HR.out (by omega); obtain ⟨l0, c0, c1, c2, c3, f0, f1, f2, f3⟩ := HX.out.below HR.out (by omega)) | (go_at_call 181; refine (meet_any _ _ _).mono ?_; rintro e w1 ⟨rfl, hb⟩; have hz1 := hb.size; (try simp at hz1); replace HR : Hid (Below (w.heap.size + 1 + 1 + 1) (((w.alloc (c4 x)).alloc (c4 y)).alloc z4) w1) := (by first | exact HR.out.trans (hb.mono (by omega)) | exact HR.out.drew.trans (hb.mono (by simp))); obtain ⟨l5, p0, p1, p2, p3, q0, q1, q2, q3⟩ := HH.out.below HR.out (by omega); obtain ⟨l0, c0, c1, c2, c3, f0, f1, f2, f3⟩ := HX.out.below HR.out (by omega)))
  all_goals
    go_wp2
    exact bodyPost_ret (v := sv (x &&& ~~~ y)) (by simp [results, Tryz.results166, go_sem, *]) rfl ⟨rfl, ((((HB.out.trans (HR.out.mono (by omega))).setCell (by simp; omega) _).setCell (by simp; omega) _).setCell (by simp; omega) _).setCell (by simp; omega) _⟩
end Go.Proofs.YtkihfkcmcdiajaaGreatDoor

namespace Go.Proofs.YtkihfkcmcdiajaaGreatDoor
open Go.RowKit Go.Shelf
attribute [local go_sem] Oper.semAt_some

/-- A box of one cell: what it holds, and that it may be written. -/
structure Box1 (W : World) (b : Nat) (v : Value) : Prop where
  c : W.cell? ⟨b, 0, none⟩ = some v
  f : W.frozen? ⟨b, 0, none⟩ = false
theorem Box1.new (W : World) (v : Value) (t : TypeId) : Box1 (W.alloc (.cells #[v] t)) W.heap.size v := by
  have h := World.alloc_heap_new W (.cells #[v] t)
  exact ⟨by unfold World.cell?; rw [h]; rfl, by unfold World.frozen?; rw [h]; rfl⟩
theorem Box1.kept {W W' : World} {b : Nat} {v : Value} {row : Option Nat} (h : Box1 W b v) (hg : W.grownBy W' row) (hr : ∀ r, row = some r → ∃ o : Obj, W.heap[r]? = some o ∧ o.isCells = false) : Box1 W' b v :=
  ⟨cell_kept h.1 hg hr, (frozen_kept h.1 hg hr).trans h.2⟩
theorem Box1.alloc {W : World} {b : Nat} {v : Value} (h : Box1 W b v) (o : Obj) : Box1 (W.alloc o) b v := h.kept (World.grownBy_alloc W o none) (fun r e => by cases e)
theorem Box1.set {W : World} {b : Nat} {v : Value} (h : Box1 W b v) (u : Value) : Box1 (W.setCell ⟨b, 0, none⟩ u) b u :=
  ⟨World.cell?_setCell_same' _ _ _ (by rw [h.1]; rfl), by rw [World.frozen?_setCell]; exact h.2⟩
theorem Box1.other {W : World} {b c : Nat} {v : Value} (h : Box1 W b v) (hne : b ≠ c) (u : Value) : Box1 (W.setCell ⟨c, 0, none⟩ u) b v := by
  obtain ⟨h1, h2⟩ := h
  constructor <;> simp [go_sem, *]
end Go.Proofs.YtkihfkcmcdiajaaGreatDoor

namespace Go.Proofs.YtkihfkcmcdiajaaGreatDoor
open Go.RowKit Go.Shelf
attribute [local go_sem] Oper.semAt_some

theorem own_base {w : World} {base base' e size : Nat} {v : Value} {n : Nat} {xs : List Value} (h : w.ownsRow base e size v n xs) (hb : base' ≤ base) : w.ownsRow base' e size v n xs := by
  refine ⟨h.1, h.2.imp id ?_⟩
  rintro ⟨g, cap, cur, h1, h2, h3⟩
  exact ⟨g, cap, cur, h1, by omega, h3⟩
end Go.Proofs.YtkihfkcmcdiajaaGreatDoor

namespace Go.Proofs.YtkihfkcmcdiajaaGreatDoor
open Go.RowKit
/-- The cells of a list of spans. -/
def spc (l : List (Int × Int)) : List Value := l.flatMap fun p => [.int .i64 p.1, .int .i64 p.2]
theorem spc_append (a b : List (Int × Int)) : spc (a ++ b) = spc a ++ spc b := by unfold spc; rw [List.flatMap_append]
end Go.Proofs.YtkihfkcmcdiajaaGreatDoor

namespace Go.Proofs.YtkihfkcmcdiajaaGreatDoor
open Go.RowKit
set_option maxHeartbeats 1000000 in
theorem fill_any (x : BitVec 256) (lo hi : Int) (w : World) (h0 : 0 ≤ lo) (hle : lo ≤ hi) (h1 : hi ≤ 255) :
    Calls Tryz.prog 168 #[sv x, .int .i64 lo, .int .i64 hi] w fun e w' => e = .returned (sv (x ||| spn lo hi)) ∧ Below w.heap.size w w' := by
  go_enter Tryz.func168, Tryz.ntmps168
  go_wp2
  go_loopw [7] (fun t wr => ∃ b : Int, lo ≤ b ∧ b ≤ hi + 1 ∧ t = .int .i64 b ∧ Holds wr w.heap.size (x ||| spn lo (b - 1)) ∧ (∃ z, Holds wr (w.heap.size + 1) z) ∧ Below w.heap.size w wr) (fun t _ => (hi + 1 - intOf t).toNat)
  case atStart =>
    refine ⟨lo, by omega, by omega, rfl, ?_, ⟨0#256, Holds.zero' w _⟩, ?_⟩
    · rw [spn_nil lo h0 (by omega), BitVec.or_zero]; exact (Holds.new w x).alloc _
    · exact ((Below.refl _ _).alloc (Nat.le_refl _) _).alloc (by simp) _
  case round =>
    obtain ⟨b, hb0, hb1, rfl, hx, ⟨z, hz⟩, hbel⟩ := hrel
    have hsz : w.heap.size + 1 < wr.heap.size := hz.lt
    by_cases hlt : b ≤ hi
    · have HS := (show Hid _ from spn_snoc lo b h0 hb0 (by omega))
      generalize hy : x ||| spn lo (b - 1) = y at hx
      have HY := (show Hid _ from hy)
      clear hy
      have HX := (show Hid _ from hx)
      have HZ := (show Hid _ from hz)
      have HB := (show Hid _ from hbel)
      obtain ⟨l0, c0, c1, c2, c3, f0, f1, f2, f3⟩ := hx
      clear hz hbel
      go_wp2_with fail
      refine (with_any y b _ (by omega) (by omega)).mono ?_
      rintro e w1 ⟨rfl, hb⟩
      obtain ⟨l0, c0, c1, c2, c3, f0, f1, f2, f3⟩ := HX.out.below hb l0
      go_wp2
      go_roundw
      case rel =>
        refine ⟨b + 1, by omega, by omega, rfl, ?_, ⟨z, ?_⟩, ?_⟩
        · rw [show b + 1 - 1 = b from by omega, HS.out, ← BitVec.or_assoc, HY.out]
          exact (HX.out.below hb (by omega)).put _
        · exact (HZ.out.below hb (by omega)).put_other (by omega) _
        · exact ((((HB.out.trans (hb.mono (by omega))).setCell (Nat.le_refl _) _).setCell (Nat.le_refl _) _).setCell (Nat.le_refl _) _).setCell (Nat.le_refl _) _
      case measure => simp [intOf]; omega
    · have hbe : b - 1 = hi := by omega
      rw [hbe] at hx
      generalize hy : x ||| spn lo hi = y at hx
      have HY := (show Hid _ from hy)
      clear hy
      have HZ := (show Hid _ from hz)
      have HB := (show Hid _ from hbel)
      obtain ⟨l0, c0, c1, c2, c3, f0, f1, f2, f3⟩ := hx
      obtain ⟨l1, d0, d1, d2, d3, g0, g1, g2, g3⟩ := hz
      clear hbel
      go_wp2
      rw [HY.out]
      refine bodyPost_ret (v := sv y) (by simp [results, Tryz.results168, go_sem, *]) rfl ⟨rfl, ?_⟩
      exact (((HB.out.setCell (by simp) _).setCell (by simp) _).setCell (by simp) _).setCell (by simp) _
end Go.Proofs.YtkihfkcmcdiajaaGreatDoor

namespace Go.Proofs.YtkihfkcmcdiajaaGreatDoor
open Go.RowKit
theorem below1 (w : World) (a : Obj) : Below w.heap.size w (w.alloc a) := (Below.refl _ _).alloc (Nat.le_refl _) _

theorem fill0_any (lo hi : Int) (w : World) (h0 : 0 ≤ lo) (hle : lo ≤ hi) (h1 : hi ≤ 255) :
    Calls Tryz.prog 168 #[.agg #[.int .u64 0, .int .u64 0, .int .u64 0, .int .u64 0], .int .i64 lo, .int .i64 hi] w fun e w' => e = .returned (sv (spn lo hi)) ∧ Below w.heap.size w w' := by
  have h := fill_any 0#256 lo hi w h0 hle h1
  rw [BitVec.zero_or, sv, wd_zero, wd_zero, wd_zero, wd_zero] at h
  exact h

/-- Is it a capital letter? -/
def capB (b : Int) : Bool := decide (65 ≤ b) && decide (b ≤ 90)
set_option maxHeartbeats 400000 in
theorem isCapital_any (b : Int) (w : World) :
    Calls Tryz.prog 152 #[.int .i64 b] w fun e w' => e = .returned (.bool (capB b)) ∧ w' = w := by
  by_cases h0 : 65 ≤ b
  · have hd : decide (65 ≤ b) = true := by simpa using h0
    go_enter Tryz.func152, Tryz.ntmps152
    go_wp2
    go_ret
    exact ⟨by simp [capB, h0], rfl⟩
  · have hd : decide (65 ≤ b) = false := by simpa using h0
    go_enter Tryz.func152, Tryz.ntmps152
    go_wp2
    go_ret
    exact ⟨by unfold capB; rw [hd]; rfl, rfl⟩

set_option maxHeartbeats 400000 in
theorem bytesFrom_any (lo hi : Int) (w : World) (h0 : 0 ≤ lo) (hle : lo ≤ hi) (h1 : hi ≤ 255) :
    Calls Tryz.prog 165 #[.int .i64 lo, .int .i64 hi] w fun e w' => e = .returned (sv (spn lo hi)) ∧ Below w.heap.size w w' := by
  have HH := (show Hid _ from Holds.zero w)
  have HR := (show Hid _ from below1 w z4)
  have HQ : Hid (Below (w.heap.size + 1) (w.alloc z4) (w.alloc z4)) := Below.refl _ _
  go_enter Tryz.func165, Tryz.ntmps165
  go_wp2_with fail
  refine (fill0_any lo hi _ h0 hle h1).mono ?_
  rintro e w1 ⟨rfl, hb⟩
  replace HQ := (show Hid _ from HQ.out.trans (hb.mono (by first | exact HQ.out.size | (have h := HQ.out.size; simp at h; omega) | simp)))
  have HR1 := (show Hid _ from HR.out.trans (HQ.out.mono (by omega)))
  obtain ⟨l0, c0, c1, c2, c3, f0, f1, f2, f3⟩ := HH.out.below HQ.out (by omega)
  generalize hr : spn lo hi = r
  have Hr := (show Hid _ from hr)
  clear hr
  go_wp2
  exact bodyPost_ret (v := sv r) (by simp [results, Tryz.results165, go_sem, *]) rfl ⟨by rw [Hr.out], (((HR1.out.setCell (by simp) _).setCell (by simp) _).setCell (by simp) _).setCell (by simp) _⟩

set_option maxHeartbeats 400000 in
theorem letters_any (w : World) :
    Calls Tryz.prog 163 #[] w fun e w' => e = .returned (sv (spn 65 90 ||| spn 97 122)) ∧ Below w.heap.size w w' := by
  have HH := (show Hid _ from Holds.zero w)
  have HR := (show Hid _ from below1 w z4)
  have HQ : Hid (Below (w.heap.size + 1) (w.alloc z4) (w.alloc z4)) := Below.refl _ _
  go_enter Tryz.func163, Tryz.ntmps163
  go_wp2_with fail
  refine (bytesFrom_any 65 90 _ (by omega) (by omega) (by omega)).mono ?_
  rintro e w1 ⟨rfl, hb⟩
  replace HQ := (show Hid _ from HQ.out.trans (hb.mono (by first | exact HQ.out.size | (have h := HQ.out.size; simp at h; omega) | simp)))
  go_wp2_with fail
  refine (fill_any _ 97 122 _ (by omega) (by omega) (by omega)).mono ?_
  rintro e w1 ⟨rfl, hb⟩
  replace HQ := (show Hid _ from HQ.out.trans (hb.mono (by first | exact HQ.out.size | (have h := HQ.out.size; simp at h; omega) | simp)))
  have HR1 := (show Hid _ from HR.out.trans (HQ.out.mono (by omega)))
  obtain ⟨l0, c0, c1, c2, c3, f0, f1, f2, f3⟩ := HH.out.below HQ.out (by omega)
  generalize hr : spn 65 90 ||| spn 97 122 = r
  have Hr := (show Hid _ from hr)
  clear hr
  go_wp2
  exact bodyPost_ret (v := sv r) (by simp [results, Tryz.results163, go_sem, *]) rfl ⟨by rw [Hr.out], (((HR1.out.setCell (by simp) _).setCell (by simp) _).setCell (by simp) _).setCell (by simp) _⟩

set_option maxHeartbeats 400000 in
theorem lettersDigits_any (w : World) :
    Calls Tryz.prog 167 #[] w fun e w' => e = .returned (sv (spn 65 90 ||| spn 97 122 ||| spn 48 57)) ∧ Below w.heap.size w w' := by
  have HH := (show Hid _ from Holds.zero w)
  have HR := (show Hid _ from below1 w z4)
  have HQ : Hid (Below (w.heap.size + 1) (w.alloc z4) (w.alloc z4)) := Below.refl _ _
  go_enter Tryz.func167, Tryz.ntmps167
  go_wp2_with fail
  refine (letters_any _).mono ?_
  rintro e w1 ⟨rfl, hb⟩
  replace HQ := (show Hid _ from HQ.out.trans (hb.mono (by first | exact HQ.out.size | (have h := HQ.out.size; simp at h; omega) | simp)))
  go_wp2_with fail
  refine (fill_any _ 48 57 _ (by omega) (by omega) (by omega)).mono ?_
  rintro e w1 ⟨rfl, hb⟩
  replace HQ := (show Hid _ from HQ.out.trans (hb.mono (by first | exact HQ.out.size | (have h := HQ.out.size; simp at h; omega) | simp)))
  have HR1 := (show Hid _ from HR.out.trans (HQ.out.mono (by omega)))
  obtain ⟨l0, c0, c1, c2, c3, f0, f1, f2, f3⟩ := HH.out.below HQ.out (by omega)
  generalize hr : spn 65 90 ||| spn 97 122 ||| spn 48 57 = r
  have Hr := (show Hid _ from hr)
  clear hr
  go_wp2
  exact bodyPost_ret (v := sv r) (by simp [results, Tryz.results167, go_sem, *]) rfl ⟨by rw [Hr.out], (((HR1.out.setCell (by simp) _).setCell (by simp) _).setCell (by simp) _).setCell (by simp) _⟩
end Go.Proofs.YtkihfkcmcdiajaaGreatDoor

namespace Go.Proofs.YtkihfkcmcdiajaaGreatDoor
open Go.RowKit Go.Shelf
attribute [local go_sem] Oper.semAt_some
end Go.Proofs.YtkihfkcmcdiajaaGreatDoor

namespace Go.Proofs.YtkihfkcmcdiajaaGreatDoor
open Go.RowKit Go.Shelf
attribute [local go_sem] Oper.semAt_some
end Go.Proofs.YtkihfkcmcdiajaaGreatDoor

namespace Go.Proofs.YtkihfkcmcdiajaaGreatDoor
open Go.RowKit
/-- Whatever is no row of bytes, and not block b, is as it was. -/
structure KeepT (b : Nat) (w w' : World) : Prop where
  size : w.heap.size ≤ w'.heap.size
  block : ∀ k, k < w.heap.size → k ≠ b → (∀ c fr, w.heap[k]? ≠ some (.cells c 5 fr)) → w'.heap[k]? = w.heap[k]?
theorem KeepT.refl (b : Nat) (w : World) : KeepT b w w := ⟨Nat.le_refl _, fun _ _ _ _ => rfl⟩
theorem KeepT.trans {b : Nat} {x y z : World} (h : KeepT b x y) (k : KeepT b y z) : KeepT b x z :=
  ⟨Nat.le_trans h.size k.size, fun j hj hb ht => by
    have e := h.block j hj hb ht
    exact (k.block j (Nat.lt_of_lt_of_le hj h.size) hb (fun c fr => by rw [e]; exact ht c fr)).trans e⟩
theorem KeepT.setCell (b j : Nat) (w : World) (u : Value) : KeepT b w (w.setCell ⟨b, j, none⟩ u) :=
  ⟨by simp [World.setCell], fun k _ hk _ => Below.heap_setCell _ _ _ _ hk⟩
theorem KeepT.alloc (b : Nat) (w : World) (o : Obj) : KeepT b w (w.alloc o) := ⟨by simp, fun k hk _ _ => Below.heap_alloc _ _ _ hk⟩
theorem KeepT.grown {b : Nat} {w w' : World} {base : Nat} {v : Value} {n : Nat} {xs : List Value} (ho : w.ownsRow base 5 1 v n xs) (hg : w.grownBy w' v.ownBlock) : KeepT b w w' :=
  ⟨hg.size, fun k hk _ ht => hg.block k hk (fun e => by
    rcases ho.2 with ⟨rfl, _⟩ | ⟨g, cap, cur, rfl, _, hgb, _⟩
    · cases e
    · obtain rfl : k = g := by simpa [Value.ownBlock] using e
      exact ht _ _ hgb)⟩
theorem KeepT.below {b : Nat} {w w' : World} (h : Below w.heap.size w w') : KeepT b w w' := ⟨h.size, fun k hk _ _ => h.block k hk⟩
end Go.Proofs.YtkihfkcmcdiajaaGreatDoor

namespace Go.Proofs.YtkihfkcmcdiajaaGreatDoor
open Go.RowKit
/-- Is it a sign that stands behind a backslash? -/
def signB (b : Int) : Bool := (b == 92) || ((b == 93) || ((b == 91) || ((b == 94) || ((b == 45) || (b == 37)))))
def prnB (b : Int) : Bool := decide (32 ≤ b) && decide (b ≤ 126)

set_option maxRecDepth 100000 in
set_option maxHeartbeats 1000000 in
theorem isPrintable_any (b : Int) (w : World) :
    Calls Tryz.prog 190 #[.int .i64 b] w fun e w' => e = .returned (.bool (prnB b)) ∧ w' = w := by
  by_cases h0 : 32 ≤ b
  · have hd : decide (32 ≤ b) = true := by simpa using h0
    go_enter Tryz.func190, Tryz.ntmps190
    go_wp2
    go_ret
    exact ⟨by simp [prnB, h0], rfl⟩
  · have hd : decide (32 ≤ b) = false := by simpa using h0
    go_enter Tryz.func190, Tryz.ntmps190
    go_wp2
    go_ret
    exact ⟨by unfold prnB; rw [hd]; rfl, rfl⟩

set_option maxRecDepth 100000 in
set_option maxHeartbeats 1000000 in
theorem isSign_any (b : Int) (w : World) :
    Calls Tryz.prog 194 #[.int .i64 b] w fun e w' => e = .returned (.bool (signB b)) ∧ w' = w := by
  cases h1 : (b == 92)
  · cases h2 : (b == 93)
    · cases h3 : (b == 91)
      · cases h4 : (b == 94)
        · cases h5 : (b == 45)
          · cases h6 : (b == 37)
            · have HE : Hid (signB b = false) := (by show signB b = false; unfold signB; rw [h1, h2, h3, h4, h5, h6]; rfl)
              go_enter Tryz.func194, Tryz.ntmps194
              go_wp2
              go_ret
              exact ⟨ret_bool HE.out.symm, rfl⟩
            · have HE : Hid (signB b = true) := (by show signB b = true; unfold signB; rw [h1, h2, h3, h4, h5, h6]; rfl)
              go_enter Tryz.func194, Tryz.ntmps194
              go_wp2
              go_ret
              exact ⟨ret_bool HE.out.symm, rfl⟩
          · have HE : Hid (signB b = true) := (by show signB b = true; unfold signB; rw [h5]; simp)
            go_enter Tryz.func194, Tryz.ntmps194
            go_wp2
            go_ret
            exact ⟨ret_bool HE.out.symm, rfl⟩
        · have HE : Hid (signB b = true) := (by show signB b = true; unfold signB; rw [h4]; simp)
          go_enter Tryz.func194, Tryz.ntmps194
          go_wp2
          go_ret
          exact ⟨ret_bool HE.out.symm, rfl⟩
      · have HE : Hid (signB b = true) := (by show signB b = true; unfold signB; rw [h3]; simp)
        go_enter Tryz.func194, Tryz.ntmps194
        go_wp2
        go_ret
        exact ⟨ret_bool HE.out.symm, rfl⟩
    · have HE : Hid (signB b = true) := (by show signB b = true; unfold signB; rw [h2]; simp)
      go_enter Tryz.func194, Tryz.ntmps194
      go_wp2
      go_ret
      exact ⟨ret_bool HE.out.symm, rfl⟩
  · have HE : Hid (signB b = true) := (by show signB b = true; unfold signB; rw [h1]; simp)
    go_enter Tryz.func194, Tryz.ntmps194
    go_wp2
    go_ret
    exact ⟨ret_bool HE.out.symm, rfl⟩

/-- The digit of a number below 16. -/
def hexD (n : Nat) : UInt8 := (#[48, 49, 50, 51, 52, 53, 54, 55, 56, 57, 97, 98, 99, 100, 101, 102] : Array UInt8).getD n 0
theorem conv1 (c : Int) (w : World) : (convert 84 9 (.slice (some ⟨w.heap.size, 0, none⟩) 1 1)).run Tryz.prog (w.alloc (.cells #[.int .u8 c] 5)) = .ok (.string ⟨#[UInt8.ofNat c.toNat]⟩) (w.alloc (.cells #[.int .u8 c] 5)) := by
  rw [run_convert_bytes_string _ 84 9 5 _ _ _ Tryz.underlying84 Tryz.underlying5 Tryz.underlying9]
  exact run_bytesToString _ ⟨w.heap.size, 0, none⟩ 1 1 [c] (run_loadCells_list (P := Tryz.prog) _ ⟨w.heap.size, 0, none⟩ [.int .u8 c] (cell_one_new _ _ _))
theorem conv2 (c d : Int) (w : World) : (convert 84 9 (.slice (some ⟨w.heap.size, 0, none⟩) 2 2)).run Tryz.prog (w.alloc (.cells #[.int .u8 c, .int .u8 d] 5)) = .ok (.string ⟨#[UInt8.ofNat c.toNat, UInt8.ofNat d.toNat]⟩) (w.alloc (.cells #[.int .u8 c, .int .u8 d] 5)) := by
  rw [run_convert_bytes_string _ 84 9 5 _ _ _ Tryz.underlying84 Tryz.underlying5 Tryz.underlying9]
  exact run_bytesToString _ ⟨w.heap.size, 0, none⟩ 2 2 [c, d] (run_loadCells_list (P := Tryz.prog) _ ⟨w.heap.size, 0, none⟩ [.int .u8 c, .int .u8 d] (cell_two_new _ _ _ _))
end Go.Proofs.YtkihfkcmcdiajaaGreatDoor

namespace Go.Proofs.YtkihfkcmcdiajaaGreatDoor
/-- The class of a small letter; what it is an error of. -/
def sml (n : Nat) : BitVec 256 × Int :=
  if n = 97 then (spn 65 90 ||| spn 97 122, 0) else
  if n = 99 then (spn 0 31 ||| bt 127, 0) else
  if n = 100 then (spn 48 57, 0) else
  if n = 103 then (spn 33 126, 0) else
  if n = 108 then (spn 97 122, 0) else
  if n = 112 then (spn 33 126 &&& ~~~ (spn 65 90 ||| spn 97 122 ||| spn 48 57), 0) else
  if n = 115 then (spn 9 13 ||| bt 32, 0) else
  if n = 117 then (spn 65 90, 0) else
  if n = 119 then (spn 65 90 ||| spn 97 122 ||| spn 48 57, 0) else
  if n = 120 then (spn 48 57 ||| spn 65 70 ||| spn 97 102, 0) else
  (0#256, 10)
theorem sml97 : sml 97 = (spn 65 90 ||| spn 97 122, 0) := by unfold sml; rw [if_pos rfl]
theorem sml99 : sml 99 = (spn 0 31 ||| bt 127, 0) := by unfold sml; rw [if_neg (by omega), if_pos rfl]
theorem sml100 : sml 100 = (spn 48 57, 0) := by unfold sml; rw [if_neg (by omega), if_neg (by omega), if_pos rfl]
theorem sml103 : sml 103 = (spn 33 126, 0) := by unfold sml; rw [if_neg (by omega), if_neg (by omega), if_neg (by omega), if_pos rfl]
theorem sml108 : sml 108 = (spn 97 122, 0) := by unfold sml; rw [if_neg (by omega), if_neg (by omega), if_neg (by omega), if_neg (by omega), if_pos rfl]
theorem sml112 : sml 112 = (spn 33 126 &&& ~~~ (spn 65 90 ||| spn 97 122 ||| spn 48 57), 0) := by unfold sml; rw [if_neg (by omega), if_neg (by omega), if_neg (by omega), if_neg (by omega), if_neg (by omega), if_pos rfl]
theorem sml115 : sml 115 = (spn 9 13 ||| bt 32, 0) := by unfold sml; rw [if_neg (by omega), if_neg (by omega), if_neg (by omega), if_neg (by omega), if_neg (by omega), if_neg (by omega), if_pos rfl]
theorem sml117 : sml 117 = (spn 65 90, 0) := by unfold sml; rw [if_neg (by omega), if_neg (by omega), if_neg (by omega), if_neg (by omega), if_neg (by omega), if_neg (by omega), if_neg (by omega), if_pos rfl]
theorem sml119 : sml 119 = (spn 65 90 ||| spn 97 122 ||| spn 48 57, 0) := by unfold sml; rw [if_neg (by omega), if_neg (by omega), if_neg (by omega), if_neg (by omega), if_neg (by omega), if_neg (by omega), if_neg (by omega), if_neg (by omega), if_pos rfl]
theorem sml120 : sml 120 = (spn 48 57 ||| spn 65 70 ||| spn 97 102, 0) := by unfold sml; rw [if_neg (by omega), if_neg (by omega), if_neg (by omega), if_neg (by omega), if_neg (by omega), if_neg (by omega), if_neg (by omega), if_neg (by omega), if_neg (by omega), if_pos rfl]
theorem sml_none (n : Nat) (h97 : n ≠ 97) (h99 : n ≠ 99) (h100 : n ≠ 100) (h103 : n ≠ 103) (h108 : n ≠ 108) (h112 : n ≠ 112) (h115 : n ≠ 115) (h117 : n ≠ 117) (h119 : n ≠ 119) (h120 : n ≠ 120) : sml n = (0#256, 10) := by unfold sml; rw [if_neg h97, if_neg h99, if_neg h100, if_neg h103, if_neg h108, if_neg h112, if_neg h115, if_neg h117, if_neg h119, if_neg h120]
/-- The class of a letter, small or capital. -/
def cls (n : Nat) : BitVec 256 × Int :=
  if 65 ≤ n ∧ n ≤ 90 then (if (sml (n + 32)).2 = 0 then (~~~ (sml (n + 32)).1, 0) else (0#256, (sml (n + 32)).2)) else sml n
theorem sml_err (n : Nat) : (sml n).2 = 0 ∨ (sml n).2 = 10 := by
  by_cases h97 : n = 97
  · rw [h97, sml97]; exact .inl rfl
  by_cases h99 : n = 99
  · rw [h99, sml99]; exact .inl rfl
  by_cases h100 : n = 100
  · rw [h100, sml100]; exact .inl rfl
  by_cases h103 : n = 103
  · rw [h103, sml103]; exact .inl rfl
  by_cases h108 : n = 108
  · rw [h108, sml108]; exact .inl rfl
  by_cases h112 : n = 112
  · rw [h112, sml112]; exact .inl rfl
  by_cases h115 : n = 115
  · rw [h115, sml115]; exact .inl rfl
  by_cases h117 : n = 117
  · rw [h117, sml117]; exact .inl rfl
  by_cases h119 : n = 119
  · rw [h119, sml119]; exact .inl rfl
  by_cases h120 : n = 120
  · rw [h120, sml120]; exact .inl rfl
  rw [sml_none n h97 h99 h100 h103 h108 h112 h115 h117 h119 h120]; exact .inr rfl
end Go.Proofs.YtkihfkcmcdiajaaGreatDoor

namespace Go.Proofs.YtkihfkcmcdiajaaGreatDoor
open Go.RowKit
/-- The byte of a text at a place, or -1. -/
def chr (s : ByteArray) (i : Nat) : Int := if h : i < s.size then (s[i].toNat : Int) else -1
theorem chr_in {s : ByteArray} {i : Nat} (h : i < s.size) : chr s i = (s[i].toNat : Int) := by unfold chr; rw [dif_pos h]
theorem chr_out {s : ByteArray} {i : Nat} (h : ¬ i < s.size) : chr s i = -1 := by unfold chr; rw [dif_neg h]
theorem chr_le (s : ByteArray) (i : Nat) : -1 ≤ chr s i ∧ chr s i ≤ 255 := by
  unfold chr
  split
  · have := s[i].toNat_lt; omega
  · omega
theorem chr_lt {s : ByteArray} {i : Nat} (h : 0 ≤ chr s i) : i < s.size := by
  by_cases hi : i < s.size
  · exact hi
  · rw [chr_out hi] at h; omega
/-- What a digit is worth, or -1. -/
def hexV (c : Int) : Int := if 48 ≤ c ∧ c ≤ 57 then c - 48 else if 97 ≤ c ∧ c ≤ 102 then c - 87 else -1
/-- A byte told by its number, behind a backslash. -/
def rdHex (s : ByteArray) (i : Nat) : Option (Nat × Nat) :=
  if 0 ≤ hexV (chr s (i + 2)) ∧ 0 ≤ hexV (chr s (i + 3)) then some ((16 * hexV (chr s (i + 2)) + hexV (chr s (i + 3))).toNat, i + 4) else none
def rdEsc (s : ByteArray) (i : Nat) : Option (Nat × Nat) :=
  if chr s (i + 1) = 110 then some (10, i + 2) else if chr s (i + 1) = 114 then some (13, i + 2) else if chr s (i + 1) = 116 then some (9, i + 2) else
  if chr s (i + 1) = 120 then rdHex s i else if signB (chr s (i + 1)) then some ((chr s (i + 1)).toNat, i + 2) else none
def rdItem (s : ByteArray) (i : Nat) : Option (Nat × Nat) :=
  if chr s i = 92 then rdEsc s i else if chr s i = 93 ∨ chr s i = 45 ∨ chr s i = 37 ∨ prnB (chr s i) = false then none else some ((chr s i).toNat, i + 1)
/-- What is read, or a place and an error. -/
abbrev Rd (α : Type) := Sum α (Nat × Int)
def rdClass (s : ByteArray) (i : Nat) : Rd (BitVec 256 × Nat) :=
  if i + 1 < s.size ∧ (cls (chr s (i + 1)).toNat).2 = 0 then .inl ((cls (chr s (i + 1)).toNat).1, i + 2) else .inr (i, 10)
def rdMember (s : ByteArray) (i : Nat) : Rd (BitVec 256 × Nat) :=
  if chr s i = 37 then rdClass s i else
  match rdItem s i with
  | none => .inr (i, 6)
  | some (lo, n) =>
    if chr s n = 45 then
      match rdItem s (n + 1) with
      | none => .inr ((n + 1), 6)
      | some (hi, e) => if hi < lo then .inr (i, 1) else .inl (spn lo hi, e)
    else .inl (spn lo lo, n)
def rdMembers (s : ByteArray) : Nat → BitVec 256 → Nat → Rd (BitVec 256 × Nat)
  | 0, _, i => .inr (i, 6)
  | f + 1, x, i =>
    if chr s i = 93 then .inl (x, i) else
    match rdMember s i with
    | .inr (a, c) => .inr (a, c)
    | .inl (y, n) => rdMembers s f (x ||| y) n

theorem hexV_bd (c : Int) : -1 ≤ hexV c ∧ hexV c ≤ 15 := by unfold hexV; split; omega; split <;> omega
theorem hexV_chr {s : ByteArray} {i : Nat} (h : 0 ≤ hexV (chr s i)) : i < s.size := by
  by_cases hi : i < s.size
  · exact hi
  · rw [chr_out hi] at h; simp [hexV] at h
theorem rdHex_bd {s : ByteArray} {i b n : Nat} (h : rdHex s i = some (b, n)) : b < 256 ∧ i < n ∧ n ≤ s.size := by
  unfold rdHex at h
  split at h
  · rename_i hh
    have h1 := hexV_bd (chr s (i + 2)); have h2 := hexV_bd (chr s (i + 3)); have h3 := hexV_chr hh.2
    simp at h; omega
  · simp at h
theorem rdEsc_bd {s : ByteArray} {i b n : Nat} (h : rdEsc s i = some (b, n)) : b < 256 ∧ i < n ∧ n ≤ s.size := by
  unfold rdEsc at h
  have hc := chr_le s (i + 1)
  by_cases hi : i + 1 < s.size
  · split at h; (simp at h; omega)
    split at h; (simp at h; omega)
    split at h; (simp at h; omega)
    split at h; (exact rdHex_bd h)
    split at h
    · simp at h; omega
    · simp at h
  · rw [chr_out hi] at h; simp [signB] at h
theorem rdItem_bd {s : ByteArray} {i b n : Nat} (h : rdItem s i = some (b, n)) : b < 256 ∧ i < n ∧ n ≤ s.size := by
  unfold rdItem at h
  split at h
  · exact rdEsc_bd h
  · split at h
    · simp at h
    · rename_i h1
      have hc := chr_le s i
      have hi : i < s.size := by
        by_cases hi : i < s.size
        · exact hi
        · rw [chr_out hi] at h1; simp [prnB] at h1
      simp at h; omega
theorem rdMember_bd {s : ByteArray} {i n : Nat} {y : BitVec 256} (h : rdMember s i = .inl (y, n)) : i < n ∧ n ≤ s.size := by
  unfold rdMember at h
  split at h
  · unfold rdClass at h
    split at h
    · simp at h; omega
    · simp at h
  · split at h
    · simp at h
    · rename_i lo m hm
      have b1 := rdItem_bd hm
      split at h
      · split at h
        · simp at h
        · rename_i hi e he
          have b2 := rdItem_bd he
          split at h
          · simp at h
          · simp at h; omega
      · simp at h; omega
end Go.Proofs.YtkihfkcmcdiajaaGreatDoor
