/- DERIVED. Plain mathematics and walks, laid together (1). -/
import Derived.Shelf.Small.Strs
import Derived.Shelf.Strings.Search1
import Derived.Shelf.Strings.Prefix
import Derived.Test.YthffklhojdldkaaDoorProg
import Derived.WalkKit
import Derived.Test.YthffklhojdldkaaDoorRows
import Derived.WalkSpells
import Derived.WalkLawsBesides
import Derived.Deep.QuietTactic
import Derived.BigQuiet
import Derived.Deep.RegionHeld3
import Derived.Maps.AppendAt
import Derived.RangeFuncNested
import Derived.RangeFuncBound
import Derived.RangeFuncCalls
import Derived.RangeFuncLeaves
import Derived.RangeFuncFrom
import Derived.Shelf.Abstract
import Derived.Shelf.RegionOpen
import Derived.OwnWalkIn
import Derived.TacticsInMore
import Derived.LoopNIn
import Derived.LoopIn
namespace Go.Proofs
open Go.Shelf
def Tryd.lays137_ren : Go.Shelf.Ren := ⟨fun | 137 => 64 | 217 => 80 | 266 => 92 | n => n, fun | 9 => 9 | 5 => 5 | 3 => 3 | n => n, fun | n => n⟩
theorem Tryd.lays137 : Go.Proofs.Lays.n137 Tryd.prog Tryd.lays137_ren := {
  mixed := by kernel_rfl
  f137 := Tryd.func64.trans (congrArg some (by kernel_rfl))
  f217 := Tryd.func80.trans (congrArg some (by kernel_rfl))
  f266 := Tryd.func92.trans (congrArg some (by kernel_rfl))
  t3 := Tryd.underlying3
  a3 := Tryd.isAgg3
  z3 := Tryd.sizeOf3
  v3 := Tryd.zeroValue3
  t5 := Tryd.underlying5
  a5 := Tryd.isAgg5
  z5 := Tryd.sizeOf5
  v5 := Tryd.zeroValue5
  t9 := Tryd.underlying9
  a9 := Tryd.isAgg9
  z9 := Tryd.sizeOf9
  v9 := Tryd.zeroValue9 }
open Go.RowKit in
theorem Tryd.strings_IndexByte (s : ByteArray) (c : Int) (w : World) :
    Calls Tryd.prog 64 #[.string s, .int .u8 c] w fun e w' => e = .returned (.int .i64 (Lib.indexByte s.data.toList c.toNat.toUInt8)) ∧ w' = w := Any.strings_IndexByte Tryd.lays137 s c w
def Tryd.lays99_ren : Go.Shelf.Ren := ⟨fun | 99 => 20 | 206 => 42 | n => n, fun | 9 => 9 | 4 => 4 | 3 => 3 | n => n, fun | n => n⟩
theorem Tryd.lays99 : Go.Proofs.Lays.n99 Tryd.prog Tryd.lays99_ren := {
  mixed := by kernel_rfl
  f99 := Tryd.func20.trans (congrArg some (by kernel_rfl))
  f206 := Tryd.func42.trans (congrArg some (by kernel_rfl))
  t3 := Tryd.underlying3
  a3 := Tryd.isAgg3
  z3 := Tryd.sizeOf3
  v3 := Tryd.zeroValue3
  t4 := Tryd.underlying4
  a4 := Tryd.isAgg4
  z4 := Tryd.sizeOf4
  v4 := Tryd.zeroValue4
  t9 := Tryd.underlying9
  a9 := Tryd.isAgg9
  z9 := Tryd.sizeOf9
  v9 := Tryd.zeroValue9 }
open Go.RowKit Go.Lib in
theorem Tryd.strings_HasPrefix (s p : ByteArray) (w : World) :
    Calls Tryd.prog 20 #[.string s, .string p] w fun e w' => e = .returned (.bool (Lib.hasPrefix s.data.toList p.data.toList)) ∧ w' = w := Any.strings_HasPrefix Tryd.lays99 s p w
end Go.Proofs

namespace Go.Proofs.YthffklhojdldkaaDoor
open Go.RowKit
/-- Word i of a set. -/
def wd (x : BitVec 256) (i : Nat) : Int := ((x.extractLsb' (64 * i) 64).toNat : Int)

/-- The set of one byte. -/
def bt (b : Nat) : BitVec 256 := 1#256 <<< b

theorem wd_lo (x : BitVec 256) (i : Nat) : 0 ≤ wd x i := by unfold wd; omega
theorem wd_hi (x : BitVec 256) (i : Nat) : wd x i < 18446744073709551616 := by
  unfold wd; have := (x.extractLsb' (64 * i) 64).isLt; omega
theorem wd_toNat (x : BitVec 256) (i : Nat) : (wd x i).toNat = (x.extractLsb' (64 * i) 64).toNat := by unfold wd; omega
theorem wd_testBit (x : BitVec 256) (i j : Nat) : (wd x i).toNat.testBit j = (decide (j < 64) && x.getLsbD (64 * i + j)) := by
  rw [wd_toNat, BitVec.testBit_toNat, BitVec.getLsbD_extractLsb']

theorem wd_of_testBit (x : BitVec 256) (i : Nat) (n : Int) (h0 : 0 ≤ n) (h : ∀ j, n.toNat.testBit j = (decide (j < 64) && x.getLsbD (64 * i + j))) : n = wd x i := by
  have : n.toNat = (wd x i).toNat := Nat.eq_of_testBit_eq fun j => by rw [h j, wd_testBit]
  have := wd_lo x i
  omega

theorem wd_or (x y : BitVec 256) (i : Nat) : bits .or .u64 (wd x i) (wd y i) = wd (x ||| y) i := by
  rw [u64_or _ _ (wd_lo _ _) (wd_hi _ _) (wd_lo _ _) (wd_hi _ _)]
  refine wd_of_testBit _ _ _ (by omega) fun j => ?_
  rw [Int.toNat_natCast, Nat.testBit_or, wd_testBit, wd_testBit, BitVec.getLsbD_or]
  cases decide (j < 64) <;> simp
theorem wd_and (x y : BitVec 256) (i : Nat) : bits .and .u64 (wd x i) (wd y i) = wd (x &&& y) i := by
  rw [u64_and _ _ (wd_lo _ _) (wd_hi _ _) (wd_lo _ _) (wd_hi _ _)]
  refine wd_of_testBit _ _ _ (by omega) fun j => ?_
  rw [Int.toNat_natCast, Nat.testBit_and, wd_testBit, wd_testBit, BitVec.getLsbD_and]
  cases decide (j < 64) <;> simp

theorem bt_get (b j : Nat) (hb : b < 256) : (bt b).getLsbD j = decide (j = b) := by
  unfold bt
  rw [BitVec.getLsbD_shiftLeft]
  by_cases h : j = b
  · subst h; simp [hb]
  · by_cases h1 : j < b
    · simp [h1, h]
    · by_cases h2 : j < 256
      · have : j - b ≠ 0 := by omega
        simp [h, h2, BitVec.getLsbD_one, this]
      · simp [h, h2]

/-- The word of one bit, as the walk writes it. -/
theorem pow_wrap (k : Nat) (h : k < 64) : IntKind.u64.wrap (2 ^ k) = ((2 ^ k : Nat) : Int) := by
  rw [IntKind.wrap_u64]
  have h1 : 2 ^ k < 2 ^ 64 := Nat.pow_lt_pow_right (by omega) h
  have h2 : ((2 ^ k : Nat) : Int) = (2 : Int) ^ k := by simp
  rw [← h2]
  generalize 2 ^ k = n at *
  omega

theorem wd_bt_same (b i : Nat) (hb : b < 256) (hi : b / 64 = i) : wd (bt b) i = ((2 ^ (b % 64) : Nat) : Int) := by
  refine (wd_of_testBit _ _ _ (Int.natCast_nonneg _) fun j => ?_).symm
  rw [Int.toNat_natCast, Nat.testBit_two_pow, bt_get _ _ hb]
  by_cases h : b % 64 = j
  · have : j < 64 := by omega
    have h2 : 64 * i + j = b := by omega
    simp [h, this, h2]
  · by_cases h3 : j < 64
    · have h2 : ¬ 64 * i + j = b := by omega
      simp [h, h2]
    · simp [h, h3]
theorem wd_bt_other (b i : Nat) (hb : b < 256) (hi : b / 64 ≠ i) : wd (bt b) i = 0 := by
  refine (wd_of_testBit _ _ _ (by omega) fun j => ?_).symm
  rw [bt_get _ _ hb]
  by_cases h3 : j < 64
  · have h2 : ¬ 64 * i + j = b := by omega
    simp [h2]
  · simp [h3]

theorem bits_or_zero (x : BitVec 256) (i : Nat) : bits .or .u64 (wd x i) 0 = wd x i := by
  rw [u64_or _ _ (wd_lo _ _) (wd_hi _ _) (by omega) (by omega)]
  have := wd_lo x i
  simp; omega

/-- The word in which the byte lies. -/
theorem wd_with_same (x : BitVec 256) (b i : Nat) (hb : b < 256) (hi : b / 64 = i) : bits .or .u64 (wd x i) (((2 ^ (b % 64) : Nat) : Int)) = wd (x ||| bt b) i := by
  rw [← wd_bt_same b i hb hi, wd_or]
theorem wd_with_other (x : BitVec 256) (b i : Nat) (hb : b < 256) (hi : b / 64 ≠ i) : wd (x ||| bt b) i = wd x i := by
  rw [← wd_or, wd_bt_other b i hb hi, bits_or_zero]

theorem has_shr (x : BitVec 256) (b i : Nat) (hi : b / 64 = i) : (wd x i).toNat / 2 ^ (b % 64) % 2 = (x.getLsbD b).toNat := by
  have h := wd_testBit x i (b % 64)
  have h2 : 64 * i + b % 64 = b := by omega
  have h3 : b % 64 < 64 := by omega
  rw [h2] at h
  simp only [h3, decide_true, Bool.true_and] at h
  rw [← h, Nat.testBit_eq_decide_div_mod_eq]
  have := Nat.mod_two_eq_zero_or_one ((wd x i).toNat / 2 ^ (b % 64))
  rcases this with e | e <;> simp [e]

/-- The word of one bit. -/
def pw (n : Nat) : Int := ((2 ^ (n % 64) : Nat) : Int)
theorem pw_of (b : Int) (h0 : 0 ≤ b) : IntKind.u64.wrap (2 ^ (b % 64).toNat) = pw b.toNat := by
  rw [pow_wrap _ (by omega), show (b % 64).toNat = b.toNat % 64 from by omega]; rfl
/-- One byte more, word by word. -/
theorem wds_with (x : BitVec 256) (b : Int) (h0 : 0 ≤ b) (h1 : b ≤ 255) (i : Nat) (hi : b / 64 = (i : Int)) :
    bits .or .u64 (wd x i) (pw b.toNat) = wd (x ||| bt b.toNat) i ∧ ∀ j, j ≠ i → wd x j = wd (x ||| bt b.toNat) j :=
  ⟨wd_with_same x _ i (by omega) (by omega), fun j hj => (wd_with_other x _ j (by omega) (by omega)).symm⟩
theorem wrap_quo (b : Int) (h0 : 0 ≤ b) (h1 : b ≤ 255) : IntKind.i64.wrap (b.tdiv 64) = b / 64 := by
  rw [Int.tdiv_eq_ediv_of_nonneg h0, IntKind.wrap_i64]; omega
end Go.Proofs.YthffklhojdldkaaDoor

namespace Go.Proofs.YthffklhojdldkaaDoor
open Go.RowKit
abbrev sv (x : BitVec 256) : Value := .agg #[.int .u64 (wd x 0), .int .u64 (wd x 1), .int .u64 (wd x 2), .int .u64 (wd x 3)]

theorem ret_int {k : IntKind} {a b : Int} (h : a = b) : Ending.returned (.int k a) = .returned (.int k b) := by rw [h]

set_option maxHeartbeats 400000 in
theorem bit_any (b : Int) (w : World) (h0 : 0 ≤ b) (h1 : b ≤ 255) :
    Calls Tryd.prog 96 #[.int .i64 b] w fun e w' => e = .returned (.int .u64 (pw b.toNat)) ∧ w' = w := by
  go_enter Tryd.func96, Tryd.ntmps96
  go_wp2
  go_ret
  exact ⟨ret_int (pw_of b h0), rfl⟩

theorem ret_sv {a b c d : Int} {y : BitVec 256} (h0 : a = wd y 0) (h1 : b = wd y 1) (h2 : c = wd y 2) (h3 : d = wd y 3) : Ending.returned (.agg #[.int .u64 a, .int .u64 b, .int .u64 c, .int .u64 d]) = .returned (sv y) := by
  rw [h0, h1, h2, h3]

set_option maxHeartbeats 1000000 in
theorem with_any (x : BitVec 256) (b : Int) (w : World) (h0 : 0 ≤ b) (h1 : b ≤ 255) :
    Calls Tryd.prog 86 #[sv x, .int .i64 b] w fun e w' => e = .returned (sv (x ||| bt b.toNat)) ∧ Below w.heap.size w w' := by
  have hq : b / 64 = 0 ∨ b / 64 = 1 ∨ b / 64 = 2 ∨ b / 64 = 3 := by omega
  rcases hq with hq | hq | hq | hq
  · have hs := (show Hid _ from wds_with x b h0 h1 0 hq)
    have t1 : IntKind.i64.wrap (b.tdiv 64) = 0 := by rw [wrap_quo b h0 h1]; exact hq
    go_enter Tryd.func86, Tryd.ntmps86
    go_wp2
    go_region_with ((go_at_call 96; refine (bit_any _ _ (by omega) (by omega)).mono ?_; rintro e w' ⟨rfl, rfl⟩))
    all_goals
      go_wp2
      replace hs := hs.out
      exact bodyPost_ret (v := .agg #[.int .u64 (bits BinOp.or IntKind.u64 (wd x 0) (pw b.toNat)), .int .u64 (wd x 1), .int .u64 (wd x 2), .int .u64 (wd x 3)]) (by simp [results, Tryd.results86, go_sem]) rfl ⟨ret_sv hs.1 (hs.2 1 (by omega)) (hs.2 2 (by omega)) (hs.2 3 (by omega)), (((Below.refl _ _).alloc (Nat.le_refl _) _).alloc (by simp) _).drew⟩
  · have hs := (show Hid _ from wds_with x b h0 h1 1 hq)
    have t1 : IntKind.i64.wrap (b.tdiv 64) = 1 := by rw [wrap_quo b h0 h1]; exact hq
    go_enter Tryd.func86, Tryd.ntmps86
    go_wp2
    go_region_with ((go_at_call 96; refine (bit_any _ _ (by omega) (by omega)).mono ?_; rintro e w' ⟨rfl, rfl⟩))
    all_goals
      go_wp2
      replace hs := hs.out
      exact bodyPost_ret (v := .agg #[.int .u64 (wd x 0), .int .u64 (bits BinOp.or IntKind.u64 (wd x 1) (pw b.toNat)), .int .u64 (wd x 2), .int .u64 (wd x 3)]) (by simp [results, Tryd.results86, go_sem]) rfl ⟨ret_sv (hs.2 0 (by omega)) hs.1 (hs.2 2 (by omega)) (hs.2 3 (by omega)), (((Below.refl _ _).alloc (Nat.le_refl _) _).alloc (by simp) _).drew⟩
  · have hs := (show Hid _ from wds_with x b h0 h1 2 hq)
    have t1 : IntKind.i64.wrap (b.tdiv 64) = 2 := by rw [wrap_quo b h0 h1]; exact hq
    go_enter Tryd.func86, Tryd.ntmps86
    go_wp2
    go_region_with ((go_at_call 96; refine (bit_any _ _ (by omega) (by omega)).mono ?_; rintro e w' ⟨rfl, rfl⟩))
    all_goals
      go_wp2
      replace hs := hs.out
      exact bodyPost_ret (v := .agg #[.int .u64 (wd x 0), .int .u64 (wd x 1), .int .u64 (bits BinOp.or IntKind.u64 (wd x 2) (pw b.toNat)), .int .u64 (wd x 3)]) (by simp [results, Tryd.results86, go_sem]) rfl ⟨ret_sv (hs.2 0 (by omega)) (hs.2 1 (by omega)) hs.1 (hs.2 3 (by omega)), (((Below.refl _ _).alloc (Nat.le_refl _) _).alloc (by simp) _).drew⟩
  · have hs := (show Hid _ from wds_with x b h0 h1 3 hq)
    have t1 : IntKind.i64.wrap (b.tdiv 64) = 3 := by rw [wrap_quo b h0 h1]; exact hq
    go_enter Tryd.func86, Tryd.ntmps86
    go_wp2
    go_region_with ((go_at_call 96; refine (bit_any _ _ (by omega) (by omega)).mono ?_; rintro e w' ⟨rfl, rfl⟩))
    all_goals
      go_wp2
      replace hs := hs.out
      exact bodyPost_ret (v := .agg #[.int .u64 (wd x 0), .int .u64 (wd x 1), .int .u64 (wd x 2), .int .u64 (bits BinOp.or IntKind.u64 (wd x 3) (pw b.toNat))]) (by simp [results, Tryd.results86, go_sem]) rfl ⟨ret_sv (hs.2 0 (by omega)) (hs.2 1 (by omega)) (hs.2 2 (by omega)) hs.1, (((Below.refl _ _).alloc (Nat.le_refl _) _).alloc (by simp) _).drew⟩
end Go.Proofs.YthffklhojdldkaaDoor

namespace Go.Proofs.YthffklhojdldkaaDoor
open Go.RowKit
/-- Block b holds the set x, and may be written. -/
structure Holds (w : World) (b : Nat) (x : BitVec 256) : Prop where
  lt : b < w.heap.size
  c0 : w.cell? ⟨b, 0, none⟩ = some (.int .u64 (wd x 0))
  c1 : w.cell? ⟨b, 1, none⟩ = some (.int .u64 (wd x 1))
  c2 : w.cell? ⟨b, 2, none⟩ = some (.int .u64 (wd x 2))
  c3 : w.cell? ⟨b, 3, none⟩ = some (.int .u64 (wd x 3))
  f0 : w.frozen? ⟨b, 0, none⟩ = false
  f1 : w.frozen? ⟨b, 1, none⟩ = false
  f2 : w.frozen? ⟨b, 2, none⟩ = false
  f3 : w.frozen? ⟨b, 3, none⟩ = false

theorem Holds.below {B : Nat} {w w' : World} {b : Nat} {x : BitVec 256} (h : Holds w b x) (hb : Below B w w') (hB : b < B) : Holds w' b x :=
  ⟨Nat.lt_of_lt_of_le h.lt hb.size, (hb.cell (p := ⟨b, 0, none⟩) hB).trans h.c0, (hb.cell (p := ⟨b, 1, none⟩) hB).trans h.c1, (hb.cell (p := ⟨b, 2, none⟩) hB).trans h.c2, (hb.cell (p := ⟨b, 3, none⟩) hB).trans h.c3, (hb.frozen (p := ⟨b, 0, none⟩) hB).trans h.f0, (hb.frozen (p := ⟨b, 1, none⟩) hB).trans h.f1, (hb.frozen (p := ⟨b, 2, none⟩) hB).trans h.f2, (hb.frozen (p := ⟨b, 3, none⟩) hB).trans h.f3⟩
theorem Holds.drew {w : World} {b : Nat} {x : BitVec 256} (h : Holds w b x) : Holds w.drew b x := h.below (Below.refl w.heap.size w).drew h.lt
theorem Holds.alloc {w : World} {b : Nat} {x : BitVec 256} (h : Holds w b x) (o : Obj) : Holds (w.alloc o) b x := h.below ((Below.refl w.heap.size w).alloc (Nat.le_refl _) o) h.lt
theorem Holds.new (w : World) (x : BitVec 256) : Holds (w.alloc (.cells #[.int .u64 (wd x 0), .int .u64 (wd x 1), .int .u64 (wd x 2), .int .u64 (wd x 3)] 34)) w.heap.size x := by
  constructor <;> simp [go_sem]

theorem wd_zero (i : Nat) : wd 0#256 i = 0 := by unfold wd; simp
theorem Holds.zero (w : World) : Holds (w.alloc (.cells #[.int .u64 0, .int .u64 0, .int .u64 0, .int .u64 0] 34)) w.heap.size 0#256 := by
  have h := Holds.new w 0#256
  rw [wd_zero, wd_zero, wd_zero, wd_zero] at h
  exact h
theorem Holds.zero' (w : World) (o : Obj) : Holds ((w.alloc o).alloc (.cells #[.int .u64 0, .int .u64 0, .int .u64 0, .int .u64 0] 34)) (w.heap.size + 1) 0#256 := by
  have h := Holds.zero (w.alloc o)
  rw [show (w.alloc o).heap.size = w.heap.size + 1 from by simp] at h
  exact h

/-- The four stores of a set into block b. -/
abbrev put4 (w : World) (b : Nat) (y : BitVec 256) : World := (((w.setCell ⟨b, 0, none⟩ (.int .u64 (wd y 0))).setCell ⟨b, 1, none⟩ (.int .u64 (wd y 1))).setCell ⟨b, 2, none⟩ (.int .u64 (wd y 2))).setCell ⟨b, 3, none⟩ (.int .u64 (wd y 3))

theorem Holds.put {w : World} {b : Nat} {x : BitVec 256} (h : Holds w b x) (y : BitVec 256) : Holds (put4 w b y) b y := by
  obtain ⟨lt, c0, c1, c2, c3, f0, f1, f2, f3⟩ := h
  constructor <;> simp [go_sem, *]
theorem Holds.put_other {w : World} {b c : Nat} {x : BitVec 256} (h : Holds w c x) (hne : c ≠ b) (y : BitVec 256) : Holds (put4 w b y) c x := by
  obtain ⟨lt, c0, c1, c2, c3, f0, f1, f2, f3⟩ := h
  constructor <;> simp [go_sem, *]

/-- The set of the bytes below n that the test names. -/
def ofB (f : Nat → Bool) : Nat → BitVec 256
  | 0 => 0#256
  | n + 1 => if f n then ofB f n ||| bt n else ofB f n
theorem ofB_get (f : Nat → Bool) (n : Nat) (hn : n ≤ 256) (j : Nat) : (ofB f n).getLsbD j = (decide (j < n) && f j) := by
  induction n with
  | zero => simp [ofB]
  | succ n ih =>
    have ih := ih (by omega)
    unfold ofB
    by_cases h : f n = true
    · rw [if_pos h, BitVec.getLsbD_or, ih, bt_get _ _ (by omega)]
      by_cases e : j = n
      · subst e; simp [h]
      · have : decide (j < n + 1) = decide (j < n) := decide_eq_decide.2 (by omega)
        simp [e, this]
    · rw [if_neg h, ih]
      by_cases e : j = n
      · subst e; simp [h]
      · have : decide (j < n + 1) = decide (j < n) := decide_eq_decide.2 (by omega)
        simp [this]
theorem set_eq (x y : BitVec 256) (h : ∀ j, j < 256 → x.getLsbD j = y.getLsbD j) : x = y := BitVec.eq_of_getLsbD_eq h
/-- The bytes from lo to hi. -/
def spn (lo hi : Int) : BitVec 256 := ofB (fun j => decide (lo ≤ (j : Int))) (hi + 1).toNat
theorem spn_get (lo hi : Int) (h1 : hi ≤ 255) (j : Nat) : (spn lo hi).getLsbD j = (decide (lo ≤ (j : Int)) && decide ((j : Int) ≤ hi)) := by
  unfold spn
  rw [ofB_get _ _ (by omega)]
  have : decide (j < (hi + 1).toNat) = decide ((j : Int) ≤ hi) := decide_eq_decide.2 (by omega)
  rw [this, Bool.and_comm]
theorem spn_nil (lo : Int) (h0 : 0 ≤ lo) (h1 : lo ≤ 256) : spn lo (lo - 1) = 0#256 := by
  refine set_eq _ _ fun j hj => ?_
  rw [spn_get _ _ (by omega)]
  by_cases h : lo ≤ (j : Int)
  · have : ¬ (j : Int) ≤ lo - 1 := by omega
    simp [this]
  · simp [h]
theorem spn_snoc (lo b : Int) (h0 : 0 ≤ lo) (hb : lo ≤ b) (h1 : b ≤ 255) : spn lo b = spn lo (b - 1) ||| bt b.toNat := by
  refine set_eq _ _ fun j hj => ?_
  rw [spn_get _ _ (by omega), BitVec.getLsbD_or, spn_get _ _ (by omega), bt_get _ _ (by omega)]
  by_cases e : j = b.toNat
  · have a1 : lo ≤ (j : Int) := by omega
    have a2 : (j : Int) ≤ b := by omega
    rw [decide_eq_true a1, decide_eq_true a2, decide_eq_true e]; simp
  · have : decide ((j : Int) ≤ b) = decide ((j : Int) ≤ b - 1) := decide_eq_decide.2 (by omega)
    simp [e, this]
end Go.Proofs.YthffklhojdldkaaDoor

namespace Go.Proofs.YthffklhojdldkaaDoor
def s1 (b : Nat) : Nat := ((b / 2) &&& 85) + (b &&& 85)
def s2 (b : Nat) : Nat := ((b / 4) &&& 51) + (b &&& 51)
def s3 (b : Nat) : Nat := (b / 16 + b) % 16
end Go.Proofs.YthffklhojdldkaaDoor

namespace Go.Proofs.YthffklhojdldkaaDoor
open Go.RowKit
def hasB (x : BitVec 256) (b : Int) : Bool := decide (0 ≤ b) && (decide (b ≤ 255) && x.getLsbD b.toNat)
theorem hasB_no (x : BitVec 256) (b : Int) (h : ¬ (0 ≤ b ∧ b ≤ 255)) : hasB x b = false := by
  unfold hasB
  by_cases h0 : 0 ≤ b
  · have : ¬ b ≤ 255 := fun h1 => h ⟨h0, h1⟩
    simp [this]
  · simp [h0]
theorem hasB_yes (x : BitVec 256) (b : Int) (h0 : 0 ≤ b) (h1 : b ≤ 255) : hasB x b = x.getLsbD b.toNat := by
  unfold hasB; simp [h0, h1]
theorem ret_bool {a b : Bool} (h : a = b) : Ending.returned (.bool a) = .returned (.bool b) := by rw [h]

theorem has_shr' (x : BitVec 256) (b : Int) (h0 : 0 ≤ b) (i : Nat) (hi : b / 64 = (i : Int)) : (bits .and .u64 (wd x i / 2 ^ (b % 64).toNat) 1 == 1) = x.getLsbD b.toNat := by
  have h2 := has_shr x b.toNat i (by omega)
  obtain ⟨n, hn⟩ := Int.eq_ofNat_of_zero_le (wd_lo x i)
  have hlt := wd_hi x i
  rw [hn] at h2 hlt ⊢
  have e1 : (b % 64).toNat = b.toNat % 64 := by omega
  have e2 : (n : Int) / 2 ^ (b % 64).toNat = ((n / 2 ^ (b.toNat % 64) : Nat) : Int) := by rw [e1]; simp
  rw [e2, show (1 : Int) = ((1 : Nat) : Int) from rfl, u64_and_nat _ _ (Nat.lt_of_le_of_lt (Nat.div_le_self _ _) (by omega)) (by omega), nat_mask1]
  simp only [Int.toNat_natCast] at h2
  rw [h2]
  cases x.getLsbD b.toNat <;> rfl

set_option maxHeartbeats 1000000 in
theorem hasR_any (x : BitVec 256) (b : Int) (w : World) :
    Calls Tryd.prog 91 #[sv x, .int .i64 b] w fun e w' => e = .returned (.bool (hasB x b)) ∧ Below w.heap.size w w' := by
  by_cases h0 : 0 ≤ b
  · have d0 : decide (0 ≤ b) = true := by simpa using h0
    by_cases h1 : b ≤ 255
    · have d1 : decide (b ≤ 255) = true := by simpa using h1
      have hy := (show Hid _ from hasB_yes x b h0 h1)
      have hr : IntKind.i64.wrap (b.tmod 64) = b % 64 := by rw [Int.tmod_eq_emod_of_nonneg h0, IntKind.wrap_i64]; omega
      have hq : b / 64 = 0 ∨ b / 64 = 1 ∨ b / 64 = 2 ∨ b / 64 = 3 := by omega
      rcases hq with hq | hq | hq | hq
      · have t1 : IntKind.i64.wrap (b.tdiv 64) = 0 := by rw [wrap_quo b h0 h1]; exact hq
        have hs := (show Hid _ from has_shr' x b h0 0 hq)
        go_enter Tryd.func91, Tryd.ntmps91
        go_wp2
        go_ret
        exact ⟨ret_bool (hs.out.trans hy.out.symm), (Below.refl _ _).alloc (Nat.le_refl _) _⟩
      · have t1 : IntKind.i64.wrap (b.tdiv 64) = 1 := by rw [wrap_quo b h0 h1]; exact hq
        have hs := (show Hid _ from has_shr' x b h0 1 hq)
        go_enter Tryd.func91, Tryd.ntmps91
        go_wp2
        go_ret
        exact ⟨ret_bool (hs.out.trans hy.out.symm), (Below.refl _ _).alloc (Nat.le_refl _) _⟩
      · have t1 : IntKind.i64.wrap (b.tdiv 64) = 2 := by rw [wrap_quo b h0 h1]; exact hq
        have hs := (show Hid _ from has_shr' x b h0 2 hq)
        go_enter Tryd.func91, Tryd.ntmps91
        go_wp2
        go_ret
        exact ⟨ret_bool (hs.out.trans hy.out.symm), (Below.refl _ _).alloc (Nat.le_refl _) _⟩
      · have t1 : IntKind.i64.wrap (b.tdiv 64) = 3 := by rw [wrap_quo b h0 h1]; exact hq
        have hs := (show Hid _ from has_shr' x b h0 3 hq)
        go_enter Tryd.func91, Tryd.ntmps91
        go_wp2
        go_ret
        exact ⟨ret_bool (hs.out.trans hy.out.symm), (Below.refl _ _).alloc (Nat.le_refl _) _⟩
    · have d1 : decide (b ≤ 255) = false := by simpa using h1
      have hy := (show Hid _ from hasB_no x b (fun h => h1 h.2))
      go_enter Tryd.func91, Tryd.ntmps91
      go_wp2
      go_ret
      exact ⟨ret_bool hy.out.symm, (Below.refl _ _).alloc (Nat.le_refl _) _⟩
  · have d0 : decide (0 ≤ b) = false := by simpa using h0
    have hy := (show Hid _ from hasB_no x b (fun h => h0 h.1))
    go_enter Tryd.func91, Tryd.ntmps91
    go_wp2
    go_ret
    exact ⟨ret_bool hy.out.symm, (Below.refl _ _).alloc (Nat.le_refl _) _⟩
end Go.Proofs.YthffklhojdldkaaDoor

namespace Go.Proofs.YthffklhojdldkaaDoor
open Go.RowKit
/-- A list of numbers as a text. -/
def asText (l : List Int) : ByteArray := l.foldl (fun r n => r.push (UInt8.ofNat n.toNat)) ByteArray.empty
theorem asText_data (l : List Int) : (asText l).data.toList = l.map (fun n => UInt8.ofNat n.toNat) := by
  have key : ∀ (l : List Int) (s : ByteArray), (l.foldl (fun r n => r.push (UInt8.ofNat n.toNat)) s).data.toList = s.data.toList ++ l.map (fun n => UInt8.ofNat n.toNat) := by
    intro l
    induction l with
    | nil => intro s; simp
    | cons b l ih => intro s; rw [List.foldl_cons, ih]; simp [ByteArray.push]
  have := key l ByteArray.empty
  simpa [asText] using this
theorem asText_size (l : List Int) : (asText l).size = l.length := by
  have h := congrArg List.length (asText_data l)
  simpa using h
end Go.Proofs.YthffklhojdldkaaDoor

namespace Go.Proofs.YthffklhojdldkaaDoor
open Go.RowKit
/-- What Mix takes of a byte that is in a, in b. -/
def mixB (m : Nat) (a b : Bool) : Bool := (m == 0 && (a || b)) || ((m == 1 && a && b) || ((m == 2 && a && !b) || (m == 3 && !a)))
def mixTo (m : Nat) (x y : BitVec 256) (k : Nat) : BitVec 256 := ofB (fun j => mixB m (x.getLsbD j) (y.getLsbD j)) k
def mixS (m : Nat) (x y : BitVec 256) : BitVec 256 := mixTo m x y 256
theorem mixTo_succ (m : Nat) (x y : BitVec 256) (k : Nat) (hk : k < 256) : mixTo m x y (k + 1) = if mixB m (hasB x k) (hasB y k) then mixTo m x y k ||| bt k else mixTo m x y k := by
  rw [hasB_yes x k (by omega) (by omega), hasB_yes y k (by omega) (by omega), Int.toNat_natCast]; rfl
theorem mixS_get (m : Nat) (x y : BitVec 256) (j : Nat) (hj : j < 256) : (mixS m x y).getLsbD j = mixB m (x.getLsbD j) (y.getLsbD j) := by
  unfold mixS mixTo; rw [ofB_get _ _ (by omega)]; simp [hj]
theorem mixS_union (x y : BitVec 256) : mixS 0 x y = x ||| y := set_eq _ _ fun j hj => by rw [mixS_get _ _ _ _ hj, BitVec.getLsbD_or]; simp [mixB]
theorem mixS_less (x y : BitVec 256) : mixS 2 x y = x &&& ~~~ y := set_eq _ _ fun j hj => by rw [mixS_get _ _ _ _ hj, BitVec.getLsbD_and, BitVec.getLsbD_not]; simp [mixB, hj]
theorem mixS_not (x y : BitVec 256) : mixS 3 x y = ~~~ x := set_eq _ _ fun j hj => by rw [mixS_get _ _ _ _ hj, BitVec.getLsbD_not]; simp [mixB, hj]

abbrev c4 (x : BitVec 256) : Obj := .cells #[.int .u64 (wd x 0), .int .u64 (wd x 1), .int .u64 (wd x 2), .int .u64 (wd x 3)] 34
abbrev z4 : Obj := .cells #[.int .u64 0, .int .u64 0, .int .u64 0, .int .u64 0] 34
theorem mix_start0 (w : World) (x y : BitVec 256) : Holds ((((w.alloc (c4 x)).alloc (c4 y)).alloc z4).alloc z4) w.heap.size x := (((Holds.new w x).alloc _).alloc _).alloc _
theorem mix_start1 (w : World) (x y : BitVec 256) : Holds ((((w.alloc (c4 x)).alloc (c4 y)).alloc z4).alloc z4) (w.heap.size + 1) y := by
  have h := ((Holds.new (w.alloc (c4 x)) y).alloc z4).alloc z4
  rw [show (w.alloc (c4 x)).heap.size = w.heap.size + 1 from by simp] at h
  exact h
theorem mix_start2 (w : World) (x y : BitVec 256) : Holds ((((w.alloc (c4 x)).alloc (c4 y)).alloc z4).alloc z4) (w.heap.size + 2) 0#256 := by
  have h := (Holds.zero ((w.alloc (c4 x)).alloc (c4 y))).alloc z4
  rw [show ((w.alloc (c4 x)).alloc (c4 y)).heap.size = w.heap.size + 2 from by simp] at h
  exact h
theorem mix_start3 (w : World) (x y : BitVec 256) : Holds ((((w.alloc (c4 x)).alloc (c4 y)).alloc z4).alloc z4) (w.heap.size + 3) 0#256 := by
  have h := Holds.zero (((w.alloc (c4 x)).alloc (c4 y)).alloc z4)
  rw [show (((w.alloc (c4 x)).alloc (c4 y)).alloc z4).heap.size = w.heap.size + 3 from by simp] at h
  exact h
theorem mix_startB (w : World) (x y : BitVec 256) : Below w.heap.size w ((((w.alloc (c4 x)).alloc (c4 y)).alloc z4).alloc z4) :=
  (((((Below.refl _ _).alloc (Nat.le_refl _) _).alloc (by simp) _).alloc (by simp; omega) _).alloc (by simp; omega) _)
end Go.Proofs.YthffklhojdldkaaDoor

namespace Go.Proofs.YthffklhojdldkaaDoor
open Go.RowKit
theorem Tryd.info5 : (Tryd.prog.info? 5).map (fun i => (i.zero, i.size, i.bytes)) = some (some (.int .u8 0), 1, 1) := by kernel_rfl

/-- The text of a row of bytes that the call owns. -/
theorem text_own {w : World} {base : Nat} {v : Value} {l : List Int} (h : w.ownsRow base 5 1 v l.length (l.map (Value.int .u8))) :
    (convert 39 9 v).run Tryd.prog w = .ok (.string (asText l)) w := by
  have hc := h
  obtain ⟨hlen, h2⟩ := h
  rcases h2 with ⟨rfl, hn⟩ | ⟨g, cap, cur, rfl, _⟩
  · obtain rfl : l = [] := List.eq_nil_of_length_eq_zero hn
    rw [run_convert_bytes_string w 39 9 5 _ _ _ Tryd.underlying39 Tryd.underlying5 Tryd.underlying9]
    rfl
  · rw [run_convert_bytes_string w 39 9 5 _ _ _ Tryd.underlying39 Tryd.underlying5 Tryd.underlying9]
    refine run_bytesToString w ⟨g, 0, none⟩ l.length cap l ?_
    have := run_loadCells_list (P := Tryd.prog) (w := w) ⟨g, 0, none⟩ (l.map (Value.int .u8)) (hc.cells rfl)
    rwa [List.length_map] at this
end Go.Proofs.YthffklhojdldkaaDoor

namespace Go.Proofs.YthffklhojdldkaaDoor
open Go.RowKit Go.Shelf
attribute [local go_sem] Oper.semAt_some

/-- Block b is as it was. -/
def KeepB (b : Nat) (W W' : World) : Prop := W'.heap[b]? = W.heap[b]?
theorem KeepB.refl (b : Nat) (W : World) : KeepB b W W := rfl
theorem KeepB.trans {b : Nat} {A B C : World} (h : KeepB b A B) (k : KeepB b B C) : KeepB b A C := Eq.trans k h
theorem KeepB.put {b : Nat} {w : World} (hb : b < w.heap.size) (W : World) (l : Nat) (o o' : Obj) (hl : w.heap.size ≤ l) (_ : W.heap[l]? = some o) (_ : o.isCells = false) (_ : o.isWalk = false) : KeepB b W (W.putObj l o') := by
  by_cases h : b < W.heap.size
  · exact (grownBy_putObj' W l o').block b h (fun e => by cases e; omega)
  · have e1 : W.heap[b]? = none := Array.getElem?_eq_none (by omega)
    have e2 : (W.putObj l o').heap.size = W.heap.size := by simp [World.putObj]
    show (W.putObj l o').heap[b]? = W.heap[b]?
    rw [e1]; exact Array.getElem?_eq_none (by omega)
theorem KeepB.setCell {b : Nat} {W : World} {p : Addr} (h : b ≠ p.block) (u : Value) : KeepB b W (W.setCell p u) := Below.heap_setCell _ _ _ _ h
theorem KeepB.alloc {b : Nat} {W : World} (h : b < W.heap.size) (o : Obj) : KeepB b W (W.alloc o) := Below.heap_alloc _ _ _ h
theorem KeepB.below {b B : Nat} {W W' : World} (h : Below B W W') (hb : b < B) : KeepB b W W' := h.block b hb
theorem KeepB.grown {b : Nat} {W W' : World} {row : Option Nat} (h : W.grownBy W' row) (hb : b < W.heap.size) (hne : row ≠ some b) : KeepB b W W' := h.block b hb (fun e => hne e.symm)
end Go.Proofs.YthffklhojdldkaaDoor

namespace Go.Proofs.YthffklhojdldkaaDoor
open Go.RowKit
theorem st1 (x : Nat) (h : x < 18446744073709551616) : IntKind.u64.wrap (bits .and .u64 ((x : Int) / 2) 6148914691236517205 + bits .and .u64 (x : Int) 6148914691236517205) = ((((x / 2) &&& 6148914691236517205) + (x &&& 6148914691236517205) : Nat) : Int) := by
  have a : bits .and .u64 ((x / 2 : Nat) : Int) 6148914691236517205 = (((x / 2) &&& 6148914691236517205 : Nat) : Int) := u64_and_nat (x / 2) 6148914691236517205 (by omega) (by omega)
  have b : bits .and .u64 (x : Int) 6148914691236517205 = ((x &&& 6148914691236517205 : Nat) : Int) := u64_and_nat x 6148914691236517205 (by omega) (by omega)
  have c : ((x : Int) / 2) = ((x / 2 : Nat) : Int) := by omega
  rw [c, a, b]
  have l1 : (x / 2) &&& 6148914691236517205 ≤ 6148914691236517205 := Nat.and_le_right
  have l2 : x &&& 6148914691236517205 ≤ 6148914691236517205 := Nat.and_le_right
  generalize (x / 2) &&& 6148914691236517205 = p at *
  generalize x &&& 6148914691236517205 = q at *
  rw [IntKind.wrap_u64]; omega
theorem st2 (x : Nat) (h : x < 18446744073709551616) : IntKind.u64.wrap (bits .and .u64 ((x : Int) / 4) 3689348814741910323 + bits .and .u64 (x : Int) 3689348814741910323) = ((((x / 4) &&& 3689348814741910323) + (x &&& 3689348814741910323) : Nat) : Int) := by
  have a : bits .and .u64 ((x / 4 : Nat) : Int) 3689348814741910323 = (((x / 4) &&& 3689348814741910323 : Nat) : Int) := u64_and_nat (x / 4) 3689348814741910323 (by omega) (by omega)
  have b : bits .and .u64 (x : Int) 3689348814741910323 = ((x &&& 3689348814741910323 : Nat) : Int) := u64_and_nat x 3689348814741910323 (by omega) (by omega)
  have c : ((x : Int) / 4) = ((x / 4 : Nat) : Int) := by omega
  rw [c, a, b]
  have l1 : (x / 4) &&& 3689348814741910323 ≤ 3689348814741910323 := Nat.and_le_right
  have l2 : x &&& 3689348814741910323 ≤ 3689348814741910323 := Nat.and_le_right
  generalize (x / 4) &&& 3689348814741910323 = p at *
  generalize x &&& 3689348814741910323 = q at *
  rw [IntKind.wrap_u64]; omega
end Go.Proofs.YthffklhojdldkaaDoor

namespace Go.Proofs.YthffklhojdldkaaDoor
open Go.RowKit
set_option maxHeartbeats 1000000 in
theorem withR_any (x : BitVec 256) (b : Int) (w : World) (h0 : 0 ≤ b) (h1 : b ≤ 255) :
    Calls Tryd.prog 75 #[sv x, .int .i64 b] w fun e w' => e = .returned (sv (x ||| bt b.toNat)) ∧ Below w.heap.size w w' := by
  have hq : b / 64 = 0 ∨ b / 64 = 1 ∨ b / 64 = 2 ∨ b / 64 = 3 := by omega
  have hr : IntKind.i64.wrap (b.tmod 64) = b % 64 := by rw [Int.tmod_eq_emod_of_nonneg h0, IntKind.wrap_i64]; omega
  have hr0 : 0 ≤ b % 64 := by omega
  have hr1 : b % 64 < 64 := by omega
  have hp := pw_of b h0
  rcases hq with hq | hq | hq | hq
  · have hs := (show Hid _ from wds_with x b h0 h1 0 hq)
    have t1 : IntKind.i64.wrap (b.tdiv 64) = 0 := by rw [wrap_quo b h0 h1]; exact hq
    go_enter Tryd.func75, Tryd.ntmps75
    go_wp2
    go_region
    all_goals
      go_wp2
      replace hs := hs.out
      exact bodyPost_ret (v := .agg #[.int .u64 (bits BinOp.or IntKind.u64 (wd x 0) (pw b.toNat)), .int .u64 (wd x 1), .int .u64 (wd x 2), .int .u64 (wd x 3)]) (by simp [results, Tryd.results75, go_sem]) rfl ⟨ret_sv hs.1 (hs.2 1 (by omega)) (hs.2 2 (by omega)) (hs.2 3 (by omega)), (((Below.refl _ _).alloc (Nat.le_refl _) _).alloc (by simp) _).drew⟩
  · have hs := (show Hid _ from wds_with x b h0 h1 1 hq)
    have t1 : IntKind.i64.wrap (b.tdiv 64) = 1 := by rw [wrap_quo b h0 h1]; exact hq
    go_enter Tryd.func75, Tryd.ntmps75
    go_wp2
    go_region
    all_goals
      go_wp2
      replace hs := hs.out
      exact bodyPost_ret (v := .agg #[.int .u64 (wd x 0), .int .u64 (bits BinOp.or IntKind.u64 (wd x 1) (pw b.toNat)), .int .u64 (wd x 2), .int .u64 (wd x 3)]) (by simp [results, Tryd.results75, go_sem]) rfl ⟨ret_sv (hs.2 0 (by omega)) hs.1 (hs.2 2 (by omega)) (hs.2 3 (by omega)), (((Below.refl _ _).alloc (Nat.le_refl _) _).alloc (by simp) _).drew⟩
  · have hs := (show Hid _ from wds_with x b h0 h1 2 hq)
    have t1 : IntKind.i64.wrap (b.tdiv 64) = 2 := by rw [wrap_quo b h0 h1]; exact hq
    go_enter Tryd.func75, Tryd.ntmps75
    go_wp2
    go_region
    all_goals
      go_wp2
      replace hs := hs.out
      exact bodyPost_ret (v := .agg #[.int .u64 (wd x 0), .int .u64 (wd x 1), .int .u64 (bits BinOp.or IntKind.u64 (wd x 2) (pw b.toNat)), .int .u64 (wd x 3)]) (by simp [results, Tryd.results75, go_sem]) rfl ⟨ret_sv (hs.2 0 (by omega)) (hs.2 1 (by omega)) hs.1 (hs.2 3 (by omega)), (((Below.refl _ _).alloc (Nat.le_refl _) _).alloc (by simp) _).drew⟩
  · have hs := (show Hid _ from wds_with x b h0 h1 3 hq)
    have t1 : IntKind.i64.wrap (b.tdiv 64) = 3 := by rw [wrap_quo b h0 h1]; exact hq
    go_enter Tryd.func75, Tryd.ntmps75
    go_wp2
    go_region
    all_goals
      go_wp2
      replace hs := hs.out
      exact bodyPost_ret (v := .agg #[.int .u64 (wd x 0), .int .u64 (wd x 1), .int .u64 (wd x 2), .int .u64 (bits BinOp.or IntKind.u64 (wd x 3) (pw b.toNat))]) (by simp [results, Tryd.results75, go_sem]) rfl ⟨ret_sv (hs.2 0 (by omega)) (hs.2 1 (by omega)) (hs.2 2 (by omega)) hs.1, (((Below.refl _ _).alloc (Nat.le_refl _) _).alloc (by simp) _).drew⟩
end Go.Proofs.YthffklhojdldkaaDoor

namespace Go.Proofs.YthffklhojdldkaaDoor
open Go.RowKit
set_option maxHeartbeats 4000000 in
theorem mix0_any (x y : BitVec 256) (w : World) :
    Calls Tryd.prog 77 #[.int .i64 0, sv x, sv y] w fun e w' => e = .returned (sv (mixS 0 x y)) ∧ Below w.heap.size w w' := by
  go_enter Tryd.func77, Tryd.ntmps77
  go_wp2
  go_loopw [8] (fun t wr => ∃ k : Nat, k ≤ 256 ∧ t = .int .i64 k ∧ Holds wr w.heap.size x ∧ Holds wr (w.heap.size + 1) y ∧ Holds wr (w.heap.size + 1 + 1 + 1) (mixTo 0 x y k) ∧ (∃ z, Holds wr (w.heap.size + 1 + 1) z) ∧ Below w.heap.size w wr) (fun t _ => 256 - (intOf t).toNat)
  case atStart =>
    exact ⟨0, by omega, rfl, mix_start0 w x y, mix_start1 w x y, mix_start3 w x y, ⟨0#256, mix_start2 w x y⟩, mix_startB w x y⟩
  case round =>
    obtain ⟨k, hk, rfl, hx, hy, hm, ⟨z, hz⟩, hbel⟩ := hrel
    have hsz : w.heap.size + 1 + 1 + 1 < wr.heap.size := hm.lt
    have HX := (show Hid _ from hx)
    have HY := (show Hid _ from hy)
    have HM := (show Hid _ from hm)
    have HZ := (show Hid _ from hz)
    have HB := (show Hid _ from hbel)
    by_cases hlt : k < 256
    · have HS := (show Hid _ from mixTo_succ 0 x y k hlt)
      clear hm hz hbel
      obtain ⟨l0, c0, c1, c2, c3, f0, f1, f2, f3⟩ := hx
      obtain ⟨l1, d0, d1, d2, d3, g0, g1, g2, g3⟩ := hy
      have HR : Hid (Below wr.heap.size wr wr) := Below.refl _ _
      have hk0 : (0 : Int) ≤ (k : Int) := by omega
      have hk1 : (k : Int) ≤ 255 := by omega
      cases hxb : hasB x k <;> cases hyb : hasB y k
      · have HE : Hid (mixTo 0 x y (k + 1) = mixTo 0 x y k) := (by have h := HS.out; rw [hxb, hyb, if_neg (by decide)] at h; exact h)
        clear HS
        go_wp2
        go_region_held3 (fun w' => w'.cell? ⟨w.heap.size, 0, none⟩ = some (.int .u64 (wd x 0)) ∧ w'.cell? ⟨w.heap.size, 1, none⟩ = some (.int .u64 (wd x 1)) ∧ w'.cell? ⟨w.heap.size, 2, none⟩ = some (.int .u64 (wd x 2)) ∧ w'.cell? ⟨w.heap.size, 3, none⟩ = some (.int .u64 (wd x 3)) ∧ w'.cell? ⟨w.heap.size + 1, 0, none⟩ = some (.int .u64 (wd y 0)) ∧ w'.cell? ⟨w.heap.size + 1, 1, none⟩ = some (.int .u64 (wd y 1)) ∧ w'.cell? ⟨w.heap.size + 1, 2, none⟩ = some (.int .u64 (wd y 2)) ∧ w'.cell? ⟨w.heap.size + 1, 3, none⟩ = some (.int .u64 (wd y 3))) (first | go_keep | (go_split_ands; refine ⟨?_, ?_, ?_, ?_, ?_, ?_, ?_, ?_⟩ <;> (rw [hb.cell (by simp; omega)]; first | assumption | simp [*]))) ((go_at_call 91; refine (hasR_any _ _ _).mono ?_; rintro e w1 ⟨rfl, hb⟩; have hz1 := hb.size; (try simp at hz1); replace HR : Hid (Below wr.heap.size wr w1) := (by first | exact HR.out.trans (hb.mono (by omega)) | exact HR.out.drew.trans (hb.mono (by simp)))))
        clear c0 c1 c2 c3 f0 f1 f2 f3 d0 d1 d2 d3 g0 g1 g2 g3
        have hM1 := HM.out.below HR.out (by omega)
        have hX1 := (show Hid _ from HX.out.below HR.out (by omega))
        have hY1 := (show Hid _ from HY.out.below HR.out (by omega))
        have hZ1 := (show Hid _ from HZ.out.below HR.out (by omega))
        have hB1 := (show Hid _ from HB.out.trans (HR.out.mono (by omega)))
        clear HM HX HY HZ HB
        generalize mixTo 0 x y k = mm at *
        have HM1 := (show Hid _ from hM1)
        clear hM1
        go_wp2
        go_roundw
        case rel => exact ⟨k + 1, by omega, by go_num, hX1.out, hY1.out, (by rw [HE.out]; exact HM1.out), ⟨z, hZ1.out⟩, hB1.out⟩
        case measure => simp [intOf]; omega
      · have HE : Hid (mixTo 0 x y (k + 1) = mixTo 0 x y k ||| bt k) := (by have h := HS.out; rw [hxb, hyb, if_pos (by decide)] at h; exact h)
        clear HS
        go_wp2
        go_region_held3 (fun w' => w'.cell? ⟨w.heap.size, 0, none⟩ = some (.int .u64 (wd x 0)) ∧ w'.cell? ⟨w.heap.size, 1, none⟩ = some (.int .u64 (wd x 1)) ∧ w'.cell? ⟨w.heap.size, 2, none⟩ = some (.int .u64 (wd x 2)) ∧ w'.cell? ⟨w.heap.size, 3, none⟩ = some (.int .u64 (wd x 3)) ∧ w'.cell? ⟨w.heap.size + 1, 0, none⟩ = some (.int .u64 (wd y 0)) ∧ w'.cell? ⟨w.heap.size + 1, 1, none⟩ = some (.int .u64 (wd y 1)) ∧ w'.cell? ⟨w.heap.size + 1, 2, none⟩ = some (.int .u64 (wd y 2)) ∧ w'.cell? ⟨w.heap.size + 1, 3, none⟩ = some (.int .u64 (wd y 3))) (first | go_keep | (go_split_ands; refine ⟨?_, ?_, ?_, ?_, ?_, ?_, ?_, ?_⟩ <;> (rw [hb.cell (by simp; omega)]; first | assumption | simp [*]))) ((go_at_call 91; refine (hasR_any _ _ _).mono ?_; rintro e w1 ⟨rfl, hb⟩; have hz1 := hb.size; (try simp at hz1); replace HR : Hid (Below wr.heap.size wr w1) := (by first | exact HR.out.trans (hb.mono (by omega)) | exact HR.out.drew.trans (hb.mono (by simp)))))
        clear c0 c1 c2 c3 f0 f1 f2 f3 d0 d1 d2 d3 g0 g1 g2 g3
        have hM1 := HM.out.below HR.out (by omega)
        have hX1 := (show Hid _ from HX.out.below HR.out (by omega))
        have hY1 := (show Hid _ from HY.out.below HR.out (by omega))
        have hZ1 := (show Hid _ from HZ.out.below HR.out (by omega))
        have hB1 := (show Hid _ from HB.out.trans (HR.out.mono (by omega)))
        clear HM HX HY HZ HB
        generalize mixTo 0 x y k = mm at *
        have HM1 := (show Hid _ from hM1)
        obtain ⟨l5, c0, c1, c2, c3, f0, f1, f2, f3⟩ := hM1
        go_wp2_with fail
        refine (withR_any mm k _ (by omega) (by omega)).mono ?_
        rintro e w2 ⟨rfl, hb2⟩
        clear c0 c1 c2 c3 f0 f1 f2 f3
        obtain ⟨l5, c0, c1, c2, c3, f0, f1, f2, f3⟩ := HM1.out.below hb2 l5
        go_wp2
        go_roundw
        case rel =>
          refine ⟨k + 1, by omega, by go_num, (hX1.out.below hb2 (by omega)).put_other (by omega) _, (hY1.out.below hb2 (by omega)).put_other (by omega) _, ?_, ⟨z, (hZ1.out.below hb2 (by omega)).put_other (by omega) _⟩, ?_⟩
          · rw [HE.out]; exact (HM1.out.below hb2 (by omega)).put _
          · exact ((((hB1.out.trans (hb2.mono (by omega))).setCell (by simp; omega) _).setCell (by simp; omega) _).setCell (by simp; omega) _).setCell (by simp; omega) _
        case measure => simp [intOf]; omega
      · have HE : Hid (mixTo 0 x y (k + 1) = mixTo 0 x y k ||| bt k) := (by have h := HS.out; rw [hxb, hyb, if_pos (by decide)] at h; exact h)
        clear HS
        go_wp2
        go_region_held3 (fun w' => w'.cell? ⟨w.heap.size, 0, none⟩ = some (.int .u64 (wd x 0)) ∧ w'.cell? ⟨w.heap.size, 1, none⟩ = some (.int .u64 (wd x 1)) ∧ w'.cell? ⟨w.heap.size, 2, none⟩ = some (.int .u64 (wd x 2)) ∧ w'.cell? ⟨w.heap.size, 3, none⟩ = some (.int .u64 (wd x 3)) ∧ w'.cell? ⟨w.heap.size + 1, 0, none⟩ = some (.int .u64 (wd y 0)) ∧ w'.cell? ⟨w.heap.size + 1, 1, none⟩ = some (.int .u64 (wd y 1)) ∧ w'.cell? ⟨w.heap.size + 1, 2, none⟩ = some (.int .u64 (wd y 2)) ∧ w'.cell? ⟨w.heap.size + 1, 3, none⟩ = some (.int .u64 (wd y 3))) (first | go_keep | (go_split_ands; refine ⟨?_, ?_, ?_, ?_, ?_, ?_, ?_, ?_⟩ <;> (rw [hb.cell (by simp; omega)]; first | assumption | simp [*]))) ((go_at_call 91; refine (hasR_any _ _ _).mono ?_; rintro e w1 ⟨rfl, hb⟩; have hz1 := hb.size; (try simp at hz1); replace HR : Hid (Below wr.heap.size wr w1) := (by first | exact HR.out.trans (hb.mono (by omega)) | exact HR.out.drew.trans (hb.mono (by simp)))))
        clear c0 c1 c2 c3 f0 f1 f2 f3 d0 d1 d2 d3 g0 g1 g2 g3
        have hM1 := HM.out.below HR.out (by omega)
        have hX1 := (show Hid _ from HX.out.below HR.out (by omega))
        have hY1 := (show Hid _ from HY.out.below HR.out (by omega))
        have hZ1 := (show Hid _ from HZ.out.below HR.out (by omega))
        have hB1 := (show Hid _ from HB.out.trans (HR.out.mono (by omega)))
        clear HM HX HY HZ HB
        generalize mixTo 0 x y k = mm at *
        have HM1 := (show Hid _ from hM1)
        obtain ⟨l5, c0, c1, c2, c3, f0, f1, f2, f3⟩ := hM1
        go_wp2_with fail
        refine (withR_any mm k _ (by omega) (by omega)).mono ?_
        rintro e w2 ⟨rfl, hb2⟩
        clear c0 c1 c2 c3 f0 f1 f2 f3
        obtain ⟨l5, c0, c1, c2, c3, f0, f1, f2, f3⟩ := HM1.out.below hb2 l5
        go_wp2
        go_roundw
        case rel =>
          refine ⟨k + 1, by omega, by go_num, (hX1.out.below hb2 (by omega)).put_other (by omega) _, (hY1.out.below hb2 (by omega)).put_other (by omega) _, ?_, ⟨z, (hZ1.out.below hb2 (by omega)).put_other (by omega) _⟩, ?_⟩
          · rw [HE.out]; exact (HM1.out.below hb2 (by omega)).put _
          · exact ((((hB1.out.trans (hb2.mono (by omega))).setCell (by simp; omega) _).setCell (by simp; omega) _).setCell (by simp; omega) _).setCell (by simp; omega) _
        case measure => simp [intOf]; omega
      · have HE : Hid (mixTo 0 x y (k + 1) = mixTo 0 x y k ||| bt k) := (by have h := HS.out; rw [hxb, hyb, if_pos (by decide)] at h; exact h)
        clear HS
        go_wp2
        go_region_held3 (fun w' => w'.cell? ⟨w.heap.size, 0, none⟩ = some (.int .u64 (wd x 0)) ∧ w'.cell? ⟨w.heap.size, 1, none⟩ = some (.int .u64 (wd x 1)) ∧ w'.cell? ⟨w.heap.size, 2, none⟩ = some (.int .u64 (wd x 2)) ∧ w'.cell? ⟨w.heap.size, 3, none⟩ = some (.int .u64 (wd x 3)) ∧ w'.cell? ⟨w.heap.size + 1, 0, none⟩ = some (.int .u64 (wd y 0)) ∧ w'.cell? ⟨w.heap.size + 1, 1, none⟩ = some (.int .u64 (wd y 1)) ∧ w'.cell? ⟨w.heap.size + 1, 2, none⟩ = some (.int .u64 (wd y 2)) ∧ w'.cell? ⟨w.heap.size + 1, 3, none⟩ = some (.int .u64 (wd y 3))) (first | go_keep | (go_split_ands; refine ⟨?_, ?_, ?_, ?_, ?_, ?_, ?_, ?_⟩ <;> (rw [hb.cell (by simp; omega)]; first | assumption | simp [*]))) ((go_at_call 91; refine (hasR_any _ _ _).mono ?_; rintro e w1 ⟨rfl, hb⟩; have hz1 := hb.size; (try simp at hz1); replace HR : Hid (Below wr.heap.size wr w1) := (by first | exact HR.out.trans (hb.mono (by omega)) | exact HR.out.drew.trans (hb.mono (by simp)))))
        clear c0 c1 c2 c3 f0 f1 f2 f3 d0 d1 d2 d3 g0 g1 g2 g3
        have hM1 := HM.out.below HR.out (by omega)
        have hX1 := (show Hid _ from HX.out.below HR.out (by omega))
        have hY1 := (show Hid _ from HY.out.below HR.out (by omega))
        have hZ1 := (show Hid _ from HZ.out.below HR.out (by omega))
        have hB1 := (show Hid _ from HB.out.trans (HR.out.mono (by omega)))
        clear HM HX HY HZ HB
        generalize mixTo 0 x y k = mm at *
        have HM1 := (show Hid _ from hM1)
        obtain ⟨l5, c0, c1, c2, c3, f0, f1, f2, f3⟩ := hM1
        go_wp2_with fail
        refine (withR_any mm k _ (by omega) (by omega)).mono ?_
        rintro e w2 ⟨rfl, hb2⟩
        clear c0 c1 c2 c3 f0 f1 f2 f3
        obtain ⟨l5, c0, c1, c2, c3, f0, f1, f2, f3⟩ := HM1.out.below hb2 l5
        go_wp2
        go_roundw
        case rel =>
          refine ⟨k + 1, by omega, by go_num, (hX1.out.below hb2 (by omega)).put_other (by omega) _, (hY1.out.below hb2 (by omega)).put_other (by omega) _, ?_, ⟨z, (hZ1.out.below hb2 (by omega)).put_other (by omega) _⟩, ?_⟩
          · rw [HE.out]; exact (HM1.out.below hb2 (by omega)).put _
          · exact ((((hB1.out.trans (hb2.mono (by omega))).setCell (by simp; omega) _).setCell (by simp; omega) _).setCell (by simp; omega) _).setCell (by simp; omega) _
        case measure => simp [intOf]; omega
    · have hke : k = 256 := by omega
      subst hke
      clear hx hy hbel
      have HQ : Hid (mixTo 0 x y 256 = mixS 0 x y) := rfl
      generalize mixTo 0 x y 256 = mm at *
      obtain ⟨l0, c0, c1, c2, c3, f0, f1, f2, f3⟩ := hm
      obtain ⟨l1, d0, d1, d2, d3, g0, g1, g2, g3⟩ := hz
      go_wp2
      rw [← HQ.out]
      refine bodyPost_ret (v := sv mm) (by simp [results, Tryd.results77, go_sem, *]) rfl ⟨rfl, ?_⟩
      exact (((HB.out.setCell (by simp; omega) _).setCell (by simp; omega) _).setCell (by simp; omega) _).setCell (by simp; omega) _
end Go.Proofs.YthffklhojdldkaaDoor

namespace Go.Proofs.YthffklhojdldkaaDoor
open Go.RowKit
set_option maxHeartbeats 4000000 in
theorem mix2_any (x y : BitVec 256) (w : World) :
    Calls Tryd.prog 77 #[.int .i64 2, sv x, sv y] w fun e w' => e = .returned (sv (mixS 2 x y)) ∧ Below w.heap.size w w' := by
  go_enter Tryd.func77, Tryd.ntmps77
  go_wp2
  go_loopw [8] (fun t wr => ∃ k : Nat, k ≤ 256 ∧ t = .int .i64 k ∧ Holds wr w.heap.size x ∧ Holds wr (w.heap.size + 1) y ∧ Holds wr (w.heap.size + 1 + 1 + 1) (mixTo 2 x y k) ∧ (∃ z, Holds wr (w.heap.size + 1 + 1) z) ∧ Below w.heap.size w wr) (fun t _ => 256 - (intOf t).toNat)
  case atStart =>
    exact ⟨0, by omega, rfl, mix_start0 w x y, mix_start1 w x y, mix_start3 w x y, ⟨0#256, mix_start2 w x y⟩, mix_startB w x y⟩
  case round =>
    obtain ⟨k, hk, rfl, hx, hy, hm, ⟨z, hz⟩, hbel⟩ := hrel
    have hsz : w.heap.size + 1 + 1 + 1 < wr.heap.size := hm.lt
    have HX := (show Hid _ from hx)
    have HY := (show Hid _ from hy)
    have HM := (show Hid _ from hm)
    have HZ := (show Hid _ from hz)
    have HB := (show Hid _ from hbel)
    by_cases hlt : k < 256
    · have HS := (show Hid _ from mixTo_succ 2 x y k hlt)
      clear hm hz hbel
      obtain ⟨l0, c0, c1, c2, c3, f0, f1, f2, f3⟩ := hx
      obtain ⟨l1, d0, d1, d2, d3, g0, g1, g2, g3⟩ := hy
      have HR : Hid (Below wr.heap.size wr wr) := Below.refl _ _
      have hk0 : (0 : Int) ≤ (k : Int) := by omega
      have hk1 : (k : Int) ≤ 255 := by omega
      cases hxb : hasB x k <;> cases hyb : hasB y k
      · have HE : Hid (mixTo 2 x y (k + 1) = mixTo 2 x y k) := (by have h := HS.out; rw [hxb, hyb, if_neg (by decide)] at h; exact h)
        clear HS
        go_wp2
        go_region_held3 (fun w' => w'.cell? ⟨w.heap.size, 0, none⟩ = some (.int .u64 (wd x 0)) ∧ w'.cell? ⟨w.heap.size, 1, none⟩ = some (.int .u64 (wd x 1)) ∧ w'.cell? ⟨w.heap.size, 2, none⟩ = some (.int .u64 (wd x 2)) ∧ w'.cell? ⟨w.heap.size, 3, none⟩ = some (.int .u64 (wd x 3)) ∧ w'.cell? ⟨w.heap.size + 1, 0, none⟩ = some (.int .u64 (wd y 0)) ∧ w'.cell? ⟨w.heap.size + 1, 1, none⟩ = some (.int .u64 (wd y 1)) ∧ w'.cell? ⟨w.heap.size + 1, 2, none⟩ = some (.int .u64 (wd y 2)) ∧ w'.cell? ⟨w.heap.size + 1, 3, none⟩ = some (.int .u64 (wd y 3))) (first | go_keep | (go_split_ands; refine ⟨?_, ?_, ?_, ?_, ?_, ?_, ?_, ?_⟩ <;> (rw [hb.cell (by simp; omega)]; first | assumption | simp [*]))) ((go_at_call 91; refine (hasR_any _ _ _).mono ?_; rintro e w1 ⟨rfl, hb⟩; have hz1 := hb.size; (try simp at hz1); replace HR : Hid (Below wr.heap.size wr w1) := (by first | exact HR.out.trans (hb.mono (by omega)) | exact HR.out.drew.trans (hb.mono (by simp)))))
        clear c0 c1 c2 c3 f0 f1 f2 f3 d0 d1 d2 d3 g0 g1 g2 g3
        have hM1 := HM.out.below HR.out (by omega)
        have hX1 := (show Hid _ from HX.out.below HR.out (by omega))
        have hY1 := (show Hid _ from HY.out.below HR.out (by omega))
        have hZ1 := (show Hid _ from HZ.out.below HR.out (by omega))
        have hB1 := (show Hid _ from HB.out.trans (HR.out.mono (by omega)))
        clear HM HX HY HZ HB
        generalize mixTo 2 x y k = mm at *
        have HM1 := (show Hid _ from hM1)
        clear hM1
        go_wp2
        go_roundw
        case rel => exact ⟨k + 1, by omega, by go_num, hX1.out, hY1.out, (by rw [HE.out]; exact HM1.out), ⟨z, hZ1.out⟩, hB1.out⟩
        case measure => simp [intOf]; omega
      · have HE : Hid (mixTo 2 x y (k + 1) = mixTo 2 x y k) := (by have h := HS.out; rw [hxb, hyb, if_neg (by decide)] at h; exact h)
        clear HS
        go_wp2
        go_region_held3 (fun w' => w'.cell? ⟨w.heap.size, 0, none⟩ = some (.int .u64 (wd x 0)) ∧ w'.cell? ⟨w.heap.size, 1, none⟩ = some (.int .u64 (wd x 1)) ∧ w'.cell? ⟨w.heap.size, 2, none⟩ = some (.int .u64 (wd x 2)) ∧ w'.cell? ⟨w.heap.size, 3, none⟩ = some (.int .u64 (wd x 3)) ∧ w'.cell? ⟨w.heap.size + 1, 0, none⟩ = some (.int .u64 (wd y 0)) ∧ w'.cell? ⟨w.heap.size + 1, 1, none⟩ = some (.int .u64 (wd y 1)) ∧ w'.cell? ⟨w.heap.size + 1, 2, none⟩ = some (.int .u64 (wd y 2)) ∧ w'.cell? ⟨w.heap.size + 1, 3, none⟩ = some (.int .u64 (wd y 3))) (first | go_keep | (go_split_ands; refine ⟨?_, ?_, ?_, ?_, ?_, ?_, ?_, ?_⟩ <;> (rw [hb.cell (by simp; omega)]; first | assumption | simp [*]))) ((go_at_call 91; refine (hasR_any _ _ _).mono ?_; rintro e w1 ⟨rfl, hb⟩; have hz1 := hb.size; (try simp at hz1); replace HR : Hid (Below wr.heap.size wr w1) := (by first | exact HR.out.trans (hb.mono (by omega)) | exact HR.out.drew.trans (hb.mono (by simp)))))
        clear c0 c1 c2 c3 f0 f1 f2 f3 d0 d1 d2 d3 g0 g1 g2 g3
        have hM1 := HM.out.below HR.out (by omega)
        have hX1 := (show Hid _ from HX.out.below HR.out (by omega))
        have hY1 := (show Hid _ from HY.out.below HR.out (by omega))
        have hZ1 := (show Hid _ from HZ.out.below HR.out (by omega))
        have hB1 := (show Hid _ from HB.out.trans (HR.out.mono (by omega)))
        clear HM HX HY HZ HB
        generalize mixTo 2 x y k = mm at *
        have HM1 := (show Hid _ from hM1)
        clear hM1
        go_wp2
        go_roundw
        case rel => exact ⟨k + 1, by omega, by go_num, hX1.out, hY1.out, (by rw [HE.out]; exact HM1.out), ⟨z, hZ1.out⟩, hB1.out⟩
        case measure => simp [intOf]; omega
      · have HE : Hid (mixTo 2 x y (k + 1) = mixTo 2 x y k ||| bt k) := (by have h := HS.out; rw [hxb, hyb, if_pos (by decide)] at h; exact h)
        clear HS
        go_wp2
        go_region_held3 (fun w' => w'.cell? ⟨w.heap.size, 0, none⟩ = some (.int .u64 (wd x 0)) ∧ w'.cell? ⟨w.heap.size, 1, none⟩ = some (.int .u64 (wd x 1)) ∧ w'.cell? ⟨w.heap.size, 2, none⟩ = some (.int .u64 (wd x 2)) ∧ w'.cell? ⟨w.heap.size, 3, none⟩ = some (.int .u64 (wd x 3)) ∧ w'.cell? ⟨w.heap.size + 1, 0, none⟩ = some (.int .u64 (wd y 0)) ∧ w'.cell? ⟨w.heap.size + 1, 1, none⟩ = some (.int .u64 (wd y 1)) ∧ w'.cell? ⟨w.heap.size + 1, 2, none⟩ = some (.int .u64 (wd y 2)) ∧ w'.cell? ⟨w.heap.size + 1, 3, none⟩ = some (.int .u64 (wd y 3))) (first | go_keep | (go_split_ands; refine ⟨?_, ?_, ?_, ?_, ?_, ?_, ?_, ?_⟩ <;> (rw [hb.cell (by simp; omega)]; first | assumption | simp [*]))) ((go_at_call 91; refine (hasR_any _ _ _).mono ?_; rintro e w1 ⟨rfl, hb⟩; have hz1 := hb.size; (try simp at hz1); replace HR : Hid (Below wr.heap.size wr w1) := (by first | exact HR.out.trans (hb.mono (by omega)) | exact HR.out.drew.trans (hb.mono (by simp)))))
        clear c0 c1 c2 c3 f0 f1 f2 f3 d0 d1 d2 d3 g0 g1 g2 g3
        have hM1 := HM.out.below HR.out (by omega)
        have hX1 := (show Hid _ from HX.out.below HR.out (by omega))
        have hY1 := (show Hid _ from HY.out.below HR.out (by omega))
        have hZ1 := (show Hid _ from HZ.out.below HR.out (by omega))
        have hB1 := (show Hid _ from HB.out.trans (HR.out.mono (by omega)))
        clear HM HX HY HZ HB
        generalize mixTo 2 x y k = mm at *
        have HM1 := (show Hid _ from hM1)
        obtain ⟨l5, c0, c1, c2, c3, f0, f1, f2, f3⟩ := hM1
        go_wp2_with fail
        refine (withR_any mm k _ (by omega) (by omega)).mono ?_
        rintro e w2 ⟨rfl, hb2⟩
        clear c0 c1 c2 c3 f0 f1 f2 f3
        obtain ⟨l5, c0, c1, c2, c3, f0, f1, f2, f3⟩ := HM1.out.below hb2 l5
        go_wp2
        go_roundw
        case rel =>
          refine ⟨k + 1, by omega, by go_num, (hX1.out.below hb2 (by omega)).put_other (by omega) _, (hY1.out.below hb2 (by omega)).put_other (by omega) _, ?_, ⟨z, (hZ1.out.below hb2 (by omega)).put_other (by omega) _⟩, ?_⟩
          · rw [HE.out]; exact (HM1.out.below hb2 (by omega)).put _
          · exact ((((hB1.out.trans (hb2.mono (by omega))).setCell (by simp; omega) _).setCell (by simp; omega) _).setCell (by simp; omega) _).setCell (by simp; omega) _
        case measure => simp [intOf]; omega
      · have HE : Hid (mixTo 2 x y (k + 1) = mixTo 2 x y k) := (by have h := HS.out; rw [hxb, hyb, if_neg (by decide)] at h; exact h)
        clear HS
        go_wp2
        go_region_held3 (fun w' => w'.cell? ⟨w.heap.size, 0, none⟩ = some (.int .u64 (wd x 0)) ∧ w'.cell? ⟨w.heap.size, 1, none⟩ = some (.int .u64 (wd x 1)) ∧ w'.cell? ⟨w.heap.size, 2, none⟩ = some (.int .u64 (wd x 2)) ∧ w'.cell? ⟨w.heap.size, 3, none⟩ = some (.int .u64 (wd x 3)) ∧ w'.cell? ⟨w.heap.size + 1, 0, none⟩ = some (.int .u64 (wd y 0)) ∧ w'.cell? ⟨w.heap.size + 1, 1, none⟩ = some (.int .u64 (wd y 1)) ∧ w'.cell? ⟨w.heap.size + 1, 2, none⟩ = some (.int .u64 (wd y 2)) ∧ w'.cell? ⟨w.heap.size + 1, 3, none⟩ = some (.int .u64 (wd y 3))) (first | go_keep | (go_split_ands; refine ⟨?_, ?_, ?_, ?_, ?_, ?_, ?_, ?_⟩ <;> (rw [hb.cell (by simp; omega)]; first | assumption | simp [*]))) ((go_at_call 91; refine (hasR_any _ _ _).mono ?_; rintro e w1 ⟨rfl, hb⟩; have hz1 := hb.size; (try simp at hz1); replace HR : Hid (Below wr.heap.size wr w1) := (by first | exact HR.out.trans (hb.mono (by omega)) | exact HR.out.drew.trans (hb.mono (by simp)))))
        clear c0 c1 c2 c3 f0 f1 f2 f3 d0 d1 d2 d3 g0 g1 g2 g3
        have hM1 := HM.out.below HR.out (by omega)
        have hX1 := (show Hid _ from HX.out.below HR.out (by omega))
        have hY1 := (show Hid _ from HY.out.below HR.out (by omega))
        have hZ1 := (show Hid _ from HZ.out.below HR.out (by omega))
        have hB1 := (show Hid _ from HB.out.trans (HR.out.mono (by omega)))
        clear HM HX HY HZ HB
        generalize mixTo 2 x y k = mm at *
        have HM1 := (show Hid _ from hM1)
        clear hM1
        go_wp2
        go_roundw
        case rel => exact ⟨k + 1, by omega, by go_num, hX1.out, hY1.out, (by rw [HE.out]; exact HM1.out), ⟨z, hZ1.out⟩, hB1.out⟩
        case measure => simp [intOf]; omega
    · have hke : k = 256 := by omega
      subst hke
      clear hx hy hbel
      have HQ : Hid (mixTo 2 x y 256 = mixS 2 x y) := rfl
      generalize mixTo 2 x y 256 = mm at *
      obtain ⟨l0, c0, c1, c2, c3, f0, f1, f2, f3⟩ := hm
      obtain ⟨l1, d0, d1, d2, d3, g0, g1, g2, g3⟩ := hz
      go_wp2
      rw [← HQ.out]
      refine bodyPost_ret (v := sv mm) (by simp [results, Tryd.results77, go_sem, *]) rfl ⟨rfl, ?_⟩
      exact (((HB.out.setCell (by simp; omega) _).setCell (by simp; omega) _).setCell (by simp; omega) _).setCell (by simp; omega) _
end Go.Proofs.YthffklhojdldkaaDoor
