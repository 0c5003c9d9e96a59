/- DERIVED. Plain mathematics and walks, laid together (1). -/
import Derived.Shelf.Strings.Builder1
import Derived.Shelf.Small.Strs
import Derived.Shelf.Strings.BuilderF
import Derived.Shelf.Strings.BuilderK
import Derived.Shelf.Strconv.Itoa0
import Derived.Shelf.Strconv.Itoa1
import Derived.Shelf.LaysM
import Derived.Shelf.Strconv.Itoa2
import Derived.Shelf.Strconv.Itoa3
import Derived.Shelf.Strconv.Itoa4
import Derived.Shelf.Strings.Search1
import Derived.Shelf.Strings.Prefix
import Derived.Shelf.Strings.BuilderCap
import Derived.Test.YthffklhojdldkaaGreatDoorProg
import Derived.WalkKit
import Derived.Test.YthffklhojdldkaaGreatDoorRows
import Derived.WalkSpells
import Derived.WalkLawsBesides
import Derived.Deep.QuietTactic
import Derived.BigQuiet
import Derived.Deep.RegionHeld3
import Derived.Maps.AppendAt
import Derived.RangeFuncNested
import Derived.RangeFuncBound
import Derived.RangeFuncCalls
import Derived.RangeFuncLeaves
import Derived.RangeFuncFrom
import Derived.Shelf.Abstract
import Derived.Shelf.RegionOpen
import Derived.OwnWalkIn
import Derived.TacticsInMore
import Derived.LoopNIn
import Derived.LoopIn
namespace Go.Proofs
open Go.Shelf
def Tryz.lays170_ren : Go.Shelf.Ren := ⟨fun | 170 => 19 | n => n, fun | 70 => 47 | 3 => 3 | 0 => 0 | 72 => 50 | 37 => 48 | 5 => 5 | n => n, fun | n => n⟩
theorem Tryz.lays170 : Go.Proofs.Lays.n170 Tryz.prog Tryz.lays170_ren := {
  mixed := by kernel_rfl
  f170 := Tryz.func19.trans (congrArg some (by kernel_rfl))
  t0 := Tryz.underlying0
  a0 := Tryz.isAgg0
  z0 := Tryz.sizeOf0
  v0 := Tryz.zeroValue0
  t3 := Tryz.underlying3
  a3 := Tryz.isAgg3
  z3 := Tryz.sizeOf3
  v3 := Tryz.zeroValue3
  t37 := Tryz.underlying48
  a37 := Tryz.isAgg48
  z37 := Tryz.sizeOf48
  v37 := Tryz.zeroValue48
  t70 := Tryz.underlying47
  a70 := Tryz.isAgg47
  z70 := Tryz.sizeOf47
  v70 := Tryz.zeroValue47
  t72 := Tryz.underlying50
  a72 := Tryz.isAgg50
  z72 := Tryz.sizeOf50
  v72 := Tryz.zeroValue50 }
open Go.RowKit in
theorem Tryz.Builder_Len (B b : Nat) (bs : List Value) (w : World) (h : Lib.IsBuilder 50 5 B b bs w) :
    Calls Tryz.prog 19 #[.pointer (some ⟨b, 0, none⟩)] w fun e w' => e = .returned (.int .i64 bs.length) ∧ w' = w := Any.Builder_Len Tryz.lays170 B b bs w h
def Tryz.lays169_ren : Go.Shelf.Ren := ⟨fun | 169 => 20 | n => n, fun | 70 => 47 | 9 => 9 | 0 => 0 | 72 => 50 | 37 => 48 | 127 => 72 | 3 => 3 | 5 => 5 | n => n, fun | n => n⟩
theorem Tryz.lays169 : Go.Proofs.Lays.n169 Tryz.prog Tryz.lays169_ren := {
  mixed := by kernel_rfl
  f169 := Tryz.func20.trans (congrArg some (by kernel_rfl))
  t0 := Tryz.underlying0
  a0 := Tryz.isAgg0
  z0 := Tryz.sizeOf0
  v0 := Tryz.zeroValue0
  t3 := Tryz.underlying3
  a3 := Tryz.isAgg3
  z3 := Tryz.sizeOf3
  v3 := Tryz.zeroValue3
  t9 := Tryz.underlying9
  a9 := Tryz.isAgg9
  z9 := Tryz.sizeOf9
  v9 := Tryz.zeroValue9
  t37 := Tryz.underlying48
  a37 := Tryz.isAgg48
  z37 := Tryz.sizeOf48
  v37 := Tryz.zeroValue48
  t70 := Tryz.underlying47
  a70 := Tryz.isAgg47
  z70 := Tryz.sizeOf47
  v70 := Tryz.zeroValue47
  t72 := Tryz.underlying50
  a72 := Tryz.isAgg50
  z72 := Tryz.sizeOf50
  v72 := Tryz.zeroValue50
  t127 := Tryz.underlying72
  a127 := Tryz.isAgg72
  z127 := Tryz.sizeOf72
  v127 := Tryz.zeroValue72 }
theorem Tryz.Builder_Extra_169 : Builder.Extra Tryz.prog Tryz.lays169_ren := {
  sizeBuilder := by kernel_rfl
  liesBuilder := by kernel_rfl
  t5 := Tryz.underlying5
  a5 := Tryz.isAgg5
  z5 := Tryz.sizeOf5
  v5 := Tryz.zeroValue5
  infoByte := by kernel_rfl
  cellsByte := by kernel_rfl
  sizeByte := by kernel_rfl
  neB5 := by decide }
open Go.RowKit in
theorem Tryz.Builder_String_any (B b : Nat) (l : List UInt8) (w : World) (h : Lib.IsBuilder 50 5 B b (Lib.byteCells l) w) (hBw : B ≤ w.heap.size) :
    Calls Tryz.prog 20 #[.pointer (some ⟨b, 0, none⟩)] w fun e w' => e = .returned (.string ⟨l.toArray⟩) ∧ Below B w w' := Any.Builder_String_any Tryz.lays169 Tryz.Builder_Extra_169 B b l w h hBw
def Tryz.lays137_ren : Go.Shelf.Ren := ⟨fun | 137 => 101 | 217 => 123 | 266 => 133 | n => n, fun | 9 => 9 | 5 => 5 | 3 => 3 | n => n, fun | n => n⟩
theorem Tryz.lays137 : Go.Proofs.Lays.n137 Tryz.prog Tryz.lays137_ren := {
  mixed := by kernel_rfl
  f137 := Tryz.func101.trans (congrArg some (by kernel_rfl))
  f217 := Tryz.func123.trans (congrArg some (by kernel_rfl))
  f266 := Tryz.func133.trans (congrArg some (by kernel_rfl))
  t3 := Tryz.underlying3
  a3 := Tryz.isAgg3
  z3 := Tryz.sizeOf3
  v3 := Tryz.zeroValue3
  t5 := Tryz.underlying5
  a5 := Tryz.isAgg5
  z5 := Tryz.sizeOf5
  v5 := Tryz.zeroValue5
  t9 := Tryz.underlying9
  a9 := Tryz.isAgg9
  z9 := Tryz.sizeOf9
  v9 := Tryz.zeroValue9 }
open Go.RowKit in
theorem Tryz.strings_IndexByte (s : ByteArray) (c : Int) (w : World) :
    Calls Tryz.prog 101 #[.string s, .int .u8 c] w fun e w' => e = .returned (.int .i64 (Lib.indexByte s.data.toList c.toNat.toUInt8)) ∧ w' = w := Any.strings_IndexByte Tryz.lays137 s c w
def Tryz.laysM171_ren : Go.Shelf.Ren := ⟨fun | 171 => 35 | 243 => 65 | 246 => 70 | 283 => 94 | 284 => 95 | 285 => 96 | 286 => 97 | 129 => 119 | 317 => 118 | 318 => 120 | 319 => 121 | 320 => 122 | 337 => 131 | 338 => 132 | n => n, fun | 3 => 3 | 9 => 9 | 2 => 2 | 4 => 4 | 171 => 111 | 0 => 0 | 53 => 41 | 37 => 48 | 5 => 5 | 173 => 114 | 212 => 126 | 51 => 127 | 20 => 20 | 213 => 128 | 46 => 129 | 232 => 135 | 233 => 136 | n => n, fun | 17 => 1 | 18 => 2 | 19 => 3 | n => n⟩
theorem Tryz.laysM171 : Go.Proofs.LaysM.n171 Tryz.prog Tryz.laysM171_ren := {
  mixed := by kernel_rfl
  f129 := Tryz.func119.trans (congrArg some (by kernel_rfl))
  f171 := Tryz.func35.trans (congrArg some (by kernel_rfl))
  f243 := Tryz.func65.trans (congrArg some (by kernel_rfl))
  f246 := Tryz.func70.trans (congrArg some (by kernel_rfl))
  f283 := Tryz.func94.trans (congrArg some (by kernel_rfl))
  f284 := Tryz.func95.trans (congrArg some (by kernel_rfl))
  f285 := Tryz.func96.trans (congrArg some (by kernel_rfl))
  f286 := Tryz.func97.trans (congrArg some (by kernel_rfl))
  f317 := Tryz.func118.trans (congrArg some (by kernel_rfl))
  f318 := Tryz.func120.trans (congrArg some (by kernel_rfl))
  f319 := Tryz.func121.trans (congrArg some (by kernel_rfl))
  f320 := Tryz.func122.trans (congrArg some (by kernel_rfl))
  f337 := Tryz.func131.trans (congrArg some (by kernel_rfl))
  f338 := Tryz.func132.trans (congrArg some (by kernel_rfl))
  t0 := Tryz.underlying0
  a0 := Tryz.isAgg0
  z0 := Tryz.sizeOf0
  v0 := Tryz.zeroValue0
  t2 := Tryz.underlying2
  a2 := Tryz.isAgg2
  z2 := Tryz.sizeOf2
  v2 := Tryz.zeroValue2
  t3 := Tryz.underlying3
  a3 := Tryz.isAgg3
  z3 := Tryz.sizeOf3
  v3 := Tryz.zeroValue3
  t4 := Tryz.underlying4
  a4 := Tryz.isAgg4
  z4 := Tryz.sizeOf4
  v4 := Tryz.zeroValue4
  t5 := Tryz.underlying5
  a5 := Tryz.isAgg5
  z5 := Tryz.sizeOf5
  v5 := Tryz.zeroValue5
  t9 := Tryz.underlying9
  a9 := Tryz.isAgg9
  z9 := Tryz.sizeOf9
  v9 := Tryz.zeroValue9
  t20 := Tryz.underlying20
  a20 := Tryz.isAgg20
  z20 := Tryz.sizeOf20
  v20 := Tryz.zeroValue20
  t37 := Tryz.underlying48
  a37 := Tryz.isAgg48
  z37 := Tryz.sizeOf48
  v37 := Tryz.zeroValue48
  t46 := Tryz.underlying129
  a46 := Tryz.isAgg129
  z46 := Tryz.sizeOf129
  v46 := Tryz.zeroValue129
  t51 := Tryz.underlying127
  a51 := Tryz.isAgg127
  z51 := Tryz.sizeOf127
  v51 := Tryz.zeroValue127
  t53 := Tryz.underlying41
  a53 := Tryz.isAgg41
  z53 := Tryz.sizeOf41
  v53 := Tryz.zeroValue41
  t171 := Tryz.underlying111
  a171 := Tryz.isAgg111
  z171 := Tryz.sizeOf111
  v171 := Tryz.zeroValue111
  t173 := Tryz.underlying114
  a173 := Tryz.isAgg114
  z173 := Tryz.sizeOf114
  v173 := Tryz.zeroValue114
  t212 := Tryz.underlying126
  a212 := Tryz.isAgg126
  z212 := Tryz.sizeOf126
  v212 := Tryz.zeroValue126
  t213 := Tryz.underlying128
  a213 := Tryz.isAgg128
  z213 := Tryz.sizeOf128
  t232 := Tryz.underlying135
  a232 := Tryz.isAgg135
  z232 := Tryz.sizeOf135
  v232 := Tryz.zeroValue135
  t233 := Tryz.underlying136
  a233 := Tryz.isAgg136
  z233 := Tryz.sizeOf136
  v233 := Tryz.zeroValue136
  g17 := by kernel_rfl
  g18 := by kernel_rfl
  g19 := by kernel_rfl
  i0 := by kernel_rfl
  i2 := by kernel_rfl
  i3 := by kernel_rfl
  i4 := by kernel_rfl
  i5 := by kernel_rfl
  i9 := by kernel_rfl
  i20 := by kernel_rfl
  i37 := by kernel_rfl
  i46 := by kernel_rfl
  i51 := by kernel_rfl
  i53 := by kernel_rfl
  i171 := by kernel_rfl
  i173 := by kernel_rfl
  i212 := by kernel_rfl
  i232 := by kernel_rfl
  i233 := by kernel_rfl
  m17 := by kernel_rfl
  m18 := by kernel_rfl
  m19 := by kernel_rfl }
open Go.RowKit Go.Sort Go.Lib in
theorem Tryz.strconv_Itoa (n : Int) (h0 : -9223372036854775808 ≤ n) (h1 : n ≤ 9223372036854775807) (w : World) (htab : Lib.TabIs Tryz.prog w "internal/strconv.uint64pow10" .u64 Lib.pow10Tab) :
    Calls Tryz.prog 35 #[.int .i64 n] w fun e w' => e = .returned (.string ⟨(Lib.itoa n).toArray⟩) ∧ ∃ k os, w' = grow (w.drewN k) os := Any.strconv_Itoa Tryz.laysM171 n h0 h1 w htab
def Tryz.lays99_ren : Go.Shelf.Ren := ⟨fun | 99 => 45 | 206 => 76 | n => n, fun | 9 => 9 | 4 => 4 | 3 => 3 | n => n, fun | n => n⟩
theorem Tryz.lays99 : Go.Proofs.Lays.n99 Tryz.prog Tryz.lays99_ren := {
  mixed := by kernel_rfl
  f99 := Tryz.func45.trans (congrArg some (by kernel_rfl))
  f206 := Tryz.func76.trans (congrArg some (by kernel_rfl))
  t3 := Tryz.underlying3
  a3 := Tryz.isAgg3
  z3 := Tryz.sizeOf3
  v3 := Tryz.zeroValue3
  t4 := Tryz.underlying4
  a4 := Tryz.isAgg4
  z4 := Tryz.sizeOf4
  v4 := Tryz.zeroValue4
  t9 := Tryz.underlying9
  a9 := Tryz.isAgg9
  z9 := Tryz.sizeOf9
  v9 := Tryz.zeroValue9 }
open Go.RowKit Go.Lib in
theorem Tryz.strings_HasPrefix (s p : ByteArray) (w : World) :
    Calls Tryz.prog 45 #[.string s, .string p] w fun e w' => e = .returned (.bool (Lib.hasPrefix s.data.toList p.data.toList)) ∧ w' = w := Any.strings_HasPrefix Tryz.lays99 s p w
end Go.Proofs

namespace Go.Proofs.YthffklhojdldkaaGreatDoor
open Go.RowKit
/-- Word i of a set. -/
def wd (x : BitVec 256) (i : Nat) : Int := ((x.extractLsb' (64 * i) 64).toNat : Int)

/-- The set of one byte. -/
def bt (b : Nat) : BitVec 256 := 1#256 <<< b

theorem wd_lo (x : BitVec 256) (i : Nat) : 0 ≤ wd x i := by unfold wd; omega
theorem wd_hi (x : BitVec 256) (i : Nat) : wd x i < 18446744073709551616 := by
  unfold wd; have := (x.extractLsb' (64 * i) 64).isLt; omega
theorem wd_toNat (x : BitVec 256) (i : Nat) : (wd x i).toNat = (x.extractLsb' (64 * i) 64).toNat := by unfold wd; omega
theorem wd_testBit (x : BitVec 256) (i j : Nat) : (wd x i).toNat.testBit j = (decide (j < 64) && x.getLsbD (64 * i + j)) := by
  rw [wd_toNat, BitVec.testBit_toNat, BitVec.getLsbD_extractLsb']

theorem wd_of_testBit (x : BitVec 256) (i : Nat) (n : Int) (h0 : 0 ≤ n) (h : ∀ j, n.toNat.testBit j = (decide (j < 64) && x.getLsbD (64 * i + j))) : n = wd x i := by
  have : n.toNat = (wd x i).toNat := Nat.eq_of_testBit_eq fun j => by rw [h j, wd_testBit]
  have := wd_lo x i
  omega

theorem wd_or (x y : BitVec 256) (i : Nat) : bits .or .u64 (wd x i) (wd y i) = wd (x ||| y) i := by
  rw [u64_or _ _ (wd_lo _ _) (wd_hi _ _) (wd_lo _ _) (wd_hi _ _)]
  refine wd_of_testBit _ _ _ (by omega) fun j => ?_
  rw [Int.toNat_natCast, Nat.testBit_or, wd_testBit, wd_testBit, BitVec.getLsbD_or]
  cases decide (j < 64) <;> simp
theorem wd_and (x y : BitVec 256) (i : Nat) : bits .and .u64 (wd x i) (wd y i) = wd (x &&& y) i := by
  rw [u64_and _ _ (wd_lo _ _) (wd_hi _ _) (wd_lo _ _) (wd_hi _ _)]
  refine wd_of_testBit _ _ _ (by omega) fun j => ?_
  rw [Int.toNat_natCast, Nat.testBit_and, wd_testBit, wd_testBit, BitVec.getLsbD_and]
  cases decide (j < 64) <;> simp

theorem bt_get (b j : Nat) (hb : b < 256) : (bt b).getLsbD j = decide (j = b) := by
  unfold bt
  rw [BitVec.getLsbD_shiftLeft]
  by_cases h : j = b
  · subst h; simp [hb]
  · by_cases h1 : j < b
    · simp [h1, h]
    · by_cases h2 : j < 256
      · have : j - b ≠ 0 := by omega
        simp [h, h2, BitVec.getLsbD_one, this]
      · simp [h, h2]

/-- The word of one bit, as the walk writes it. -/
theorem pow_wrap (k : Nat) (h : k < 64) : IntKind.u64.wrap (2 ^ k) = ((2 ^ k : Nat) : Int) := by
  rw [IntKind.wrap_u64]
  have h1 : 2 ^ k < 2 ^ 64 := Nat.pow_lt_pow_right (by omega) h
  have h2 : ((2 ^ k : Nat) : Int) = (2 : Int) ^ k := by simp
  rw [← h2]
  generalize 2 ^ k = n at *
  omega

theorem wd_bt_same (b i : Nat) (hb : b < 256) (hi : b / 64 = i) : wd (bt b) i = ((2 ^ (b % 64) : Nat) : Int) := by
  refine (wd_of_testBit _ _ _ (Int.natCast_nonneg _) fun j => ?_).symm
  rw [Int.toNat_natCast, Nat.testBit_two_pow, bt_get _ _ hb]
  by_cases h : b % 64 = j
  · have : j < 64 := by omega
    have h2 : 64 * i + j = b := by omega
    simp [h, this, h2]
  · by_cases h3 : j < 64
    · have h2 : ¬ 64 * i + j = b := by omega
      simp [h, h2]
    · simp [h, h3]
theorem wd_bt_other (b i : Nat) (hb : b < 256) (hi : b / 64 ≠ i) : wd (bt b) i = 0 := by
  refine (wd_of_testBit _ _ _ (by omega) fun j => ?_).symm
  rw [bt_get _ _ hb]
  by_cases h3 : j < 64
  · have h2 : ¬ 64 * i + j = b := by omega
    simp [h2]
  · simp [h3]

theorem bits_or_zero (x : BitVec 256) (i : Nat) : bits .or .u64 (wd x i) 0 = wd x i := by
  rw [u64_or _ _ (wd_lo _ _) (wd_hi _ _) (by omega) (by omega)]
  have := wd_lo x i
  simp; omega

/-- The word in which the byte lies. -/
theorem wd_with_same (x : BitVec 256) (b i : Nat) (hb : b < 256) (hi : b / 64 = i) : bits .or .u64 (wd x i) (((2 ^ (b % 64) : Nat) : Int)) = wd (x ||| bt b) i := by
  rw [← wd_bt_same b i hb hi, wd_or]
theorem wd_with_other (x : BitVec 256) (b i : Nat) (hb : b < 256) (hi : b / 64 ≠ i) : wd (x ||| bt b) i = wd x i := by
  rw [← wd_or, wd_bt_other b i hb hi, bits_or_zero]

theorem has_and (x : BitVec 256) (b i : Nat) (hb : b < 256) (hi : b / 64 = i) : (bits .and .u64 (wd x i) (((2 ^ (b % 64) : Nat) : Int)) != 0) = x.getLsbD b := by
  rw [← wd_bt_same b i hb hi, wd_and]
  cases h : x.getLsbD b with
  | true =>
    have h1 : (wd (x &&& bt b) i).toNat.testBit (b % 64) = true := by
      rw [wd_testBit, BitVec.getLsbD_and, bt_get _ _ hb]
      have : 64 * i + b % 64 = b := by omega
      simp [this, h]; omega
    rw [bne_iff_ne]
    intro h2
    rw [h2] at h1
    simp at h1
  | false =>
    have : wd (x &&& bt b) i = 0 := by
      refine (wd_of_testBit _ _ _ (by omega) fun j => ?_).symm
      rw [BitVec.getLsbD_and, bt_get _ _ hb]
      by_cases h2 : 64 * i + j = b
      · simp [h2, h]
      · simp [h2]
    rw [this]; rfl

theorem has_shr (x : BitVec 256) (b i : Nat) (hi : b / 64 = i) : (wd x i).toNat / 2 ^ (b % 64) % 2 = (x.getLsbD b).toNat := by
  have h := wd_testBit x i (b % 64)
  have h2 : 64 * i + b % 64 = b := by omega
  have h3 : b % 64 < 64 := by omega
  rw [h2] at h
  simp only [h3, decide_true, Bool.true_and] at h
  rw [← h, Nat.testBit_eq_decide_div_mod_eq]
  have := Nat.mod_two_eq_zero_or_one ((wd x i).toNat / 2 ^ (b % 64))
  rcases this with e | e <;> simp [e]

theorem set_ext (x y : BitVec 256) (h0 : wd x 0 = wd y 0) (h1 : wd x 1 = wd y 1) (h2 : wd x 2 = wd y 2) (h3 : wd x 3 = wd y 3) : x = y := by
  apply BitVec.eq_of_getLsbD_eq
  intro j hj
  have key : ∀ i, wd x i = wd y i → j / 64 = i → x.getLsbD j = y.getLsbD j := fun i e hi => by
    have a := wd_testBit x i (j % 64)
    rw [e, wd_testBit] at a
    have e1 : 64 * i + j % 64 = j := by omega
    have e2 : j % 64 < 64 := by omega
    rw [e1] at a
    simpa [e2] using a.symm
  have : j / 64 = 0 ∨ j / 64 = 1 ∨ j / 64 = 2 ∨ j / 64 = 3 := by omega
  rcases this with e | e | e | e
  · exact key 0 h0 e
  · exact key 1 h1 e
  · exact key 2 h2 e
  · exact key 3 h3 e

/-- The word of one bit. -/
def pw (n : Nat) : Int := ((2 ^ (n % 64) : Nat) : Int)
theorem pw_of (b : Int) (h0 : 0 ≤ b) : IntKind.u64.wrap (2 ^ (b % 64).toNat) = pw b.toNat := by
  rw [pow_wrap _ (by omega), show (b % 64).toNat = b.toNat % 64 from by omega]; rfl
/-- One byte more, word by word. -/
theorem wds_with (x : BitVec 256) (b : Int) (h0 : 0 ≤ b) (h1 : b ≤ 255) (i : Nat) (hi : b / 64 = (i : Int)) :
    bits .or .u64 (wd x i) (pw b.toNat) = wd (x ||| bt b.toNat) i ∧ ∀ j, j ≠ i → wd x j = wd (x ||| bt b.toNat) j :=
  ⟨wd_with_same x _ i (by omega) (by omega), fun j hj => (wd_with_other x _ j (by omega) (by omega)).symm⟩
theorem wrap_quo (b : Int) (h0 : 0 ≤ b) (h1 : b ≤ 255) : IntKind.i64.wrap (b.tdiv 64) = b / 64 := by
  rw [Int.tdiv_eq_ediv_of_nonneg h0, IntKind.wrap_i64]; omega
end Go.Proofs.YthffklhojdldkaaGreatDoor

namespace Go.Proofs.YthffklhojdldkaaGreatDoor
open Go.RowKit
set_option maxHeartbeats 400000 in
theorem isByte_any (b : Int) (w : World) :
    Calls Tryz.prog 130 #[.int .i64 b] w fun e w' => e = .returned (.bool (decide (0 ≤ b) && decide (b ≤ 255))) ∧ w' = w := by
  by_cases h0 : 0 ≤ b
  · have hd : decide (0 ≤ b) = true := by simpa using h0
    go_enter Tryz.func130, Tryz.ntmps130
    go_wp2
    go_ret
    exact ⟨by simp [h0], rfl⟩
  · have hd : decide (0 ≤ b) = false := by simpa using h0
    go_enter Tryz.func130, Tryz.ntmps130
    go_wp2
    go_ret
    exact ⟨by simp, rfl⟩


abbrev sv (x : BitVec 256) : Value := .agg #[.int .u64 (wd x 0), .int .u64 (wd x 1), .int .u64 (wd x 2), .int .u64 (wd x 3)]

theorem ret_int {k : IntKind} {a b : Int} (h : a = b) : Ending.returned (.int k a) = .returned (.int k b) := by rw [h]

set_option maxHeartbeats 400000 in
theorem bit_any (b : Int) (w : World) (h0 : 0 ≤ b) (h1 : b ≤ 255) :
    Calls Tryz.prog 128 #[.int .i64 b] w fun e w' => e = .returned (.int .u64 (pw b.toNat)) ∧ w' = w := by
  go_enter Tryz.func128, Tryz.ntmps128
  go_wp2
  go_ret
  exact ⟨ret_int (pw_of b h0), rfl⟩

theorem ret_sv {a b c d : Int} {y : BitVec 256} (h0 : a = wd y 0) (h1 : b = wd y 1) (h2 : c = wd y 2) (h3 : d = wd y 3) : Ending.returned (.agg #[.int .u64 a, .int .u64 b, .int .u64 c, .int .u64 d]) = .returned (sv y) := by
  rw [h0, h1, h2, h3]

set_option maxHeartbeats 1000000 in
theorem with_any (x : BitVec 256) (b : Int) (w : World) (h0 : 0 ≤ b) (h1 : b ≤ 255) :
    Calls Tryz.prog 109 #[sv x, .int .i64 b] w fun e w' => e = .returned (sv (x ||| bt b.toNat)) ∧ Below w.heap.size w w' := by
  have hq : b / 64 = 0 ∨ b / 64 = 1 ∨ b / 64 = 2 ∨ b / 64 = 3 := by omega
  rcases hq with hq | hq | hq | hq
  · have hs := (show Hid _ from wds_with x b h0 h1 0 hq)
    have t1 : IntKind.i64.wrap (b.tdiv 64) = 0 := by rw [wrap_quo b h0 h1]; exact hq
    go_enter Tryz.func109, Tryz.ntmps109
    go_wp2
    go_region_with ((go_at_call 128; refine (bit_any _ _ (by omega) (by omega)).mono ?_; rintro e w' ⟨rfl, rfl⟩))
    all_goals
      go_wp2
      replace hs := hs.out
      exact bodyPost_ret (v := .agg #[.int .u64 (bits BinOp.or IntKind.u64 (wd x 0) (pw b.toNat)), .int .u64 (wd x 1), .int .u64 (wd x 2), .int .u64 (wd x 3)]) (by simp [results, Tryz.results109, go_sem]) rfl ⟨ret_sv hs.1 (hs.2 1 (by omega)) (hs.2 2 (by omega)) (hs.2 3 (by omega)), (((Below.refl _ _).alloc (Nat.le_refl _) _).alloc (by simp) _).drew⟩
  · have hs := (show Hid _ from wds_with x b h0 h1 1 hq)
    have t1 : IntKind.i64.wrap (b.tdiv 64) = 1 := by rw [wrap_quo b h0 h1]; exact hq
    go_enter Tryz.func109, Tryz.ntmps109
    go_wp2
    go_region_with ((go_at_call 128; refine (bit_any _ _ (by omega) (by omega)).mono ?_; rintro e w' ⟨rfl, rfl⟩))
    all_goals
      go_wp2
      replace hs := hs.out
      exact bodyPost_ret (v := .agg #[.int .u64 (wd x 0), .int .u64 (bits BinOp.or IntKind.u64 (wd x 1) (pw b.toNat)), .int .u64 (wd x 2), .int .u64 (wd x 3)]) (by simp [results, Tryz.results109, go_sem]) rfl ⟨ret_sv (hs.2 0 (by omega)) hs.1 (hs.2 2 (by omega)) (hs.2 3 (by omega)), (((Below.refl _ _).alloc (Nat.le_refl _) _).alloc (by simp) _).drew⟩
  · have hs := (show Hid _ from wds_with x b h0 h1 2 hq)
    have t1 : IntKind.i64.wrap (b.tdiv 64) = 2 := by rw [wrap_quo b h0 h1]; exact hq
    go_enter Tryz.func109, Tryz.ntmps109
    go_wp2
    go_region_with ((go_at_call 128; refine (bit_any _ _ (by omega) (by omega)).mono ?_; rintro e w' ⟨rfl, rfl⟩))
    all_goals
      go_wp2
      replace hs := hs.out
      exact bodyPost_ret (v := .agg #[.int .u64 (wd x 0), .int .u64 (wd x 1), .int .u64 (bits BinOp.or IntKind.u64 (wd x 2) (pw b.toNat)), .int .u64 (wd x 3)]) (by simp [results, Tryz.results109, go_sem]) rfl ⟨ret_sv (hs.2 0 (by omega)) (hs.2 1 (by omega)) hs.1 (hs.2 3 (by omega)), (((Below.refl _ _).alloc (Nat.le_refl _) _).alloc (by simp) _).drew⟩
  · have hs := (show Hid _ from wds_with x b h0 h1 3 hq)
    have t1 : IntKind.i64.wrap (b.tdiv 64) = 3 := by rw [wrap_quo b h0 h1]; exact hq
    go_enter Tryz.func109, Tryz.ntmps109
    go_wp2
    go_region_with ((go_at_call 128; refine (bit_any _ _ (by omega) (by omega)).mono ?_; rintro e w' ⟨rfl, rfl⟩))
    all_goals
      go_wp2
      replace hs := hs.out
      exact bodyPost_ret (v := .agg #[.int .u64 (wd x 0), .int .u64 (wd x 1), .int .u64 (wd x 2), .int .u64 (bits BinOp.or IntKind.u64 (wd x 3) (pw b.toNat))]) (by simp [results, Tryz.results109, go_sem]) rfl ⟨ret_sv (hs.2 0 (by omega)) (hs.2 1 (by omega)) (hs.2 2 (by omega)) hs.1, (((Below.refl _ _).alloc (Nat.le_refl _) _).alloc (by simp) _).drew⟩
end Go.Proofs.YthffklhojdldkaaGreatDoor

namespace Go.Proofs.YthffklhojdldkaaGreatDoor
open Go.RowKit
/-- Block b holds the set x, and may be written. -/
structure Holds (w : World) (b : Nat) (x : BitVec 256) : Prop where
  lt : b < w.heap.size
  c0 : w.cell? ⟨b, 0, none⟩ = some (.int .u64 (wd x 0))
  c1 : w.cell? ⟨b, 1, none⟩ = some (.int .u64 (wd x 1))
  c2 : w.cell? ⟨b, 2, none⟩ = some (.int .u64 (wd x 2))
  c3 : w.cell? ⟨b, 3, none⟩ = some (.int .u64 (wd x 3))
  f0 : w.frozen? ⟨b, 0, none⟩ = false
  f1 : w.frozen? ⟨b, 1, none⟩ = false
  f2 : w.frozen? ⟨b, 2, none⟩ = false
  f3 : w.frozen? ⟨b, 3, none⟩ = false

theorem Holds.below {B : Nat} {w w' : World} {b : Nat} {x : BitVec 256} (h : Holds w b x) (hb : Below B w w') (hB : b < B) : Holds w' b x :=
  ⟨Nat.lt_of_lt_of_le h.lt hb.size, (hb.cell (p := ⟨b, 0, none⟩) hB).trans h.c0, (hb.cell (p := ⟨b, 1, none⟩) hB).trans h.c1, (hb.cell (p := ⟨b, 2, none⟩) hB).trans h.c2, (hb.cell (p := ⟨b, 3, none⟩) hB).trans h.c3, (hb.frozen (p := ⟨b, 0, none⟩) hB).trans h.f0, (hb.frozen (p := ⟨b, 1, none⟩) hB).trans h.f1, (hb.frozen (p := ⟨b, 2, none⟩) hB).trans h.f2, (hb.frozen (p := ⟨b, 3, none⟩) hB).trans h.f3⟩
theorem Holds.drew {w : World} {b : Nat} {x : BitVec 256} (h : Holds w b x) : Holds w.drew b x := h.below (Below.refl w.heap.size w).drew h.lt
theorem Holds.alloc {w : World} {b : Nat} {x : BitVec 256} (h : Holds w b x) (o : Obj) : Holds (w.alloc o) b x := h.below ((Below.refl w.heap.size w).alloc (Nat.le_refl _) o) h.lt
theorem Holds.new (w : World) (x : BitVec 256) : Holds (w.alloc (.cells #[.int .u64 (wd x 0), .int .u64 (wd x 1), .int .u64 (wd x 2), .int .u64 (wd x 3)] 43)) w.heap.size x := by
  constructor <;> simp [go_sem]

theorem wd_zero (i : Nat) : wd 0#256 i = 0 := by unfold wd; simp
theorem Holds.zero (w : World) : Holds (w.alloc (.cells #[.int .u64 0, .int .u64 0, .int .u64 0, .int .u64 0] 43)) w.heap.size 0#256 := by
  have h := Holds.new w 0#256
  rw [wd_zero, wd_zero, wd_zero, wd_zero] at h
  exact h
theorem Holds.zero' (w : World) (o : Obj) : Holds ((w.alloc o).alloc (.cells #[.int .u64 0, .int .u64 0, .int .u64 0, .int .u64 0] 43)) (w.heap.size + 1) 0#256 := by
  have h := Holds.zero (w.alloc o)
  rw [show (w.alloc o).heap.size = w.heap.size + 1 from by simp] at h
  exact h

/-- The four stores of a set into block b. -/
abbrev put4 (w : World) (b : Nat) (y : BitVec 256) : World := (((w.setCell ⟨b, 0, none⟩ (.int .u64 (wd y 0))).setCell ⟨b, 1, none⟩ (.int .u64 (wd y 1))).setCell ⟨b, 2, none⟩ (.int .u64 (wd y 2))).setCell ⟨b, 3, none⟩ (.int .u64 (wd y 3))

theorem Holds.put {w : World} {b : Nat} {x : BitVec 256} (h : Holds w b x) (y : BitVec 256) : Holds (put4 w b y) b y := by
  obtain ⟨lt, c0, c1, c2, c3, f0, f1, f2, f3⟩ := h
  constructor <;> simp [go_sem, *]
theorem Holds.put_other {w : World} {b c : Nat} {x : BitVec 256} (h : Holds w c x) (hne : c ≠ b) (y : BitVec 256) : Holds (put4 w b y) c x := by
  obtain ⟨lt, c0, c1, c2, c3, f0, f1, f2, f3⟩ := h
  constructor <;> simp [go_sem, *]

/-- The set of the bytes below n that the test names. -/
def ofB (f : Nat → Bool) : Nat → BitVec 256
  | 0 => 0#256
  | n + 1 => if f n then ofB f n ||| bt n else ofB f n
theorem ofB_get (f : Nat → Bool) (n : Nat) (hn : n ≤ 256) (j : Nat) : (ofB f n).getLsbD j = (decide (j < n) && f j) := by
  induction n with
  | zero => simp [ofB]
  | succ n ih =>
    have ih := ih (by omega)
    unfold ofB
    by_cases h : f n = true
    · rw [if_pos h, BitVec.getLsbD_or, ih, bt_get _ _ (by omega)]
      by_cases e : j = n
      · subst e; simp [h]
      · have : decide (j < n + 1) = decide (j < n) := decide_eq_decide.2 (by omega)
        simp [e, this]
    · rw [if_neg h, ih]
      by_cases e : j = n
      · subst e; simp [h]
      · have : decide (j < n + 1) = decide (j < n) := decide_eq_decide.2 (by omega)
        simp [this]
theorem set_eq (x y : BitVec 256) (h : ∀ j, j < 256 → x.getLsbD j = y.getLsbD j) : x = y := BitVec.eq_of_getLsbD_eq h
/-- The bytes from lo to hi. -/
def spn (lo hi : Int) : BitVec 256 := ofB (fun j => decide (lo ≤ (j : Int))) (hi + 1).toNat
theorem spn_get (lo hi : Int) (h1 : hi ≤ 255) (j : Nat) : (spn lo hi).getLsbD j = (decide (lo ≤ (j : Int)) && decide ((j : Int) ≤ hi)) := by
  unfold spn
  rw [ofB_get _ _ (by omega)]
  have : decide (j < (hi + 1).toNat) = decide ((j : Int) ≤ hi) := decide_eq_decide.2 (by omega)
  rw [this, Bool.and_comm]
theorem spn_nil (lo : Int) (h0 : 0 ≤ lo) (h1 : lo ≤ 256) : spn lo (lo - 1) = 0#256 := by
  refine set_eq _ _ fun j hj => ?_
  rw [spn_get _ _ (by omega)]
  by_cases h : lo ≤ (j : Int)
  · have : ¬ (j : Int) ≤ lo - 1 := by omega
    simp [this]
  · simp [h]
theorem spn_snoc (lo b : Int) (h0 : 0 ≤ lo) (hb : lo ≤ b) (h1 : b ≤ 255) : spn lo b = spn lo (b - 1) ||| bt b.toNat := by
  refine set_eq _ _ fun j hj => ?_
  rw [spn_get _ _ (by omega), BitVec.getLsbD_or, spn_get _ _ (by omega), bt_get _ _ (by omega)]
  by_cases e : j = b.toNat
  · have a1 : lo ≤ (j : Int) := by omega
    have a2 : (j : Int) ≤ b := by omega
    rw [decide_eq_true a1, decide_eq_true a2, decide_eq_true e]; simp
  · have : decide ((j : Int) ≤ b) = decide ((j : Int) ≤ b - 1) := decide_eq_decide.2 (by omega)
    simp [e, this]
end Go.Proofs.YthffklhojdldkaaGreatDoor

namespace Go.Proofs.YthffklhojdldkaaGreatDoor
/-- How many numbers below n the test names. -/
def cntTo (f : Nat → Bool) : Nat → Nat
  | 0 => 0
  | n + 1 => cntTo f n + (f n).toNat
theorem cntTo_succ (f : Nat → Bool) (n : Nat) : cntTo f (n + 1) = cntTo f n + (f n).toNat := rfl
theorem cntTo_le (f : Nat → Bool) (n : Nat) : cntTo f n ≤ n := by
  induction n with
  | zero => exact Nat.le_refl _
  | succ n ih => unfold cntTo; cases f n <;> simp <;> omega
def s1 (b : Nat) : Nat := ((b / 2) &&& 85) + (b &&& 85)
def s2 (b : Nat) : Nat := ((b / 4) &&& 51) + (b &&& 51)
def s3 (b : Nat) : Nat := (b / 16 + b) % 16
end Go.Proofs.YthffklhojdldkaaGreatDoor

namespace Go.Proofs.YthffklhojdldkaaGreatDoor
open Go.RowKit
def hasB (x : BitVec 256) (b : Int) : Bool := decide (0 ≤ b) && (decide (b ≤ 255) && x.getLsbD b.toNat)
theorem hasB_no (x : BitVec 256) (b : Int) (h : ¬ (0 ≤ b ∧ b ≤ 255)) : hasB x b = false := by
  unfold hasB
  by_cases h0 : 0 ≤ b
  · have : ¬ b ≤ 255 := fun h1 => h ⟨h0, h1⟩
    simp [this]
  · simp [h0]
theorem hasB_yes (x : BitVec 256) (b : Int) (h0 : 0 ≤ b) (h1 : b ≤ 255) : hasB x b = x.getLsbD b.toNat := by
  unfold hasB; simp [h0, h1]
theorem ret_bool {a b : Bool} (h : a = b) : Ending.returned (.bool a) = .returned (.bool b) := by rw [h]

set_option maxHeartbeats 1000000 in
theorem has_any (x : BitVec 256) (b : Int) (w : World) :
    Calls Tryz.prog 115 #[sv x, .int .i64 b] w fun e w' => e = .returned (.bool (hasB x b)) ∧ Below w.heap.size w w' := by
  by_cases hb : 0 ≤ b ∧ b ≤ 255
  · obtain ⟨h0, h1⟩ := hb
    have hi : (decide (0 ≤ b) && decide (b ≤ 255)) = true := by simp [h0, h1]
    have hy := (show Hid _ from hasB_yes x b h0 h1)
    have hq : b / 64 = 0 ∨ b / 64 = 1 ∨ b / 64 = 2 ∨ b / 64 = 3 := by omega
    rcases hq with hq | hq | hq | hq
    · have t1 : IntKind.i64.wrap (b.tdiv 64) = 0 := by rw [wrap_quo b h0 h1]; exact hq
      have hs := (show Hid _ from has_and x b.toNat 0 (by omega) (by omega))
      go_enter Tryz.func115, Tryz.ntmps115
      go_wp2
      go_quiet (first | (go_at_call 130; exact Calls.quiet_of_same (isByte_any _ _)) | (go_at_call 128; exact Calls.quiet_of_same (bit_any _ _ (by omega) (by omega))))
      go_wp2
      go_ret
      exact ⟨ret_bool (hs.out.trans hy.out.symm), below_drewN ((Below.refl _ _).alloc (Nat.le_refl _) _) _⟩
    · have t1 : IntKind.i64.wrap (b.tdiv 64) = 1 := by rw [wrap_quo b h0 h1]; exact hq
      have hs := (show Hid _ from has_and x b.toNat 1 (by omega) (by omega))
      go_enter Tryz.func115, Tryz.ntmps115
      go_wp2
      go_quiet (first | (go_at_call 130; exact Calls.quiet_of_same (isByte_any _ _)) | (go_at_call 128; exact Calls.quiet_of_same (bit_any _ _ (by omega) (by omega))))
      go_wp2
      go_ret
      exact ⟨ret_bool (hs.out.trans hy.out.symm), below_drewN ((Below.refl _ _).alloc (Nat.le_refl _) _) _⟩
    · have t1 : IntKind.i64.wrap (b.tdiv 64) = 2 := by rw [wrap_quo b h0 h1]; exact hq
      have hs := (show Hid _ from has_and x b.toNat 2 (by omega) (by omega))
      go_enter Tryz.func115, Tryz.ntmps115
      go_wp2
      go_quiet (first | (go_at_call 130; exact Calls.quiet_of_same (isByte_any _ _)) | (go_at_call 128; exact Calls.quiet_of_same (bit_any _ _ (by omega) (by omega))))
      go_wp2
      go_ret
      exact ⟨ret_bool (hs.out.trans hy.out.symm), below_drewN ((Below.refl _ _).alloc (Nat.le_refl _) _) _⟩
    · have t1 : IntKind.i64.wrap (b.tdiv 64) = 3 := by rw [wrap_quo b h0 h1]; exact hq
      have hs := (show Hid _ from has_and x b.toNat 3 (by omega) (by omega))
      go_enter Tryz.func115, Tryz.ntmps115
      go_wp2
      go_quiet (first | (go_at_call 130; exact Calls.quiet_of_same (isByte_any _ _)) | (go_at_call 128; exact Calls.quiet_of_same (bit_any _ _ (by omega) (by omega))))
      go_wp2
      go_ret
      exact ⟨ret_bool (hs.out.trans hy.out.symm), below_drewN ((Below.refl _ _).alloc (Nat.le_refl _) _) _⟩
  · have hi : (decide (0 ≤ b) && decide (b ≤ 255)) = false := by
      by_cases h0 : 0 ≤ b
      · have : ¬ b ≤ 255 := fun h1 => hb ⟨h0, h1⟩
        simp [this]
      · simp [h0]
    have hy := (show Hid _ from hasB_no x b hb)
    go_enter Tryz.func115, Tryz.ntmps115
    go_wp2
    go_quiet (first | (go_at_call 130; exact Calls.quiet_of_same (isByte_any _ _)) | (go_at_call 128; exact Calls.quiet_of_same (bit_any _ _ (by omega) (by omega))))
    go_wp2
    go_ret
    exact ⟨ret_bool hy.out.symm, below_drewN ((Below.refl _ _).alloc (Nat.le_refl _) _) _⟩

theorem has_shr' (x : BitVec 256) (b : Int) (h0 : 0 ≤ b) (i : Nat) (hi : b / 64 = (i : Int)) : (bits .and .u64 (wd x i / 2 ^ (b % 64).toNat) 1 == 1) = x.getLsbD b.toNat := by
  have h2 := has_shr x b.toNat i (by omega)
  obtain ⟨n, hn⟩ := Int.eq_ofNat_of_zero_le (wd_lo x i)
  have hlt := wd_hi x i
  rw [hn] at h2 hlt ⊢
  have e1 : (b % 64).toNat = b.toNat % 64 := by omega
  have e2 : (n : Int) / 2 ^ (b % 64).toNat = ((n / 2 ^ (b.toNat % 64) : Nat) : Int) := by rw [e1]; simp
  rw [e2, show (1 : Int) = ((1 : Nat) : Int) from rfl, u64_and_nat _ _ (Nat.lt_of_le_of_lt (Nat.div_le_self _ _) (by omega)) (by omega), nat_mask1]
  simp only [Int.toNat_natCast] at h2
  rw [h2]
  cases x.getLsbD b.toNat <;> rfl

set_option maxHeartbeats 1000000 in
theorem hasR_any (x : BitVec 256) (b : Int) (w : World) :
    Calls Tryz.prog 99 #[sv x, .int .i64 b] w fun e w' => e = .returned (.bool (hasB x b)) ∧ Below w.heap.size w w' := by
  by_cases h0 : 0 ≤ b
  · have d0 : decide (0 ≤ b) = true := by simpa using h0
    by_cases h1 : b ≤ 255
    · have d1 : decide (b ≤ 255) = true := by simpa using h1
      have hy := (show Hid _ from hasB_yes x b h0 h1)
      have hr : IntKind.i64.wrap (b.tmod 64) = b % 64 := by rw [Int.tmod_eq_emod_of_nonneg h0, IntKind.wrap_i64]; omega
      have hq : b / 64 = 0 ∨ b / 64 = 1 ∨ b / 64 = 2 ∨ b / 64 = 3 := by omega
      rcases hq with hq | hq | hq | hq
      · have t1 : IntKind.i64.wrap (b.tdiv 64) = 0 := by rw [wrap_quo b h0 h1]; exact hq
        have hs := (show Hid _ from has_shr' x b h0 0 hq)
        go_enter Tryz.func99, Tryz.ntmps99
        go_wp2
        go_ret
        exact ⟨ret_bool (hs.out.trans hy.out.symm), (Below.refl _ _).alloc (Nat.le_refl _) _⟩
      · have t1 : IntKind.i64.wrap (b.tdiv 64) = 1 := by rw [wrap_quo b h0 h1]; exact hq
        have hs := (show Hid _ from has_shr' x b h0 1 hq)
        go_enter Tryz.func99, Tryz.ntmps99
        go_wp2
        go_ret
        exact ⟨ret_bool (hs.out.trans hy.out.symm), (Below.refl _ _).alloc (Nat.le_refl _) _⟩
      · have t1 : IntKind.i64.wrap (b.tdiv 64) = 2 := by rw [wrap_quo b h0 h1]; exact hq
        have hs := (show Hid _ from has_shr' x b h0 2 hq)
        go_enter Tryz.func99, Tryz.ntmps99
        go_wp2
        go_ret
        exact ⟨ret_bool (hs.out.trans hy.out.symm), (Below.refl _ _).alloc (Nat.le_refl _) _⟩
      · have t1 : IntKind.i64.wrap (b.tdiv 64) = 3 := by rw [wrap_quo b h0 h1]; exact hq
        have hs := (show Hid _ from has_shr' x b h0 3 hq)
        go_enter Tryz.func99, Tryz.ntmps99
        go_wp2
        go_ret
        exact ⟨ret_bool (hs.out.trans hy.out.symm), (Below.refl _ _).alloc (Nat.le_refl _) _⟩
    · have d1 : decide (b ≤ 255) = false := by simpa using h1
      have hy := (show Hid _ from hasB_no x b (fun h => h1 h.2))
      go_enter Tryz.func99, Tryz.ntmps99
      go_wp2
      go_ret
      exact ⟨ret_bool hy.out.symm, (Below.refl _ _).alloc (Nat.le_refl _) _⟩
  · have d0 : decide (0 ≤ b) = false := by simpa using h0
    have hy := (show Hid _ from hasB_no x b (fun h => h0 h.1))
    go_enter Tryz.func99, Tryz.ntmps99
    go_wp2
    go_ret
    exact ⟨ret_bool hy.out.symm, (Below.refl _ _).alloc (Nat.le_refl _) _⟩
end Go.Proofs.YthffklhojdldkaaGreatDoor

namespace Go.Proofs.YthffklhojdldkaaGreatDoor
open Go.RowKit
/-- The bytes of x below k, rising. -/
def bysTo (x : BitVec 256) : Nat → List Int
  | 0 => []
  | n + 1 => if x.getLsbD n then bysTo x n ++ [(n : Int)] else bysTo x n
abbrev bys (x : BitVec 256) : List Int := bysTo x 256
/-- A list of numbers as a text. -/
def asText (l : List Int) : ByteArray := l.foldl (fun r n => r.push (UInt8.ofNat n.toNat)) ByteArray.empty
def cnt (x : BitVec 256) : Nat := cntTo x.getLsbD 256

theorem bysTo_succ (x : BitVec 256) (n : Nat) : bysTo x (n + 1) = if x.getLsbD n then bysTo x n ++ [(n : Int)] else bysTo x n := rfl
theorem bysTo_len (x : BitVec 256) (k : Nat) : (bysTo x k).length = cntTo x.getLsbD k := by
  induction k with
  | zero => rfl
  | succ n ih =>
    rw [bysTo_succ, cntTo_succ]
    cases h : x.getLsbD n <;> simp [ih]
theorem bys_len (x : BitVec 256) : (bys x).length = cnt x := bysTo_len x 256
theorem cnt_le (x : BitVec 256) : cnt x ≤ 256 := cntTo_le _ _
theorem bysTo_mem (x : BitVec 256) (k : Nat) (b : Int) : b ∈ bysTo x k ↔ 0 ≤ b ∧ b < k ∧ x.getLsbD b.toNat = true := by
  induction k with
  | zero => simp [bysTo]; omega
  | succ n ih =>
    rw [bysTo_succ]
    cases h : x.getLsbD n
    · simp only [Bool.false_eq_true, if_false, ih]
      constructor
      · rintro ⟨a, b1, c⟩; exact ⟨a, by omega, c⟩
      · rintro ⟨a, b1, c⟩
        refine ⟨a, ?_, c⟩
        have : b ≠ n := fun e => by rw [e, Int.toNat_natCast, h] at c; cases c
        omega
    · simp only [if_true, List.mem_append, ih, List.mem_singleton]
      constructor
      · rintro (⟨a, b1, c⟩ | e)
        · exact ⟨a, by omega, c⟩
        · subst e; exact ⟨by omega, by omega, by rw [Int.toNat_natCast]; exact h⟩
      · rintro ⟨a, b1, c⟩
        by_cases e : b = n
        · exact .inr e
        · exact .inl ⟨a, by omega, c⟩
theorem bysTo_bd (x : BitVec 256) (k : Nat) (b : Int) (h : b ∈ bysTo x k) : 0 ≤ b ∧ b < k := ⟨((bysTo_mem x k b).1 h).1, ((bysTo_mem x k b).1 h).2.1⟩

theorem asText_data (l : List Int) : (asText l).data.toList = l.map (fun n => UInt8.ofNat n.toNat) := by
  have key : ∀ (l : List Int) (s : ByteArray), (l.foldl (fun r n => r.push (UInt8.ofNat n.toNat)) s).data.toList = s.data.toList ++ l.map (fun n => UInt8.ofNat n.toNat) := by
    intro l
    induction l with
    | nil => intro s; simp
    | cons b l ih => intro s; rw [List.foldl_cons, ih]; simp [ByteArray.push]
  have := key l ByteArray.empty
  simpa [asText] using this
theorem asText_size (l : List Int) : (asText l).size = l.length := by
  have h := congrArg List.length (asText_data l)
  simpa using h
end Go.Proofs.YthffklhojdldkaaGreatDoor

namespace Go.Proofs.YthffklhojdldkaaGreatDoor
open Go.RowKit
/-- What Mix takes of a byte that is in a, in b. -/
def mixB (m : Nat) (a b : Bool) : Bool := (m == 0 && (a || b)) || ((m == 1 && a && b) || ((m == 2 && a && !b) || (m == 3 && !a)))
def mixTo (m : Nat) (x y : BitVec 256) (k : Nat) : BitVec 256 := ofB (fun j => mixB m (x.getLsbD j) (y.getLsbD j)) k
def mixS (m : Nat) (x y : BitVec 256) : BitVec 256 := mixTo m x y 256
theorem mixTo_succ (m : Nat) (x y : BitVec 256) (k : Nat) (hk : k < 256) : mixTo m x y (k + 1) = if mixB m (hasB x k) (hasB y k) then mixTo m x y k ||| bt k else mixTo m x y k := by
  rw [hasB_yes x k (by omega) (by omega), hasB_yes y k (by omega) (by omega), Int.toNat_natCast]; rfl
theorem mixS_get (m : Nat) (x y : BitVec 256) (j : Nat) (hj : j < 256) : (mixS m x y).getLsbD j = mixB m (x.getLsbD j) (y.getLsbD j) := by
  unfold mixS mixTo; rw [ofB_get _ _ (by omega)]; simp [hj]
theorem mixS_union (x y : BitVec 256) : mixS 0 x y = x ||| y := set_eq _ _ fun j hj => by rw [mixS_get _ _ _ _ hj, BitVec.getLsbD_or]; simp [mixB]
theorem mixS_less (x y : BitVec 256) : mixS 2 x y = x &&& ~~~ y := set_eq _ _ fun j hj => by rw [mixS_get _ _ _ _ hj, BitVec.getLsbD_and, BitVec.getLsbD_not]; simp [mixB, hj]
theorem mixS_not (x y : BitVec 256) : mixS 3 x y = ~~~ x := set_eq _ _ fun j hj => by rw [mixS_get _ _ _ _ hj, BitVec.getLsbD_not]; simp [mixB, hj]

abbrev c4 (x : BitVec 256) : Obj := .cells #[.int .u64 (wd x 0), .int .u64 (wd x 1), .int .u64 (wd x 2), .int .u64 (wd x 3)] 43
abbrev z4 : Obj := .cells #[.int .u64 0, .int .u64 0, .int .u64 0, .int .u64 0] 43
theorem mix_start0 (w : World) (x y : BitVec 256) : Holds ((((w.alloc (c4 x)).alloc (c4 y)).alloc z4).alloc z4) w.heap.size x := (((Holds.new w x).alloc _).alloc _).alloc _
theorem mix_start1 (w : World) (x y : BitVec 256) : Holds ((((w.alloc (c4 x)).alloc (c4 y)).alloc z4).alloc z4) (w.heap.size + 1) y := by
  have h := ((Holds.new (w.alloc (c4 x)) y).alloc z4).alloc z4
  rw [show (w.alloc (c4 x)).heap.size = w.heap.size + 1 from by simp] at h
  exact h
theorem mix_start2 (w : World) (x y : BitVec 256) : Holds ((((w.alloc (c4 x)).alloc (c4 y)).alloc z4).alloc z4) (w.heap.size + 2) 0#256 := by
  have h := (Holds.zero ((w.alloc (c4 x)).alloc (c4 y))).alloc z4
  rw [show ((w.alloc (c4 x)).alloc (c4 y)).heap.size = w.heap.size + 2 from by simp] at h
  exact h
theorem mix_start3 (w : World) (x y : BitVec 256) : Holds ((((w.alloc (c4 x)).alloc (c4 y)).alloc z4).alloc z4) (w.heap.size + 3) 0#256 := by
  have h := Holds.zero (((w.alloc (c4 x)).alloc (c4 y)).alloc z4)
  rw [show (((w.alloc (c4 x)).alloc (c4 y)).alloc z4).heap.size = w.heap.size + 3 from by simp] at h
  exact h
theorem mix_startB (w : World) (x y : BitVec 256) : Below w.heap.size w ((((w.alloc (c4 x)).alloc (c4 y)).alloc z4).alloc z4) :=
  (((((Below.refl _ _).alloc (Nat.le_refl _) _).alloc (by simp) _).alloc (by simp; omega) _).alloc (by simp; omega) _)
end Go.Proofs.YthffklhojdldkaaGreatDoor

namespace Go.Proofs.YthffklhojdldkaaGreatDoor
open Go.RowKit
theorem Tryz.info5 : (Tryz.prog.info? 5).map (fun i => (i.zero, i.size, i.bytes)) = some (some (.int .u8 0), 1, 1) := by kernel_rfl

/-- A row that the call owns, behind a call that turned nothing of what was there. -/
theorem own_below {w w' : World} {base e size : Nat} {v : Value} {n : Nat} {xs : List Value} (h : w.ownsRow base e size v n xs) (hb : Below w.heap.size w w') (_hB : base ≤ w.heap.size) : w'.ownsRow base e size v n xs := by
  refine h.kept (row := none) ⟨hb.os, hb.tape, hb.output, hb.size, fun k hk _ => hb.block k hk⟩ ?_
  cases h2 : v.ownBlock
  · exact .inl rfl
  · exact .inr (by simp)

theorem holds_grown {w w' : World} {b : Nat} {x : BitVec 256} {row : Option Nat} (h : Holds w b x) (hg : w.grownBy w' row) (hne : row = some b → False) : Holds w' b x := by
  have e := hg.block b h.lt (fun e => hne e.symm)
  exact ⟨Nat.lt_of_lt_of_le h.lt hg.size, (World.cell?_of_block (a := ⟨b, 0, none⟩) e).trans h.c0, (World.cell?_of_block (a := ⟨b, 1, none⟩) e).trans h.c1, (World.cell?_of_block (a := ⟨b, 2, none⟩) e).trans h.c2, (World.cell?_of_block (a := ⟨b, 3, none⟩) e).trans h.c3,
    (World.frozen?_of_block (a := ⟨b, 0, none⟩) e).trans h.f0, (World.frozen?_of_block (a := ⟨b, 1, none⟩) e).trans h.f1, (World.frozen?_of_block (a := ⟨b, 2, none⟩) e).trans h.f2, (World.frozen?_of_block (a := ⟨b, 3, none⟩) e).trans h.f3⟩

/-- The text of a row of bytes that the call owns. -/
theorem text_own {w : World} {base : Nat} {v : Value} {l : List Int} (h : w.ownsRow base 5 1 v l.length (l.map (Value.int .u8))) :
    (convert 48 9 v).run Tryz.prog w = .ok (.string (asText l)) w := by
  have hc := h
  obtain ⟨hlen, h2⟩ := h
  rcases h2 with ⟨rfl, hn⟩ | ⟨g, cap, cur, rfl, _⟩
  · obtain rfl : l = [] := List.eq_nil_of_length_eq_zero hn
    rw [run_convert_bytes_string w 48 9 5 _ _ _ Tryz.underlying48 Tryz.underlying5 Tryz.underlying9]
    rfl
  · rw [run_convert_bytes_string w 48 9 5 _ _ _ Tryz.underlying48 Tryz.underlying5 Tryz.underlying9]
    refine run_bytesToString w ⟨g, 0, none⟩ l.length cap l ?_
    have := run_loadCells_list (P := Tryz.prog) (w := w) ⟨g, 0, none⟩ (l.map (Value.int .u8)) (hc.cells rfl)
    rwa [List.length_map] at this

set_option maxRecDepth 100000 in
set_option maxHeartbeats 1000000 in
theorem bytesR_any (x : BitVec 256) (w : World) :
    Calls Tryz.prog 98 #[sv x] w fun e w' => e = .returned (.string (asText (bys x))) ∧ Below w.heap.size w w' := by
  obtain ⟨i0, hi, hz0, hz1, hz2⟩ := info_parts Tryz.info5
  go_enter Tryz.func98, Tryz.ntmps98
  go_wp2
  go_loopw [3, 4] (fun v t wr => ∃ k : Nat, k ≤ 256 ∧ t = .int .i64 k ∧ wr.ownsRow (w.heap.size + 1) 5 1 v (bysTo x k).length ((bysTo x k).map (Value.int .u8)) ∧ Holds wr w.heap.size x ∧ Below w.heap.size w wr) (fun _ t _ => 256 - (intOf t).toNat)
  case atStart => exact ⟨0, by omega, rfl, World.ownsRow_nil _ _ _ _, Holds.new w x, (Below.refl _ _).alloc (Nat.le_refl _) _⟩
  case round =>
    obtain ⟨k, hk, rfl, hown, hx, hbel⟩ := hrel
    have hsz : w.heap.size < wr.heap.size := hx.lt
    have HX := (show Hid _ from hx)
    have HO := (show Hid _ from hown)
    have HB := (show Hid _ from hbel)
    have hcl := cntTo_le x.getLsbD k
    by_cases hlt : k < 256
    · have HS := (show Hid _ from bysTo_succ x k)
      have HG := (show Hid _ from hasB_yes x k (by omega) (by omega))
      have hw8 : IntKind.u8.wrap (k : Int) = (k : Int) := by rw [IntKind.wrap_u8']; omega
      obtain ⟨l0, c0, c1, c2, c3, f0, f1, f2, f3⟩ := hx
      clear hown hbel
      cases hb : hasB x k
      · have HE : Hid (bysTo x (k + 1) = bysTo x k) := (by
          have h := HS.out
          rw [HG.out, Int.toNat_natCast] at hb
          rw [hb] at h; exact h)
        go_wp2_with fail
        refine (hasR_any x k _).mono ?_
        rintro e w1 ⟨rfl, hb1⟩
        have hO1 := (show Hid _ from own_below HO.out hb1 (by omega))
        have hB1 := (show Hid _ from HB.out.trans (hb1.mono (by omega)))
        have hX1 := (show Hid _ from HX.out.below hb1 (by omega))
        clear hb1
        go_wp2
        go_roundw
        case rel => exact ⟨k + 1, by omega, by go_num, (by rw [HE.out]; exact hO1.out), hX1.out, hB1.out⟩
        case measure => simp [intOf]; omega
      · have HE : Hid (bysTo x (k + 1) = bysTo x k ++ [(k : Int)]) := (by
          have h := HS.out
          rw [HG.out, Int.toNat_natCast] at hb
          rw [hb] at h; exact h)
        go_wp2_with fail
        refine (hasR_any x k _).mono ?_
        rintro e w1 ⟨rfl, hb1⟩
        have hO1 := own_below HO.out hb1 (by omega)
        have hB1 := (show Hid _ from HB.out.trans (hb1.mono (by omega)))
        have hX1 := (show Hid _ from HX.out.below hb1 (by omega))
        have hsz1 : w.heap.size < w1.heap.size := hX1.out.lt
        have hlen : (bysTo x k).length ≤ 256 := by rw [bysTo_len]; omega
        clear c0 c1 c2 c3 f0 f1 f2 f3 HO HX HB hb1
        go_wp2_with (at_builtin; refine wpList_append_own _ rfl _ _ 48 rfl (w.heap.size + 1) 5 i0 (.int .u8 0) 1 1 Tryz.underlying48 hi hz0 hz1 hz2 rfl (by decide) _ _ _ rfl (hO1.alloc _) ⟨w1.heap.size, 0, none⟩ 1 1 [.int .u8 k] rfl rfl (cell_one_new _ _ _) ?c2 ?c3 ?c4 ?c5 ?_)
        case c2 => intro u hu; simp at hu; subst hu; rfl
        case c3 => unfold maxLen; omega
        case c4 => omega
        case c5 => simp; omega
        intro v' w2 hown' hgrow _
        have hle := fun j e => (hO1.lt j e).1
        have hB2 := (show Hid _ from (hB1.out.alloc (by omega) (.cells #[.int .u8 k] 5)).grown hgrow (by simp; omega) (fun j e => by have := hle j e; omega))
        have hX2 := (show Hid _ from holds_grown (hX1.out.alloc (.cells #[.int .u8 k] 5)) hgrow (fun e => by have := hle _ e; omega))
        have hO2 := (show Hid _ from hown')
        clear hO1 hown' hgrow hle
        go_wp2
        go_roundw
        case rel =>
          refine ⟨k + 1, by omega, by go_num, ?_, hX2.out, hB2.out⟩
          rw [HE.out, List.length_append, List.map_append]
          exact hO2.out
        case measure => simp [intOf]; omega
    · obtain rfl : k = 256 := by omega
      have HT := (show Hid _ from text_own HO.out)
      clear hown hx hbel
      have ht := HT.out
      go_wp2
      go_ret
      exact ⟨rfl, HB.out⟩
end Go.Proofs.YthffklhojdldkaaGreatDoor

namespace Go.Proofs.YthffklhojdldkaaGreatDoor
open Go.RowKit Go.Shelf
attribute [local go_sem] Oper.semAt_some

/-- Block b is as it was. -/
def KeepB (b : Nat) (W W' : World) : Prop := W'.heap[b]? = W.heap[b]?
theorem KeepB.refl (b : Nat) (W : World) : KeepB b W W := rfl
theorem KeepB.trans {b : Nat} {A B C : World} (h : KeepB b A B) (k : KeepB b B C) : KeepB b A C := Eq.trans k h
theorem KeepB.put {b : Nat} {w : World} (hb : b < w.heap.size) (W : World) (l : Nat) (o o' : Obj) (hl : w.heap.size ≤ l) (_ : W.heap[l]? = some o) (_ : o.isCells = false) (_ : o.isWalk = false) : KeepB b W (W.putObj l o') := by
  by_cases h : b < W.heap.size
  · exact (grownBy_putObj' W l o').block b h (fun e => by cases e; omega)
  · have e1 : W.heap[b]? = none := Array.getElem?_eq_none (by omega)
    have e2 : (W.putObj l o').heap.size = W.heap.size := by simp [World.putObj]
    show (W.putObj l o').heap[b]? = W.heap[b]?
    rw [e1]; exact Array.getElem?_eq_none (by omega)
theorem KeepB.setCell {b : Nat} {W : World} {p : Addr} (h : b ≠ p.block) (u : Value) : KeepB b W (W.setCell p u) := Below.heap_setCell _ _ _ _ h
theorem KeepB.alloc {b : Nat} {W : World} (h : b < W.heap.size) (o : Obj) : KeepB b W (W.alloc o) := Below.heap_alloc _ _ _ h
theorem KeepB.below {b B : Nat} {W W' : World} (h : Below B W W') (hb : b < B) : KeepB b W W' := h.block b hb
theorem KeepB.grown {b : Nat} {W W' : World} {row : Option Nat} (h : W.grownBy W' row) (hb : b < W.heap.size) (hne : row ≠ some b) : KeepB b W W' := h.block b hb (fun e => hne e.symm)
theorem Holds.keep {w w' : World} {b : Nat} {x : BitVec 256} (h : Holds w b x) (e : KeepB b w w') : Holds w' b x := by
  have hl : b < w'.heap.size := by
    obtain ⟨o, h1⟩ : ∃ o, w.heap[b]? = some o := ⟨_, Array.getElem?_eq_getElem h.lt⟩
    have h2 : w'.heap[b]? = some o := Eq.trans e h1
    exact (Array.getElem?_eq_some_iff.1 h2).1
  exact ⟨hl, (World.cell?_of_block (a := ⟨b, 0, none⟩) e).trans h.c0, (World.cell?_of_block (a := ⟨b, 1, none⟩) e).trans h.c1, (World.cell?_of_block (a := ⟨b, 2, none⟩) e).trans h.c2, (World.cell?_of_block (a := ⟨b, 3, none⟩) e).trans h.c3,
    (World.frozen?_of_block (a := ⟨b, 0, none⟩) e).trans h.f0, (World.frozen?_of_block (a := ⟨b, 1, none⟩) e).trans h.f1, (World.frozen?_of_block (a := ⟨b, 2, none⟩) e).trans h.f2, (World.frozen?_of_block (a := ⟨b, 3, none⟩) e).trans h.f3⟩
/-- The bytes of x below k, rising, each with its bound. -/
def byf (x : BitVec 256) : Nat → List (Fin 256)
  | 0 => []
  | n + 1 => if h : n < 256 then (if x.getLsbD n then byf x n ++ [⟨n, h⟩] else byf x n) else byf x n
theorem byf_yes (x : BitVec 256) (n : Nat) (h : n < 256) (hb : x.getLsbD n = true) : byf x (n + 1) = byf x n ++ [⟨n, h⟩] := by
  rw [byf, dif_pos h, if_pos hb]
theorem byf_no (x : BitVec 256) (n : Nat) (h : n < 256) (hb : x.getLsbD n = false) : byf x (n + 1) = byf x n := by
  rw [byf, dif_pos h, hb]; rfl
theorem byf_val (x : BitVec 256) (k : Nat) (hk : k ≤ 256) : (byf x k).map (fun b => (b.val : Int)) = bysTo x k := by
  induction k with
  | zero => rfl
  | succ n ih =>
    rw [bysTo_succ]
    cases hb : x.getLsbD n
    · rw [byf_no x n (by omega) hb, ih (by omega)]; rfl
    · rw [byf_yes x n (by omega) hb, List.map_append, ih (by omega)]; rfl
theorem byf_len (x : BitVec 256) (k : Nat) (hk : k ≤ 256) : (byf x k).length = cntTo x.getLsbD k := by
  rw [← bysTo_len, ← byf_val x k hk, List.length_map]
theorem byf_mono (x : BitVec 256) (k m : Nat) (h : k ≤ m) : byf x k <+: byf x m := by
  induction m with
  | zero => obtain rfl : k = 0 := by omega
            exact List.prefix_refl _
  | succ m ih =>
    by_cases e : k = m + 1
    · subst e; exact List.prefix_refl _
    · refine (ih (by omega)).trans ?_
      rw [byf]
      split
      · split
        · exact List.prefix_append _ _
        · exact List.prefix_refl _
      · exact List.prefix_refl _
theorem byf_pre (x : BitVec 256) (k : Nat) (h : k ≤ 256) {l : List (Fin 256)} (e : byf x k = l) : l <+: byf x 256 := by
  rw [← e]; exact byf_mono x k 256 h
theorem grown_below {W W' : World} (hb : Below W.heap.size W W') : W.grownBy W' none := ⟨hb.os, hb.tape, hb.output, hb.size, fun k hk _ => hb.block k hk⟩

set_option maxRecDepth 100000 in
set_option maxHeartbeats 1000000 in
theorem each1_in (n : Nat) (hn : 1 ≤ n) (l Bn B0 : Nat) (x : BitVec 256) (J Jx : List (Fin 256) → World → Prop) (hJ : AbidesFrom B0 J)
    (hY : ∀ pre b W, J pre W → pre.length < 256 → YieldAt Fence.wide (n - 1) Tryz.prog l #[.int .i64 (b.val : Int)] W fun e W' =>
      (e = .returned (.bool true) ∧ J (pre ++ [b]) W' ∧ KeepB Bn W W') ∨ (e = .returned (.bool false) ∧ Jx (pre ++ [b]) W'))
    (W : World) (hX : Holds W Bn x) (h0 : J [] W) :
    CallsIn Fence.wide n Tryz.prog 114 #[.func (.yield l) #[] #[], .pointer (some ⟨Bn, 0, none⟩)] W fun e W' => (∃ v, e = .returned v) ∧
      ((∃ ys, ys = byf x 256 ∧ J ys W') ∨ (∃ pre, pre <+: byf x 256 ∧ Jx pre W')) := by
  refine callsIn_of_wp Tryz.func114 rfl trivial ?_ rfl
  simp only [Tryz.ntmps114, List.size_toArray, List.length_cons, List.length_nil, Nat.reduceAdd, Nat.reduceSub, Array.replicate_succ, Array.replicate_zero, List.push_toArray, List.append_toArray, List.nil_append, List.cons_append]
  gi_wp2
  gi_loopw [4] (fun t wr => ∃ k : Nat, k ≤ 256 ∧ t = .int .i64 k ∧ J (byf x k) wr ∧ Holds wr Bn x) (fun t _ => 256 - (intOf t).toNat)
  case atStart => exact ⟨0, by omega, rfl, h0, hX⟩
  case round =>
    obtain ⟨k, hk, rfl, hj, hx⟩ := hrel
    have HX := (show Hid _ from hx)
    have HJ := (show Hid _ from hj)
    by_cases hlt : k < 256
    · obtain ⟨l0, c0, c1, c2, c3, f0, f1, f2, f3⟩ := hx
      have hd : decide ((k : Int) < 256) = true := decide_eq_true (by omega)
      have HG := (show Hid _ from hasB_yes x k (by omega) (by omega))
      have hlen : (byf x k).length < 256 := by have := cntTo_le x.getLsbD k; rw [byf_len x k hk]; omega
      clear hj
      cases hb : hasB x k
      · have HE : Hid (byf x (k + 1) = byf x k) := (by
          rw [HG.out, Int.toNat_natCast] at hb
          exact byf_no x k hlt hb)
        gi_wp2_with fail
        refine ⟨trivial, (callsIn_wide.2 (has_any x k _)).mono ?_⟩
        rintro e W1 ⟨rfl, hb1⟩
        have hX1 := (show Hid _ from HX.out.below hb1 l0)
        have hJ1 := (show Hid _ from hJ _ _ _ none HJ.out (grown_below hb1) (fun r e => by cases e))
        clear hb1
        gi_wp2
        refine ⟨fun _ h => (by cases h), ?_⟩
        gi_wp2
        go_roundw
        case rel => exact ⟨k + 1, by omega, by go_num, (by rw [HE.out]; exact hJ1.out), hX1.out⟩
        case measure => simp [intOf]; omega
      · have HE : Hid (byf x (k + 1) = byf x k ++ [⟨k, hlt⟩]) := (by
          rw [HG.out, Int.toNat_natCast] at hb
          exact byf_yes x k hlt hb)
        gi_wp2_with fail
        refine ⟨trivial, (callsIn_wide.2 (has_any x k _)).mono ?_⟩
        rintro e W1 ⟨rfl, hb1⟩
        have hX1 := (show Hid _ from HX.out.below hb1 l0)
        have hJ1 := hJ _ _ _ none HJ.out (grown_below hb1) (fun r e => by cases e)
        clear hb1
        obtain ⟨fn, tmps, assign, body, hy, hR⟩ := hY (byf x k) ⟨k, hlt⟩ W1 hJ1 hlen
        dsimp only at hy
        clear hJ1
        gi_wp2
        refine hR.mono ?_
        rintro e W3 (⟨rfl, hJ3, hk3⟩ | ⟨rfl, hJx3⟩)
        · have hX3 := (show Hid _ from hX1.out.keep hk3)
          gi_wp2
          go_roundw
          case rel => exact ⟨k + 1, by omega, by go_num, (by rw [HE.out]; exact hJ3), hX3.out⟩
          case measure => simp [intOf]; omega
        · gi_wp2
          refine bodyPost_ret (results_none rfl _ _ _) rfl ?_
          exact ⟨⟨_, rfl⟩, .inr ⟨_, byf_pre x (k + 1) (by omega) HE.out, hJx3⟩⟩
    · obtain rfl : k = 256 := by omega
      have hd : decide (((256 : Nat) : Int) < 256) = false := by simp
      gi_wp2
      go_end0
      exact ⟨⟨_, rfl⟩, .inl ⟨_, rfl, hj⟩⟩

set_option maxHeartbeats 1000000 in
/-- Each: the set is boxed; the function value captures the box. -/
theorem each_in (n : Nat) (x : BitVec 256) (w : World) :
    CallsIn Fence.wide n Tryz.prog 92 #[sv x] w fun e w' => e = .returned (.func (.func 114) #[] #[.pointer (some ⟨w.heap.size, 0, none⟩)]) ∧ w' = w.alloc (c4 x) := by
  refine callsIn_of_wp Tryz.func92 rfl trivial ?_ rfl
  simp only [Tryz.ntmps92, List.size_toArray, List.length_cons, List.length_nil, Nat.reduceAdd, Nat.reduceSub, Array.replicate_succ, Array.replicate_zero, List.push_toArray, List.append_toArray, List.nil_append, List.cons_append]
  gi_wp2
  go_ret
  exact ⟨rfl, rfl⟩

/-- What Each hands back goes over the set's bytes, or over the first of them. -/
theorem each_stops (n : Nat) (hn : 1 ≤ n) (Bn : Nat) (x : BitVec 256) (w : World) (hX : Holds w Bn x) :
    SeqStopsK Fence.wide n Tryz.prog 114 #[.pointer (some ⟨Bn, 0, none⟩)] (fun b : Fin 256 => #[Value.int .i64 (b.val : Int)]) (KeepB Bn) (fun ys => ys = byf x 256) (fun pre => pre <+: byf x 256) 256 w := fun l J Jx W hW hJ _ hY h0 =>
  each1_in n hn l Bn W.heap.size x J Jx hJ hY W (hX.below hW hX.lt) h0
end Go.Proofs.YthffklhojdldkaaGreatDoor

namespace Go.Proofs.YthffklhojdldkaaGreatDoor
open Go.RowKit
set_option maxHeartbeats 1000000 in
theorem withR_any (x : BitVec 256) (b : Int) (w : World) (h0 : 0 ≤ b) (h1 : b ≤ 255) :
    Calls Tryz.prog 62 #[sv x, .int .i64 b] w fun e w' => e = .returned (sv (x ||| bt b.toNat)) ∧ Below w.heap.size w w' := by
  have hq : b / 64 = 0 ∨ b / 64 = 1 ∨ b / 64 = 2 ∨ b / 64 = 3 := by omega
  have hr : IntKind.i64.wrap (b.tmod 64) = b % 64 := by rw [Int.tmod_eq_emod_of_nonneg h0, IntKind.wrap_i64]; omega
  have hr0 : 0 ≤ b % 64 := by omega
  have hr1 : b % 64 < 64 := by omega
  have hp := pw_of b h0
  rcases hq with hq | hq | hq | hq
  · have hs := (show Hid _ from wds_with x b h0 h1 0 hq)
    have t1 : IntKind.i64.wrap (b.tdiv 64) = 0 := by rw [wrap_quo b h0 h1]; exact hq
    go_enter Tryz.func62, Tryz.ntmps62
    go_wp2
    go_region
    all_goals
      go_wp2
      replace hs := hs.out
      exact bodyPost_ret (v := .agg #[.int .u64 (bits BinOp.or IntKind.u64 (wd x 0) (pw b.toNat)), .int .u64 (wd x 1), .int .u64 (wd x 2), .int .u64 (wd x 3)]) (by simp [results, Tryz.results62, go_sem]) rfl ⟨ret_sv hs.1 (hs.2 1 (by omega)) (hs.2 2 (by omega)) (hs.2 3 (by omega)), (((Below.refl _ _).alloc (Nat.le_refl _) _).alloc (by simp) _).drew⟩
  · have hs := (show Hid _ from wds_with x b h0 h1 1 hq)
    have t1 : IntKind.i64.wrap (b.tdiv 64) = 1 := by rw [wrap_quo b h0 h1]; exact hq
    go_enter Tryz.func62, Tryz.ntmps62
    go_wp2
    go_region
    all_goals
      go_wp2
      replace hs := hs.out
      exact bodyPost_ret (v := .agg #[.int .u64 (wd x 0), .int .u64 (bits BinOp.or IntKind.u64 (wd x 1) (pw b.toNat)), .int .u64 (wd x 2), .int .u64 (wd x 3)]) (by simp [results, Tryz.results62, go_sem]) rfl ⟨ret_sv (hs.2 0 (by omega)) hs.1 (hs.2 2 (by omega)) (hs.2 3 (by omega)), (((Below.refl _ _).alloc (Nat.le_refl _) _).alloc (by simp) _).drew⟩
  · have hs := (show Hid _ from wds_with x b h0 h1 2 hq)
    have t1 : IntKind.i64.wrap (b.tdiv 64) = 2 := by rw [wrap_quo b h0 h1]; exact hq
    go_enter Tryz.func62, Tryz.ntmps62
    go_wp2
    go_region
    all_goals
      go_wp2
      replace hs := hs.out
      exact bodyPost_ret (v := .agg #[.int .u64 (wd x 0), .int .u64 (wd x 1), .int .u64 (bits BinOp.or IntKind.u64 (wd x 2) (pw b.toNat)), .int .u64 (wd x 3)]) (by simp [results, Tryz.results62, go_sem]) rfl ⟨ret_sv (hs.2 0 (by omega)) (hs.2 1 (by omega)) hs.1 (hs.2 3 (by omega)), (((Below.refl _ _).alloc (Nat.le_refl _) _).alloc (by simp) _).drew⟩
  · have hs := (show Hid _ from wds_with x b h0 h1 3 hq)
    have t1 : IntKind.i64.wrap (b.tdiv 64) = 3 := by rw [wrap_quo b h0 h1]; exact hq
    go_enter Tryz.func62, Tryz.ntmps62
    go_wp2
    go_region
    all_goals
      go_wp2
      replace hs := hs.out
      exact bodyPost_ret (v := .agg #[.int .u64 (wd x 0), .int .u64 (wd x 1), .int .u64 (wd x 2), .int .u64 (bits BinOp.or IntKind.u64 (wd x 3) (pw b.toNat))]) (by simp [results, Tryz.results62, go_sem]) rfl ⟨ret_sv (hs.2 0 (by omega)) (hs.2 1 (by omega)) (hs.2 2 (by omega)) hs.1, (((Below.refl _ _).alloc (Nat.le_refl _) _).alloc (by simp) _).drew⟩
end Go.Proofs.YthffklhojdldkaaGreatDoor
