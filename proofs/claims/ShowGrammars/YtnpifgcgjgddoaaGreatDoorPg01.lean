/- DERIVED. Plain mathematics and walks, laid together (1). -/
import Derived.Shelf.Small.Utf8
import Derived.Shelf.Strings.Builder1
import Derived.Shelf.Small.Strs
import Derived.Shelf.Strings.BuilderF
import Derived.Shelf.Strings.BuilderK
import Derived.Shelf.Strconv.Itoa0
import Derived.Shelf.Strconv.Itoa1
import Derived.Shelf.LaysM
import Derived.Shelf.Strconv.Itoa2
import Derived.Shelf.Strconv.Itoa3
import Derived.Shelf.Strconv.Itoa4
import Derived.Shelf.Strings.Search1
import Derived.Shelf.Strings.Prefix
import Derived.Shelf.Strings.BuilderCap
import Derived.Test.YtnpifgcgjgddoaaGreatDoorProg
import Derived.WalkKit
import Derived.Test.YtnpifgcgjgddoaaGreatDoorRows
import Derived.WalkSpells
import Derived.WalkLawsBesides
import Derived.Deep.QuietTactic
import Derived.BigQuiet
import Derived.Deep.RegionHeld3
import Derived.Maps.AppendAt
import Derived.RangeFuncNested
import Derived.RangeFuncBound
import Derived.RangeFuncCalls
import Derived.RangeFuncLeaves
import Derived.RangeFuncFrom
import Derived.Shelf.Abstract
import Derived.Shelf.RegionOpen
import Derived.OwnWalkIn
import Derived.TacticsInMore
import Derived.LoopNIn
import Derived.LoopIn
import Derived.LoopN
import Derived.RangeFuncBox
import Derived.Lib.Builder
namespace Go.Proofs
open Go.Shelf
def Tryz.lays170_ren : Go.Shelf.Ren := ⟨fun | 170 => 50 | n => n, fun | 70 => 54 | 3 => 3 | 0 => 0 | 72 => 57 | 37 => 55 | 5 => 5 | n => n, fun | n => n⟩
theorem Tryz.lays170 : Go.Proofs.Lays.n170 Tryz.prog Tryz.lays170_ren := {
  mixed := by kernel_rfl
  f170 := Tryz.func50.trans (congrArg some (by kernel_rfl))
  t0 := Tryz.underlying0
  a0 := Tryz.isAgg0
  z0 := Tryz.sizeOf0
  v0 := Tryz.zeroValue0
  t3 := Tryz.underlying3
  a3 := Tryz.isAgg3
  z3 := Tryz.sizeOf3
  v3 := Tryz.zeroValue3
  t37 := Tryz.underlying55
  a37 := Tryz.isAgg55
  z37 := Tryz.sizeOf55
  v37 := Tryz.zeroValue55
  t70 := Tryz.underlying54
  a70 := Tryz.isAgg54
  z70 := Tryz.sizeOf54
  v70 := Tryz.zeroValue54
  t72 := Tryz.underlying57
  a72 := Tryz.isAgg57
  z72 := Tryz.sizeOf57
  v72 := Tryz.zeroValue57 }
open Go.RowKit in
theorem Tryz.Builder_Len (B b : Nat) (bs : List Value) (w : World) (h : Lib.IsBuilder 57 5 B b bs w) :
    Calls Tryz.prog 50 #[.pointer (some ⟨b, 0, none⟩)] w fun e w' => e = .returned (.int .i64 bs.length) ∧ w' = w := Any.Builder_Len Tryz.lays170 B b bs w h
def Tryz.lays169_ren : Go.Shelf.Ren := ⟨fun | 169 => 51 | n => n, fun | 70 => 54 | 9 => 9 | 0 => 0 | 72 => 57 | 37 => 55 | 127 => 128 | 3 => 3 | 5 => 5 | n => n, fun | n => n⟩
theorem Tryz.lays169 : Go.Proofs.Lays.n169 Tryz.prog Tryz.lays169_ren := {
  mixed := by kernel_rfl
  f169 := Tryz.func51.trans (congrArg some (by kernel_rfl))
  t0 := Tryz.underlying0
  a0 := Tryz.isAgg0
  z0 := Tryz.sizeOf0
  v0 := Tryz.zeroValue0
  t3 := Tryz.underlying3
  a3 := Tryz.isAgg3
  z3 := Tryz.sizeOf3
  v3 := Tryz.zeroValue3
  t9 := Tryz.underlying9
  a9 := Tryz.isAgg9
  z9 := Tryz.sizeOf9
  v9 := Tryz.zeroValue9
  t37 := Tryz.underlying55
  a37 := Tryz.isAgg55
  z37 := Tryz.sizeOf55
  v37 := Tryz.zeroValue55
  t70 := Tryz.underlying54
  a70 := Tryz.isAgg54
  z70 := Tryz.sizeOf54
  v70 := Tryz.zeroValue54
  t72 := Tryz.underlying57
  a72 := Tryz.isAgg57
  z72 := Tryz.sizeOf57
  v72 := Tryz.zeroValue57
  t127 := Tryz.underlying128
  a127 := Tryz.isAgg128
  z127 := Tryz.sizeOf128
  v127 := Tryz.zeroValue128 }
theorem Tryz.Builder_Extra_169 : Builder.Extra Tryz.prog Tryz.lays169_ren := {
  sizeBuilder := by kernel_rfl
  liesBuilder := by kernel_rfl
  t5 := Tryz.underlying5
  a5 := Tryz.isAgg5
  z5 := Tryz.sizeOf5
  v5 := Tryz.zeroValue5
  infoByte := by kernel_rfl
  cellsByte := by kernel_rfl
  sizeByte := by kernel_rfl
  neB5 := by decide }
open Go.RowKit in
theorem Tryz.Builder_String_any (B b : Nat) (l : List UInt8) (w : World) (h : Lib.IsBuilder 57 5 B b (Lib.byteCells l) w) (hBw : B ≤ w.heap.size) :
    Calls Tryz.prog 51 #[.pointer (some ⟨b, 0, none⟩)] w fun e w' => e = .returned (.string ⟨l.toArray⟩) ∧ Below B w w' := Any.Builder_String_any Tryz.lays169 Tryz.Builder_Extra_169 B b l w h hBw
def Tryz.lays171_ren : Go.Shelf.Ren := ⟨fun | 171 => 102 | 243 => 128 | 246 => 152 | 283 => 169 | 284 => 170 | 285 => 171 | 286 => 172 | 129 => 192 | 317 => 191 | 318 => 193 | 319 => 194 | 320 => 195 | 337 => 205 | 338 => 206 | n => n, fun | 3 => 3 | 9 => 9 | 2 => 2 | 4 => 4 | 171 => 186 | 0 => 0 | 53 => 47 | 37 => 55 | 5 => 5 | 173 => 189 | 212 => 202 | 51 => 203 | 20 => 20 | 213 => 204 | 46 => 205 | 232 => 211 | 233 => 212 | n => n, fun | 17 => 2 | 18 => 4 | 19 => 5 | n => n⟩
theorem Tryz.lays171 : Go.Proofs.Lays.n171 Tryz.prog Tryz.lays171_ren := {
  mixed := by kernel_rfl
  f129 := Tryz.func192.trans (congrArg some (by kernel_rfl))
  f171 := Tryz.func102.trans (congrArg some (by kernel_rfl))
  f243 := Tryz.func128.trans (congrArg some (by kernel_rfl))
  f246 := Tryz.func152.trans (congrArg some (by kernel_rfl))
  f283 := Tryz.func169.trans (congrArg some (by kernel_rfl))
  f284 := Tryz.func170.trans (congrArg some (by kernel_rfl))
  f285 := Tryz.func171.trans (congrArg some (by kernel_rfl))
  f286 := Tryz.func172.trans (congrArg some (by kernel_rfl))
  f317 := Tryz.func191.trans (congrArg some (by kernel_rfl))
  f318 := Tryz.func193.trans (congrArg some (by kernel_rfl))
  f319 := Tryz.func194.trans (congrArg some (by kernel_rfl))
  f320 := Tryz.func195.trans (congrArg some (by kernel_rfl))
  f337 := Tryz.func205.trans (congrArg some (by kernel_rfl))
  f338 := Tryz.func206.trans (congrArg some (by kernel_rfl))
  t0 := Tryz.underlying0
  a0 := Tryz.isAgg0
  z0 := Tryz.sizeOf0
  v0 := Tryz.zeroValue0
  t2 := Tryz.underlying2
  a2 := Tryz.isAgg2
  z2 := Tryz.sizeOf2
  v2 := Tryz.zeroValue2
  t3 := Tryz.underlying3
  a3 := Tryz.isAgg3
  z3 := Tryz.sizeOf3
  v3 := Tryz.zeroValue3
  t4 := Tryz.underlying4
  a4 := Tryz.isAgg4
  z4 := Tryz.sizeOf4
  v4 := Tryz.zeroValue4
  t5 := Tryz.underlying5
  a5 := Tryz.isAgg5
  z5 := Tryz.sizeOf5
  v5 := Tryz.zeroValue5
  t9 := Tryz.underlying9
  a9 := Tryz.isAgg9
  z9 := Tryz.sizeOf9
  v9 := Tryz.zeroValue9
  t20 := Tryz.underlying20
  a20 := Tryz.isAgg20
  z20 := Tryz.sizeOf20
  v20 := Tryz.zeroValue20
  t37 := Tryz.underlying55
  a37 := Tryz.isAgg55
  z37 := Tryz.sizeOf55
  v37 := Tryz.zeroValue55
  t46 := Tryz.underlying205
  a46 := Tryz.isAgg205
  z46 := Tryz.sizeOf205
  v46 := Tryz.zeroValue205
  t51 := Tryz.underlying203
  a51 := Tryz.isAgg203
  z51 := Tryz.sizeOf203
  v51 := Tryz.zeroValue203
  t53 := Tryz.underlying47
  a53 := Tryz.isAgg47
  z53 := Tryz.sizeOf47
  v53 := Tryz.zeroValue47
  t171 := Tryz.underlying186
  a171 := Tryz.isAgg186
  z171 := Tryz.sizeOf186
  v171 := Tryz.zeroValue186
  t173 := Tryz.underlying189
  a173 := Tryz.isAgg189
  z173 := Tryz.sizeOf189
  v173 := Tryz.zeroValue189
  t212 := Tryz.underlying202
  a212 := Tryz.isAgg202
  z212 := Tryz.sizeOf202
  v212 := Tryz.zeroValue202
  t213 := Tryz.underlying204
  a213 := Tryz.isAgg204
  z213 := Tryz.sizeOf204
  t232 := Tryz.underlying211
  a232 := Tryz.isAgg211
  z232 := Tryz.sizeOf211
  v232 := Tryz.zeroValue211
  t233 := Tryz.underlying212
  a233 := Tryz.isAgg212
  z233 := Tryz.sizeOf212
  v233 := Tryz.zeroValue212
  g17 := by kernel_rfl
  g18 := by kernel_rfl
  g19 := by kernel_rfl }
open Go.RowKit Go.Sort Go.Lib in
theorem Tryz.strconv_Itoa_small (i : Nat) (hi : i < 100) (w : World) :
    Calls Tryz.prog 102 #[.int .i64 i] w fun e w' => e = .returned (.string ⟨(Lib.decDigits i).toArray⟩) ∧ w' = w := Any.strconv_Itoa_small Tryz.lays171 i hi w
end Go.Proofs

namespace Go.Proofs.YtnpifgcgjgddoaaGreatDoor
open Go.RowKit
/-- Word i of a set. -/
def wd (x : BitVec 256) (i : Nat) : Int := ((x.extractLsb' (64 * i) 64).toNat : Int)

/-- The set of one byte. -/
def bt (b : Nat) : BitVec 256 := 1#256 <<< b

theorem wd_lo (x : BitVec 256) (i : Nat) : 0 ≤ wd x i := by unfold wd; omega
theorem wd_hi (x : BitVec 256) (i : Nat) : wd x i < 18446744073709551616 := by
  unfold wd; have := (x.extractLsb' (64 * i) 64).isLt; omega
theorem wd_toNat (x : BitVec 256) (i : Nat) : (wd x i).toNat = (x.extractLsb' (64 * i) 64).toNat := by unfold wd; omega
theorem wd_testBit (x : BitVec 256) (i j : Nat) : (wd x i).toNat.testBit j = (decide (j < 64) && x.getLsbD (64 * i + j)) := by
  rw [wd_toNat, BitVec.testBit_toNat, BitVec.getLsbD_extractLsb']

theorem wd_of_testBit (x : BitVec 256) (i : Nat) (n : Int) (h0 : 0 ≤ n) (h : ∀ j, n.toNat.testBit j = (decide (j < 64) && x.getLsbD (64 * i + j))) : n = wd x i := by
  have : n.toNat = (wd x i).toNat := Nat.eq_of_testBit_eq fun j => by rw [h j, wd_testBit]
  have := wd_lo x i
  omega

theorem wd_and (x y : BitVec 256) (i : Nat) : bits .and .u64 (wd x i) (wd y i) = wd (x &&& y) i := by
  rw [u64_and _ _ (wd_lo _ _) (wd_hi _ _) (wd_lo _ _) (wd_hi _ _)]
  refine wd_of_testBit _ _ _ (by omega) fun j => ?_
  rw [Int.toNat_natCast, Nat.testBit_and, wd_testBit, wd_testBit, BitVec.getLsbD_and]
  cases decide (j < 64) <;> simp

theorem bt_get (b j : Nat) (hb : b < 256) : (bt b).getLsbD j = decide (j = b) := by
  unfold bt
  rw [BitVec.getLsbD_shiftLeft]
  by_cases h : j = b
  · subst h; simp [hb]
  · by_cases h1 : j < b
    · simp [h1, h]
    · by_cases h2 : j < 256
      · have : j - b ≠ 0 := by omega
        simp [h, h2, BitVec.getLsbD_one, this]
      · simp [h, h2]

/-- The word of one bit, as the walk writes it. -/
theorem pow_wrap (k : Nat) (h : k < 64) : IntKind.u64.wrap (2 ^ k) = ((2 ^ k : Nat) : Int) := by
  rw [IntKind.wrap_u64]
  have h1 : 2 ^ k < 2 ^ 64 := Nat.pow_lt_pow_right (by omega) h
  have h2 : ((2 ^ k : Nat) : Int) = (2 : Int) ^ k := by simp
  rw [← h2]
  generalize 2 ^ k = n at *
  omega

theorem wd_bt_same (b i : Nat) (hb : b < 256) (hi : b / 64 = i) : wd (bt b) i = ((2 ^ (b % 64) : Nat) : Int) := by
  refine (wd_of_testBit _ _ _ (Int.natCast_nonneg _) fun j => ?_).symm
  rw [Int.toNat_natCast, Nat.testBit_two_pow, bt_get _ _ hb]
  by_cases h : b % 64 = j
  · have : j < 64 := by omega
    have h2 : 64 * i + j = b := by omega
    simp [h, this, h2]
  · by_cases h3 : j < 64
    · have h2 : ¬ 64 * i + j = b := by omega
      simp [h, h2]
    · simp [h, h3]
theorem has_and (x : BitVec 256) (b i : Nat) (hb : b < 256) (hi : b / 64 = i) : (bits .and .u64 (wd x i) (((2 ^ (b % 64) : Nat) : Int)) != 0) = x.getLsbD b := by
  rw [← wd_bt_same b i hb hi, wd_and]
  cases h : x.getLsbD b with
  | true =>
    have h1 : (wd (x &&& bt b) i).toNat.testBit (b % 64) = true := by
      rw [wd_testBit, BitVec.getLsbD_and, bt_get _ _ hb]
      have : 64 * i + b % 64 = b := by omega
      simp [this, h]; omega
    rw [bne_iff_ne]
    intro h2
    rw [h2] at h1
    simp at h1
  | false =>
    have : wd (x &&& bt b) i = 0 := by
      refine (wd_of_testBit _ _ _ (by omega) fun j => ?_).symm
      rw [BitVec.getLsbD_and, bt_get _ _ hb]
      by_cases h2 : 64 * i + j = b
      · simp [h2, h]
      · simp [h2]
    rw [this]; rfl

theorem has_shr (x : BitVec 256) (b i : Nat) (hi : b / 64 = i) : (wd x i).toNat / 2 ^ (b % 64) % 2 = (x.getLsbD b).toNat := by
  have h := wd_testBit x i (b % 64)
  have h2 : 64 * i + b % 64 = b := by omega
  have h3 : b % 64 < 64 := by omega
  rw [h2] at h
  simp only [h3, decide_true, Bool.true_and] at h
  rw [← h, Nat.testBit_eq_decide_div_mod_eq]
  have := Nat.mod_two_eq_zero_or_one ((wd x i).toNat / 2 ^ (b % 64))
  rcases this with e | e <;> simp [e]

theorem set_ext (x y : BitVec 256) (h0 : wd x 0 = wd y 0) (h1 : wd x 1 = wd y 1) (h2 : wd x 2 = wd y 2) (h3 : wd x 3 = wd y 3) : x = y := by
  apply BitVec.eq_of_getLsbD_eq
  intro j hj
  have key : ∀ i, wd x i = wd y i → j / 64 = i → x.getLsbD j = y.getLsbD j := fun i e hi => by
    have a := wd_testBit x i (j % 64)
    rw [e, wd_testBit] at a
    have e1 : 64 * i + j % 64 = j := by omega
    have e2 : j % 64 < 64 := by omega
    rw [e1] at a
    simpa [e2] using a.symm
  have : j / 64 = 0 ∨ j / 64 = 1 ∨ j / 64 = 2 ∨ j / 64 = 3 := by omega
  rcases this with e | e | e | e
  · exact key 0 h0 e
  · exact key 1 h1 e
  · exact key 2 h2 e
  · exact key 3 h3 e

/-- The word of one bit. -/
def pw (n : Nat) : Int := ((2 ^ (n % 64) : Nat) : Int)
theorem pw_of (b : Int) (h0 : 0 ≤ b) : IntKind.u64.wrap (2 ^ (b % 64).toNat) = pw b.toNat := by
  rw [pow_wrap _ (by omega), show (b % 64).toNat = b.toNat % 64 from by omega]; rfl
theorem wrap_quo (b : Int) (h0 : 0 ≤ b) (h1 : b ≤ 255) : IntKind.i64.wrap (b.tdiv 64) = b / 64 := by
  rw [Int.tdiv_eq_ediv_of_nonneg h0, IntKind.wrap_i64]; omega
end Go.Proofs.YtnpifgcgjgddoaaGreatDoor

namespace Go.Proofs.YtnpifgcgjgddoaaGreatDoor
open Go.RowKit
set_option maxHeartbeats 400000 in
theorem isByte_any (b : Int) (w : World) :
    Calls Tryz.prog 189 #[.int .i64 b] w fun e w' => e = .returned (.bool (decide (0 ≤ b) && decide (b ≤ 255))) ∧ w' = w := by
  by_cases h0 : 0 ≤ b
  · have hd : decide (0 ≤ b) = true := by simpa using h0
    go_enter Tryz.func189, Tryz.ntmps189
    go_wp2
    go_ret
    exact ⟨by simp [h0], rfl⟩
  · have hd : decide (0 ≤ b) = false := by simpa using h0
    go_enter Tryz.func189, Tryz.ntmps189
    go_wp2
    go_ret
    exact ⟨by simp, rfl⟩


abbrev sv (x : BitVec 256) : Value := .agg #[.int .u64 (wd x 0), .int .u64 (wd x 1), .int .u64 (wd x 2), .int .u64 (wd x 3)]

theorem ret_int {k : IntKind} {a b : Int} (h : a = b) : Ending.returned (.int k a) = .returned (.int k b) := by rw [h]

set_option maxHeartbeats 400000 in
theorem bit_any (b : Int) (w : World) (h0 : 0 ≤ b) (h1 : b ≤ 255) :
    Calls Tryz.prog 190 #[.int .i64 b] w fun e w' => e = .returned (.int .u64 (pw b.toNat)) ∧ w' = w := by
  go_enter Tryz.func190, Tryz.ntmps190
  go_wp2
  go_ret
  exact ⟨ret_int (pw_of b h0), rfl⟩

theorem ret_sv {a b c d : Int} {y : BitVec 256} (h0 : a = wd y 0) (h1 : b = wd y 1) (h2 : c = wd y 2) (h3 : d = wd y 3) : Ending.returned (.agg #[.int .u64 a, .int .u64 b, .int .u64 c, .int .u64 d]) = .returned (sv y) := by
  rw [h0, h1, h2, h3]
end Go.Proofs.YtnpifgcgjgddoaaGreatDoor

namespace Go.Proofs.YtnpifgcgjgddoaaGreatDoor
open Go.RowKit
/-- Block b holds the set x, and may be written. -/
structure Holds (w : World) (b : Nat) (x : BitVec 256) : Prop where
  lt : b < w.heap.size
  c0 : w.cell? ⟨b, 0, none⟩ = some (.int .u64 (wd x 0))
  c1 : w.cell? ⟨b, 1, none⟩ = some (.int .u64 (wd x 1))
  c2 : w.cell? ⟨b, 2, none⟩ = some (.int .u64 (wd x 2))
  c3 : w.cell? ⟨b, 3, none⟩ = some (.int .u64 (wd x 3))
  f0 : w.frozen? ⟨b, 0, none⟩ = false
  f1 : w.frozen? ⟨b, 1, none⟩ = false
  f2 : w.frozen? ⟨b, 2, none⟩ = false
  f3 : w.frozen? ⟨b, 3, none⟩ = false

theorem Holds.below {B : Nat} {w w' : World} {b : Nat} {x : BitVec 256} (h : Holds w b x) (hb : Below B w w') (hB : b < B) : Holds w' b x :=
  ⟨Nat.lt_of_lt_of_le h.lt hb.size, (hb.cell (p := ⟨b, 0, none⟩) hB).trans h.c0, (hb.cell (p := ⟨b, 1, none⟩) hB).trans h.c1, (hb.cell (p := ⟨b, 2, none⟩) hB).trans h.c2, (hb.cell (p := ⟨b, 3, none⟩) hB).trans h.c3, (hb.frozen (p := ⟨b, 0, none⟩) hB).trans h.f0, (hb.frozen (p := ⟨b, 1, none⟩) hB).trans h.f1, (hb.frozen (p := ⟨b, 2, none⟩) hB).trans h.f2, (hb.frozen (p := ⟨b, 3, none⟩) hB).trans h.f3⟩
theorem Holds.drew {w : World} {b : Nat} {x : BitVec 256} (h : Holds w b x) : Holds w.drew b x := h.below (Below.refl w.heap.size w).drew h.lt
theorem Holds.alloc {w : World} {b : Nat} {x : BitVec 256} (h : Holds w b x) (o : Obj) : Holds (w.alloc o) b x := h.below ((Below.refl w.heap.size w).alloc (Nat.le_refl _) o) h.lt
theorem Holds.new (w : World) (x : BitVec 256) : Holds (w.alloc (.cells #[.int .u64 (wd x 0), .int .u64 (wd x 1), .int .u64 (wd x 2), .int .u64 (wd x 3)] 49)) w.heap.size x := by
  constructor <;> simp [go_sem]

theorem wd_zero (i : Nat) : wd 0#256 i = 0 := by unfold wd; simp
/-- The set of the bytes below n that the test names. -/
def ofB (f : Nat → Bool) : Nat → BitVec 256
  | 0 => 0#256
  | n + 1 => if f n then ofB f n ||| bt n else ofB f n
theorem ofB_get (f : Nat → Bool) (n : Nat) (hn : n ≤ 256) (j : Nat) : (ofB f n).getLsbD j = (decide (j < n) && f j) := by
  induction n with
  | zero => simp [ofB]
  | succ n ih =>
    have ih := ih (by omega)
    unfold ofB
    by_cases h : f n = true
    · rw [if_pos h, BitVec.getLsbD_or, ih, bt_get _ _ (by omega)]
      by_cases e : j = n
      · subst e; simp [h]
      · have : decide (j < n + 1) = decide (j < n) := decide_eq_decide.2 (by omega)
        simp [e, this]
    · rw [if_neg h, ih]
      by_cases e : j = n
      · subst e; simp [h]
      · have : decide (j < n + 1) = decide (j < n) := decide_eq_decide.2 (by omega)
        simp [this]
theorem set_eq (x y : BitVec 256) (h : ∀ j, j < 256 → x.getLsbD j = y.getLsbD j) : x = y := BitVec.eq_of_getLsbD_eq h
/-- The bytes from lo to hi. -/
def spn (lo hi : Int) : BitVec 256 := ofB (fun j => decide (lo ≤ (j : Int))) (hi + 1).toNat
theorem spn_get (lo hi : Int) (h1 : hi ≤ 255) (j : Nat) : (spn lo hi).getLsbD j = (decide (lo ≤ (j : Int)) && decide ((j : Int) ≤ hi)) := by
  unfold spn
  rw [ofB_get _ _ (by omega)]
  have : decide (j < (hi + 1).toNat) = decide ((j : Int) ≤ hi) := decide_eq_decide.2 (by omega)
  rw [this, Bool.and_comm]
end Go.Proofs.YtnpifgcgjgddoaaGreatDoor

namespace Go.Proofs.YtnpifgcgjgddoaaGreatDoor
/-- How many numbers below n the test names. -/
def cntTo (f : Nat → Bool) : Nat → Nat
  | 0 => 0
  | n + 1 => cntTo f n + (f n).toNat
theorem cntTo_succ (f : Nat → Bool) (n : Nat) : cntTo f (n + 1) = cntTo f n + (f n).toNat := rfl
theorem cntTo_le (f : Nat → Bool) (n : Nat) : cntTo f n ≤ n := by
  induction n with
  | zero => exact Nat.le_refl _
  | succ n ih => unfold cntTo; cases f n <;> simp <;> omega
end Go.Proofs.YtnpifgcgjgddoaaGreatDoor

namespace Go.Proofs.YtnpifgcgjgddoaaGreatDoor
open Go.RowKit
def hasB (x : BitVec 256) (b : Int) : Bool := decide (0 ≤ b) && (decide (b ≤ 255) && x.getLsbD b.toNat)
theorem hasB_no (x : BitVec 256) (b : Int) (h : ¬ (0 ≤ b ∧ b ≤ 255)) : hasB x b = false := by
  unfold hasB
  by_cases h0 : 0 ≤ b
  · have : ¬ b ≤ 255 := fun h1 => h ⟨h0, h1⟩
    simp [this]
  · simp [h0]
theorem hasB_yes (x : BitVec 256) (b : Int) (h0 : 0 ≤ b) (h1 : b ≤ 255) : hasB x b = x.getLsbD b.toNat := by
  unfold hasB; simp [h0, h1]
theorem ret_bool {a b : Bool} (h : a = b) : Ending.returned (.bool a) = .returned (.bool b) := by rw [h]

set_option maxHeartbeats 1000000 in
theorem has_any (x : BitVec 256) (b : Int) (w : World) :
    Calls Tryz.prog 166 #[sv x, .int .i64 b] w fun e w' => e = .returned (.bool (hasB x b)) ∧ Below w.heap.size w w' := by
  by_cases hb : 0 ≤ b ∧ b ≤ 255
  · obtain ⟨h0, h1⟩ := hb
    have hi : (decide (0 ≤ b) && decide (b ≤ 255)) = true := by simp [h0, h1]
    have hy := (show Hid _ from hasB_yes x b h0 h1)
    have hq : b / 64 = 0 ∨ b / 64 = 1 ∨ b / 64 = 2 ∨ b / 64 = 3 := by omega
    rcases hq with hq | hq | hq | hq
    · have t1 : IntKind.i64.wrap (b.tdiv 64) = 0 := by rw [wrap_quo b h0 h1]; exact hq
      have hs := (show Hid _ from has_and x b.toNat 0 (by omega) (by omega))
      go_enter Tryz.func166, Tryz.ntmps166
      go_wp2
      go_quiet (first | (go_at_call 189; exact Calls.quiet_of_same (isByte_any _ _)) | (go_at_call 190; exact Calls.quiet_of_same (bit_any _ _ (by omega) (by omega))))
      go_wp2
      go_ret
      exact ⟨ret_bool (hs.out.trans hy.out.symm), below_drewN ((Below.refl _ _).alloc (Nat.le_refl _) _) _⟩
    · have t1 : IntKind.i64.wrap (b.tdiv 64) = 1 := by rw [wrap_quo b h0 h1]; exact hq
      have hs := (show Hid _ from has_and x b.toNat 1 (by omega) (by omega))
      go_enter Tryz.func166, Tryz.ntmps166
      go_wp2
      go_quiet (first | (go_at_call 189; exact Calls.quiet_of_same (isByte_any _ _)) | (go_at_call 190; exact Calls.quiet_of_same (bit_any _ _ (by omega) (by omega))))
      go_wp2
      go_ret
      exact ⟨ret_bool (hs.out.trans hy.out.symm), below_drewN ((Below.refl _ _).alloc (Nat.le_refl _) _) _⟩
    · have t1 : IntKind.i64.wrap (b.tdiv 64) = 2 := by rw [wrap_quo b h0 h1]; exact hq
      have hs := (show Hid _ from has_and x b.toNat 2 (by omega) (by omega))
      go_enter Tryz.func166, Tryz.ntmps166
      go_wp2
      go_quiet (first | (go_at_call 189; exact Calls.quiet_of_same (isByte_any _ _)) | (go_at_call 190; exact Calls.quiet_of_same (bit_any _ _ (by omega) (by omega))))
      go_wp2
      go_ret
      exact ⟨ret_bool (hs.out.trans hy.out.symm), below_drewN ((Below.refl _ _).alloc (Nat.le_refl _) _) _⟩
    · have t1 : IntKind.i64.wrap (b.tdiv 64) = 3 := by rw [wrap_quo b h0 h1]; exact hq
      have hs := (show Hid _ from has_and x b.toNat 3 (by omega) (by omega))
      go_enter Tryz.func166, Tryz.ntmps166
      go_wp2
      go_quiet (first | (go_at_call 189; exact Calls.quiet_of_same (isByte_any _ _)) | (go_at_call 190; exact Calls.quiet_of_same (bit_any _ _ (by omega) (by omega))))
      go_wp2
      go_ret
      exact ⟨ret_bool (hs.out.trans hy.out.symm), below_drewN ((Below.refl _ _).alloc (Nat.le_refl _) _) _⟩
  · have hi : (decide (0 ≤ b) && decide (b ≤ 255)) = false := by
      by_cases h0 : 0 ≤ b
      · have : ¬ b ≤ 255 := fun h1 => hb ⟨h0, h1⟩
        simp [this]
      · simp [h0]
    have hy := (show Hid _ from hasB_no x b hb)
    go_enter Tryz.func166, Tryz.ntmps166
    go_wp2
    go_quiet (first | (go_at_call 189; exact Calls.quiet_of_same (isByte_any _ _)) | (go_at_call 190; exact Calls.quiet_of_same (bit_any _ _ (by omega) (by omega))))
    go_wp2
    go_ret
    exact ⟨ret_bool hy.out.symm, below_drewN ((Below.refl _ _).alloc (Nat.le_refl _) _) _⟩

theorem has_shr' (x : BitVec 256) (b : Int) (h0 : 0 ≤ b) (i : Nat) (hi : b / 64 = (i : Int)) : (bits .and .u64 (wd x i / 2 ^ (b % 64).toNat) 1 == 1) = x.getLsbD b.toNat := by
  have h2 := has_shr x b.toNat i (by omega)
  obtain ⟨n, hn⟩ := Int.eq_ofNat_of_zero_le (wd_lo x i)
  have hlt := wd_hi x i
  rw [hn] at h2 hlt ⊢
  have e1 : (b % 64).toNat = b.toNat % 64 := by omega
  have e2 : (n : Int) / 2 ^ (b % 64).toNat = ((n / 2 ^ (b.toNat % 64) : Nat) : Int) := by rw [e1]; simp
  rw [e2, show (1 : Int) = ((1 : Nat) : Int) from rfl, u64_and_nat _ _ (Nat.lt_of_le_of_lt (Nat.div_le_self _ _) (by omega)) (by omega), nat_mask1]
  simp only [Int.toNat_natCast] at h2
  rw [h2]
  cases x.getLsbD b.toNat <;> rfl

set_option maxHeartbeats 1000000 in
theorem hasR_any (x : BitVec 256) (b : Int) (w : World) :
    Calls Tryz.prog 130 #[sv x, .int .i64 b] w fun e w' => e = .returned (.bool (hasB x b)) ∧ Below w.heap.size w w' := by
  by_cases h0 : 0 ≤ b
  · have d0 : decide (0 ≤ b) = true := by simpa using h0
    by_cases h1 : b ≤ 255
    · have d1 : decide (b ≤ 255) = true := by simpa using h1
      have hy := (show Hid _ from hasB_yes x b h0 h1)
      have hr : IntKind.i64.wrap (b.tmod 64) = b % 64 := by rw [Int.tmod_eq_emod_of_nonneg h0, IntKind.wrap_i64]; omega
      have hq : b / 64 = 0 ∨ b / 64 = 1 ∨ b / 64 = 2 ∨ b / 64 = 3 := by omega
      rcases hq with hq | hq | hq | hq
      · have t1 : IntKind.i64.wrap (b.tdiv 64) = 0 := by rw [wrap_quo b h0 h1]; exact hq
        have hs := (show Hid _ from has_shr' x b h0 0 hq)
        go_enter Tryz.func130, Tryz.ntmps130
        go_wp2
        go_ret
        exact ⟨ret_bool (hs.out.trans hy.out.symm), (Below.refl _ _).alloc (Nat.le_refl _) _⟩
      · have t1 : IntKind.i64.wrap (b.tdiv 64) = 1 := by rw [wrap_quo b h0 h1]; exact hq
        have hs := (show Hid _ from has_shr' x b h0 1 hq)
        go_enter Tryz.func130, Tryz.ntmps130
        go_wp2
        go_ret
        exact ⟨ret_bool (hs.out.trans hy.out.symm), (Below.refl _ _).alloc (Nat.le_refl _) _⟩
      · have t1 : IntKind.i64.wrap (b.tdiv 64) = 2 := by rw [wrap_quo b h0 h1]; exact hq
        have hs := (show Hid _ from has_shr' x b h0 2 hq)
        go_enter Tryz.func130, Tryz.ntmps130
        go_wp2
        go_ret
        exact ⟨ret_bool (hs.out.trans hy.out.symm), (Below.refl _ _).alloc (Nat.le_refl _) _⟩
      · have t1 : IntKind.i64.wrap (b.tdiv 64) = 3 := by rw [wrap_quo b h0 h1]; exact hq
        have hs := (show Hid _ from has_shr' x b h0 3 hq)
        go_enter Tryz.func130, Tryz.ntmps130
        go_wp2
        go_ret
        exact ⟨ret_bool (hs.out.trans hy.out.symm), (Below.refl _ _).alloc (Nat.le_refl _) _⟩
    · have d1 : decide (b ≤ 255) = false := by simpa using h1
      have hy := (show Hid _ from hasB_no x b (fun h => h1 h.2))
      go_enter Tryz.func130, Tryz.ntmps130
      go_wp2
      go_ret
      exact ⟨ret_bool hy.out.symm, (Below.refl _ _).alloc (Nat.le_refl _) _⟩
  · have d0 : decide (0 ≤ b) = false := by simpa using h0
    have hy := (show Hid _ from hasB_no x b (fun h => h0 h.1))
    go_enter Tryz.func130, Tryz.ntmps130
    go_wp2
    go_ret
    exact ⟨ret_bool hy.out.symm, (Below.refl _ _).alloc (Nat.le_refl _) _⟩
end Go.Proofs.YtnpifgcgjgddoaaGreatDoor

namespace Go.Proofs.YtnpifgcgjgddoaaGreatDoor
open Go.RowKit
/-- The bytes of x below k, rising. -/
def bysTo (x : BitVec 256) : Nat → List Int
  | 0 => []
  | n + 1 => if x.getLsbD n then bysTo x n ++ [(n : Int)] else bysTo x n
abbrev bys (x : BitVec 256) : List Int := bysTo x 256
/-- A list of numbers as a text. -/
def asText (l : List Int) : ByteArray := l.foldl (fun r n => r.push (UInt8.ofNat n.toNat)) ByteArray.empty
def cnt (x : BitVec 256) : Nat := cntTo x.getLsbD 256

theorem bysTo_succ (x : BitVec 256) (n : Nat) : bysTo x (n + 1) = if x.getLsbD n then bysTo x n ++ [(n : Int)] else bysTo x n := rfl
theorem bysTo_len (x : BitVec 256) (k : Nat) : (bysTo x k).length = cntTo x.getLsbD k := by
  induction k with
  | zero => rfl
  | succ n ih =>
    rw [bysTo_succ, cntTo_succ]
    cases h : x.getLsbD n <;> simp [ih]
theorem bys_len (x : BitVec 256) : (bys x).length = cnt x := bysTo_len x 256
theorem cnt_le (x : BitVec 256) : cnt x ≤ 256 := cntTo_le _ _
theorem bysTo_mem (x : BitVec 256) (k : Nat) (b : Int) : b ∈ bysTo x k ↔ 0 ≤ b ∧ b < k ∧ x.getLsbD b.toNat = true := by
  induction k with
  | zero => simp [bysTo]; omega
  | succ n ih =>
    rw [bysTo_succ]
    cases h : x.getLsbD n
    · simp only [Bool.false_eq_true, if_false, ih]
      constructor
      · rintro ⟨a, b1, c⟩; exact ⟨a, by omega, c⟩
      · rintro ⟨a, b1, c⟩
        refine ⟨a, ?_, c⟩
        have : b ≠ n := fun e => by rw [e, Int.toNat_natCast, h] at c; cases c
        omega
    · simp only [if_true, List.mem_append, ih, List.mem_singleton]
      constructor
      · rintro (⟨a, b1, c⟩ | e)
        · exact ⟨a, by omega, c⟩
        · subst e; exact ⟨by omega, by omega, by rw [Int.toNat_natCast]; exact h⟩
      · rintro ⟨a, b1, c⟩
        by_cases e : b = n
        · exact .inr e
        · exact .inl ⟨a, by omega, c⟩
theorem bysTo_bd (x : BitVec 256) (k : Nat) (b : Int) (h : b ∈ bysTo x k) : 0 ≤ b ∧ b < k := ⟨((bysTo_mem x k b).1 h).1, ((bysTo_mem x k b).1 h).2.1⟩

theorem asText_data (l : List Int) : (asText l).data.toList = l.map (fun n => UInt8.ofNat n.toNat) := by
  have key : ∀ (l : List Int) (s : ByteArray), (l.foldl (fun r n => r.push (UInt8.ofNat n.toNat)) s).data.toList = s.data.toList ++ l.map (fun n => UInt8.ofNat n.toNat) := by
    intro l
    induction l with
    | nil => intro s; simp
    | cons b l ih => intro s; rw [List.foldl_cons, ih]; simp [ByteArray.push]
  have := key l ByteArray.empty
  simpa [asText] using this
theorem asText_size (l : List Int) : (asText l).size = l.length := by
  have h := congrArg List.length (asText_data l)
  simpa using h
end Go.Proofs.YtnpifgcgjgddoaaGreatDoor

namespace Go.Proofs.YtnpifgcgjgddoaaGreatDoor
open Go.RowKit
abbrev c4 (x : BitVec 256) : Obj := .cells #[.int .u64 (wd x 0), .int .u64 (wd x 1), .int .u64 (wd x 2), .int .u64 (wd x 3)] 49
end Go.Proofs.YtnpifgcgjgddoaaGreatDoor

namespace Go.Proofs.YtnpifgcgjgddoaaGreatDoor
open Go.RowKit
theorem Tryz.info5 : (Tryz.prog.info? 5).map (fun i => (i.zero, i.size, i.bytes)) = some (some (.int .u8 0), 1, 1) := by kernel_rfl

/-- A row that the call owns, behind a call that turned nothing of what was there. -/
theorem own_below {w w' : World} {base e size : Nat} {v : Value} {n : Nat} {xs : List Value} (h : w.ownsRow base e size v n xs) (hb : Below w.heap.size w w') (_hB : base ≤ w.heap.size) : w'.ownsRow base e size v n xs := by
  refine h.kept (row := none) ⟨hb.os, hb.tape, hb.output, hb.size, fun k hk _ => hb.block k hk⟩ ?_
  cases h2 : v.ownBlock
  · exact .inl rfl
  · exact .inr (by simp)

theorem holds_grown {w w' : World} {b : Nat} {x : BitVec 256} {row : Option Nat} (h : Holds w b x) (hg : w.grownBy w' row) (hne : row = some b → False) : Holds w' b x := by
  have e := hg.block b h.lt (fun e => hne e.symm)
  exact ⟨Nat.lt_of_lt_of_le h.lt hg.size, (World.cell?_of_block (a := ⟨b, 0, none⟩) e).trans h.c0, (World.cell?_of_block (a := ⟨b, 1, none⟩) e).trans h.c1, (World.cell?_of_block (a := ⟨b, 2, none⟩) e).trans h.c2, (World.cell?_of_block (a := ⟨b, 3, none⟩) e).trans h.c3,
    (World.frozen?_of_block (a := ⟨b, 0, none⟩) e).trans h.f0, (World.frozen?_of_block (a := ⟨b, 1, none⟩) e).trans h.f1, (World.frozen?_of_block (a := ⟨b, 2, none⟩) e).trans h.f2, (World.frozen?_of_block (a := ⟨b, 3, none⟩) e).trans h.f3⟩

/-- The text of a row of bytes that the call owns. -/
theorem text_own {w : World} {base : Nat} {v : Value} {l : List Int} (h : w.ownsRow base 5 1 v l.length (l.map (Value.int .u8))) :
    (convert 55 9 v).run Tryz.prog w = .ok (.string (asText l)) w := by
  have hc := h
  obtain ⟨hlen, h2⟩ := h
  rcases h2 with ⟨rfl, hn⟩ | ⟨g, cap, cur, rfl, _⟩
  · obtain rfl : l = [] := List.eq_nil_of_length_eq_zero hn
    rw [run_convert_bytes_string w 55 9 5 _ _ _ Tryz.underlying55 Tryz.underlying5 Tryz.underlying9]
    rfl
  · rw [run_convert_bytes_string w 55 9 5 _ _ _ Tryz.underlying55 Tryz.underlying5 Tryz.underlying9]
    refine run_bytesToString w ⟨g, 0, none⟩ l.length cap l ?_
    have := run_loadCells_list (P := Tryz.prog) (w := w) ⟨g, 0, none⟩ (l.map (Value.int .u8)) (hc.cells rfl)
    rwa [List.length_map] at this

set_option maxRecDepth 100000 in
set_option maxHeartbeats 1000000 in
theorem bytesR_any (x : BitVec 256) (w : World) :
    Calls Tryz.prog 129 #[sv x] w fun e w' => e = .returned (.string (asText (bys x))) ∧ Below w.heap.size w w' := by
  obtain ⟨i0, hi, hz0, hz1, hz2⟩ := info_parts Tryz.info5
  go_enter Tryz.func129, Tryz.ntmps129
  go_wp2
  go_loopw [3, 4] (fun v t wr => ∃ k : Nat, k ≤ 256 ∧ t = .int .i64 k ∧ wr.ownsRow (w.heap.size + 1) 5 1 v (bysTo x k).length ((bysTo x k).map (Value.int .u8)) ∧ Holds wr w.heap.size x ∧ Below w.heap.size w wr) (fun _ t _ => 256 - (intOf t).toNat)
  case atStart => exact ⟨0, by omega, rfl, World.ownsRow_nil _ _ _ _, Holds.new w x, (Below.refl _ _).alloc (Nat.le_refl _) _⟩
  case round =>
    obtain ⟨k, hk, rfl, hown, hx, hbel⟩ := hrel
    have hsz : w.heap.size < wr.heap.size := hx.lt
    have HX := (show Hid _ from hx)
    have HO := (show Hid _ from hown)
    have HB := (show Hid _ from hbel)
    have hcl := cntTo_le x.getLsbD k
    by_cases hlt : k < 256
    · have HS := (show Hid _ from bysTo_succ x k)
      have HG := (show Hid _ from hasB_yes x k (by omega) (by omega))
      have hw8 : IntKind.u8.wrap (k : Int) = (k : Int) := by rw [IntKind.wrap_u8']; omega
      obtain ⟨l0, c0, c1, c2, c3, f0, f1, f2, f3⟩ := hx
      clear hown hbel
      cases hb : hasB x k
      · have HE : Hid (bysTo x (k + 1) = bysTo x k) := (by
          have h := HS.out
          rw [HG.out, Int.toNat_natCast] at hb
          rw [hb] at h; exact h)
        go_wp2_with fail
        refine (hasR_any x k _).mono ?_
        rintro e w1 ⟨rfl, hb1⟩
        have hO1 := (show Hid _ from own_below HO.out hb1 (by omega))
        have hB1 := (show Hid _ from HB.out.trans (hb1.mono (by omega)))
        have hX1 := (show Hid _ from HX.out.below hb1 (by omega))
        clear hb1
        go_wp2
        go_roundw
        case rel => exact ⟨k + 1, by omega, by go_num, (by rw [HE.out]; exact hO1.out), hX1.out, hB1.out⟩
        case measure => simp [intOf]; omega
      · have HE : Hid (bysTo x (k + 1) = bysTo x k ++ [(k : Int)]) := (by
          have h := HS.out
          rw [HG.out, Int.toNat_natCast] at hb
          rw [hb] at h; exact h)
        go_wp2_with fail
        refine (hasR_any x k _).mono ?_
        rintro e w1 ⟨rfl, hb1⟩
        have hO1 := own_below HO.out hb1 (by omega)
        have hB1 := (show Hid _ from HB.out.trans (hb1.mono (by omega)))
        have hX1 := (show Hid _ from HX.out.below hb1 (by omega))
        have hsz1 : w.heap.size < w1.heap.size := hX1.out.lt
        have hlen : (bysTo x k).length ≤ 256 := by rw [bysTo_len]; omega
        clear c0 c1 c2 c3 f0 f1 f2 f3 HO HX HB hb1
        go_wp2_with (at_builtin; refine wpList_append_own _ rfl _ _ 55 rfl (w.heap.size + 1) 5 i0 (.int .u8 0) 1 1 Tryz.underlying55 hi hz0 hz1 hz2 rfl (by decide) _ _ _ rfl (hO1.alloc _) ⟨w1.heap.size, 0, none⟩ 1 1 [.int .u8 k] rfl rfl (cell_one_new _ _ _) ?c2 ?c3 ?c4 ?c5 ?_)
        case c2 => intro u hu; simp at hu; subst hu; rfl
        case c3 => unfold maxLen; omega
        case c4 => omega
        case c5 => simp; omega
        intro v' w2 hown' hgrow _
        have hle := fun j e => (hO1.lt j e).1
        have hB2 := (show Hid _ from (hB1.out.alloc (by omega) (.cells #[.int .u8 k] 5)).grown hgrow (by simp; omega) (fun j e => by have := hle j e; omega))
        have hX2 := (show Hid _ from holds_grown (hX1.out.alloc (.cells #[.int .u8 k] 5)) hgrow (fun e => by have := hle _ e; omega))
        have hO2 := (show Hid _ from hown')
        clear hO1 hown' hgrow hle
        go_wp2
        go_roundw
        case rel =>
          refine ⟨k + 1, by omega, by go_num, ?_, hX2.out, hB2.out⟩
          rw [HE.out, List.length_append, List.map_append]
          exact hO2.out
        case measure => simp [intOf]; omega
    · obtain rfl : k = 256 := by omega
      have HT := (show Hid _ from text_own HO.out)
      clear hown hx hbel
      have ht := HT.out
      go_wp2
      go_ret
      exact ⟨rfl, HB.out⟩
end Go.Proofs.YtnpifgcgjgddoaaGreatDoor

namespace Go.Proofs.YtnpifgcgjgddoaaGreatDoor
open Go.RowKit Go.Shelf
attribute [local go_sem] Oper.semAt_some

/-- Block b is as it was. -/
def KeepB (b : Nat) (W W' : World) : Prop := W'.heap[b]? = W.heap[b]?
theorem KeepB.trans {b : Nat} {A B C : World} (h : KeepB b A B) (k : KeepB b B C) : KeepB b A C := Eq.trans k h
theorem KeepB.put {b : Nat} {w : World} (hb : b < w.heap.size) (W : World) (l : Nat) (o o' : Obj) (hl : w.heap.size ≤ l) (_ : W.heap[l]? = some o) (_ : o.isCells = false) (_ : o.isWalk = false) : KeepB b W (W.putObj l o') := by
  by_cases h : b < W.heap.size
  · exact (grownBy_putObj' W l o').block b h (fun e => by cases e; omega)
  · have e1 : W.heap[b]? = none := Array.getElem?_eq_none (by omega)
    have e2 : (W.putObj l o').heap.size = W.heap.size := by simp [World.putObj]
    show (W.putObj l o').heap[b]? = W.heap[b]?
    rw [e1]; exact Array.getElem?_eq_none (by omega)
theorem KeepB.setCell {b : Nat} {W : World} {p : Addr} (h : b ≠ p.block) (u : Value) : KeepB b W (W.setCell p u) := Below.heap_setCell _ _ _ _ h
theorem KeepB.alloc {b : Nat} {W : World} (h : b < W.heap.size) (o : Obj) : KeepB b W (W.alloc o) := Below.heap_alloc _ _ _ h
theorem KeepB.grown {b : Nat} {W W' : World} {row : Option Nat} (h : W.grownBy W' row) (hb : b < W.heap.size) (hne : row ≠ some b) : KeepB b W W' := h.block b hb (fun e => hne e.symm)
theorem Holds.keep {w w' : World} {b : Nat} {x : BitVec 256} (h : Holds w b x) (e : KeepB b w w') : Holds w' b x := by
  have hl : b < w'.heap.size := by
    obtain ⟨o, h1⟩ : ∃ o, w.heap[b]? = some o := ⟨_, Array.getElem?_eq_getElem h.lt⟩
    have h2 : w'.heap[b]? = some o := Eq.trans e h1
    exact (Array.getElem?_eq_some_iff.1 h2).1
  exact ⟨hl, (World.cell?_of_block (a := ⟨b, 0, none⟩) e).trans h.c0, (World.cell?_of_block (a := ⟨b, 1, none⟩) e).trans h.c1, (World.cell?_of_block (a := ⟨b, 2, none⟩) e).trans h.c2, (World.cell?_of_block (a := ⟨b, 3, none⟩) e).trans h.c3,
    (World.frozen?_of_block (a := ⟨b, 0, none⟩) e).trans h.f0, (World.frozen?_of_block (a := ⟨b, 1, none⟩) e).trans h.f1, (World.frozen?_of_block (a := ⟨b, 2, none⟩) e).trans h.f2, (World.frozen?_of_block (a := ⟨b, 3, none⟩) e).trans h.f3⟩
/-- The bytes of x below k, rising, each with its bound. -/
def byf (x : BitVec 256) : Nat → List (Fin 256)
  | 0 => []
  | n + 1 => if h : n < 256 then (if x.getLsbD n then byf x n ++ [⟨n, h⟩] else byf x n) else byf x n
theorem byf_yes (x : BitVec 256) (n : Nat) (h : n < 256) (hb : x.getLsbD n = true) : byf x (n + 1) = byf x n ++ [⟨n, h⟩] := by
  rw [byf, dif_pos h, if_pos hb]
theorem byf_no (x : BitVec 256) (n : Nat) (h : n < 256) (hb : x.getLsbD n = false) : byf x (n + 1) = byf x n := by
  rw [byf, dif_pos h, hb]; rfl
theorem byf_val (x : BitVec 256) (k : Nat) (hk : k ≤ 256) : (byf x k).map (fun b => (b.val : Int)) = bysTo x k := by
  induction k with
  | zero => rfl
  | succ n ih =>
    rw [bysTo_succ]
    cases hb : x.getLsbD n
    · rw [byf_no x n (by omega) hb, ih (by omega)]; rfl
    · rw [byf_yes x n (by omega) hb, List.map_append, ih (by omega)]; rfl
theorem byf_len (x : BitVec 256) (k : Nat) (hk : k ≤ 256) : (byf x k).length = cntTo x.getLsbD k := by
  rw [← bysTo_len, ← byf_val x k hk, List.length_map]
theorem byf_mono (x : BitVec 256) (k m : Nat) (h : k ≤ m) : byf x k <+: byf x m := by
  induction m with
  | zero => obtain rfl : k = 0 := by omega
            exact List.prefix_refl _
  | succ m ih =>
    by_cases e : k = m + 1
    · subst e; exact List.prefix_refl _
    · refine (ih (by omega)).trans ?_
      rw [byf]
      split
      · split
        · exact List.prefix_append _ _
        · exact List.prefix_refl _
      · exact List.prefix_refl _
theorem byf_pre (x : BitVec 256) (k : Nat) (h : k ≤ 256) {l : List (Fin 256)} (e : byf x k = l) : l <+: byf x 256 := by
  rw [← e]; exact byf_mono x k 256 h
theorem grown_below {W W' : World} (hb : Below W.heap.size W W') : W.grownBy W' none := ⟨hb.os, hb.tape, hb.output, hb.size, fun k hk _ => hb.block k hk⟩

set_option maxRecDepth 100000 in
set_option maxHeartbeats 1000000 in
theorem each1_in (n : Nat) (hn : 1 ≤ n) (l Bn B0 : Nat) (x : BitVec 256) (J Jx : List (Fin 256) → World → Prop) (hJ : AbidesFrom B0 J)
    (hY : ∀ pre b W, J pre W → pre.length < 256 → YieldAt Fence.wide (n - 1) Tryz.prog l #[.int .i64 (b.val : Int)] W fun e W' =>
      (e = .returned (.bool true) ∧ J (pre ++ [b]) W' ∧ KeepB Bn W W') ∨ (e = .returned (.bool false) ∧ Jx (pre ++ [b]) W'))
    (W : World) (hX : Holds W Bn x) (h0 : J [] W) :
    CallsIn Fence.wide n Tryz.prog 165 #[.func (.yield l) #[] #[], .pointer (some ⟨Bn, 0, none⟩)] W fun e W' => (∃ v, e = .returned v) ∧
      ((∃ ys, ys = byf x 256 ∧ J ys W') ∨ (∃ pre, pre <+: byf x 256 ∧ Jx pre W')) := by
  refine callsIn_of_wp Tryz.func165 rfl trivial ?_ rfl
  simp only [Tryz.ntmps165, List.size_toArray, List.length_cons, List.length_nil, Nat.reduceAdd, Nat.reduceSub, Array.replicate_succ, Array.replicate_zero, List.push_toArray, List.append_toArray, List.nil_append, List.cons_append]
  gi_wp2
  gi_loopw [4] (fun t wr => ∃ k : Nat, k ≤ 256 ∧ t = .int .i64 k ∧ J (byf x k) wr ∧ Holds wr Bn x) (fun t _ => 256 - (intOf t).toNat)
  case atStart => exact ⟨0, by omega, rfl, h0, hX⟩
  case round =>
    obtain ⟨k, hk, rfl, hj, hx⟩ := hrel
    have HX := (show Hid _ from hx)
    have HJ := (show Hid _ from hj)
    by_cases hlt : k < 256
    · obtain ⟨l0, c0, c1, c2, c3, f0, f1, f2, f3⟩ := hx
      have hd : decide ((k : Int) < 256) = true := decide_eq_true (by omega)
      have HG := (show Hid _ from hasB_yes x k (by omega) (by omega))
      have hlen : (byf x k).length < 256 := by have := cntTo_le x.getLsbD k; rw [byf_len x k hk]; omega
      clear hj
      cases hb : hasB x k
      · have HE : Hid (byf x (k + 1) = byf x k) := (by
          rw [HG.out, Int.toNat_natCast] at hb
          exact byf_no x k hlt hb)
        gi_wp2_with fail
        refine ⟨trivial, (callsIn_wide.2 (has_any x k _)).mono ?_⟩
        rintro e W1 ⟨rfl, hb1⟩
        have hX1 := (show Hid _ from HX.out.below hb1 l0)
        have hJ1 := (show Hid _ from hJ _ _ _ none HJ.out (grown_below hb1) (fun r e => by cases e))
        clear hb1
        gi_wp2
        refine ⟨fun _ h => (by cases h), ?_⟩
        gi_wp2
        go_roundw
        case rel => exact ⟨k + 1, by omega, by go_num, (by rw [HE.out]; exact hJ1.out), hX1.out⟩
        case measure => simp [intOf]; omega
      · have HE : Hid (byf x (k + 1) = byf x k ++ [⟨k, hlt⟩]) := (by
          rw [HG.out, Int.toNat_natCast] at hb
          exact byf_yes x k hlt hb)
        gi_wp2_with fail
        refine ⟨trivial, (callsIn_wide.2 (has_any x k _)).mono ?_⟩
        rintro e W1 ⟨rfl, hb1⟩
        have hX1 := (show Hid _ from HX.out.below hb1 l0)
        have hJ1 := hJ _ _ _ none HJ.out (grown_below hb1) (fun r e => by cases e)
        clear hb1
        obtain ⟨fn, tmps, assign, body, hy, hR⟩ := hY (byf x k) ⟨k, hlt⟩ W1 hJ1 hlen
        dsimp only at hy
        clear hJ1
        gi_wp2
        refine hR.mono ?_
        rintro e W3 (⟨rfl, hJ3, hk3⟩ | ⟨rfl, hJx3⟩)
        · have hX3 := (show Hid _ from hX1.out.keep hk3)
          gi_wp2
          go_roundw
          case rel => exact ⟨k + 1, by omega, by go_num, (by rw [HE.out]; exact hJ3), hX3.out⟩
          case measure => simp [intOf]; omega
        · gi_wp2
          refine bodyPost_ret (results_none rfl _ _ _) rfl ?_
          exact ⟨⟨_, rfl⟩, .inr ⟨_, byf_pre x (k + 1) (by omega) HE.out, hJx3⟩⟩
    · obtain rfl : k = 256 := by omega
      have hd : decide (((256 : Nat) : Int) < 256) = false := by simp
      gi_wp2
      go_end0
      exact ⟨⟨_, rfl⟩, .inl ⟨_, rfl, hj⟩⟩

set_option maxHeartbeats 1000000 in
/-- Each: the set is boxed; the function value captures the box. -/
theorem each_in (n : Nat) (x : BitVec 256) (w : World) :
    CallsIn Fence.wide n Tryz.prog 150 #[sv x] w fun e w' => e = .returned (.func (.func 165) #[] #[.pointer (some ⟨w.heap.size, 0, none⟩)]) ∧ w' = w.alloc (c4 x) := by
  refine callsIn_of_wp Tryz.func150 rfl trivial ?_ rfl
  simp only [Tryz.ntmps150, List.size_toArray, List.length_cons, List.length_nil, Nat.reduceAdd, Nat.reduceSub, Array.replicate_succ, Array.replicate_zero, List.push_toArray, List.append_toArray, List.nil_append, List.cons_append]
  gi_wp2
  go_ret
  exact ⟨rfl, rfl⟩

/-- What Each hands back goes over the set's bytes, or over the first of them. -/
theorem each_stops (n : Nat) (hn : 1 ≤ n) (Bn : Nat) (x : BitVec 256) (w : World) (hX : Holds w Bn x) :
    SeqStopsK Fence.wide n Tryz.prog 165 #[.pointer (some ⟨Bn, 0, none⟩)] (fun b : Fin 256 => #[Value.int .i64 (b.val : Int)]) (KeepB Bn) (fun ys => ys = byf x 256) (fun pre => pre <+: byf x 256) 256 w := fun l J Jx W hW hJ _ hY h0 =>
  each1_in n hn l Bn W.heap.size x J Jx hJ hY W (hX.below hW hX.lt) h0
end Go.Proofs.YtnpifgcgjgddoaaGreatDoor

namespace Go.Proofs.YtnpifgcgjgddoaaGreatDoor
open Go.RowKit
theorem wd_not (x : BitVec 256) (i : Nat) (hi : i < 4) : bits .xor .u64 IntKind.u64.max (wd x i) = wd (~~~ x) i := by
  have hm : IntKind.u64.max = 18446744073709551615 := rfl
  rw [hm, u64_xor _ _ (by omega) (by omega) (wd_lo _ _) (wd_hi _ _)]
  refine wd_of_testBit _ _ _ (Int.natCast_nonneg _) fun j => ?_
  rw [Int.toNat_natCast, Nat.testBit_xor, wd_testBit, BitVec.getLsbD_not]
  have e : (18446744073709551615 : Int).toNat = 2 ^ 64 - 1 := rfl
  rw [e, Nat.testBit_two_pow_sub_one]
  by_cases h : j < 64
  · have : 64 * i + j < 256 := by omega
    simp [h, this]
  · simp [h]

set_option maxHeartbeats 2000000 in
theorem not_any (x : BitVec 256) (w : World) :
    Calls Tryz.prog 149 #[sv x] w fun e w' => e = .returned (sv (~~~ x)) ∧ Below w.heap.size w w' := by
  have hsg : IntKind.u64.signed = false := rfl
  go_enter Tryz.func149, Tryz.ntmps149
  go_wp2
  refine wp_loop_rounds 5 ?_
  iterate 5
    rw [rounds_succ]
    go_wp2
  exact bodyPost_ret (v := .agg #[.int .u64 (bits BinOp.xor IntKind.u64 IntKind.u64.max (wd x 0)), .int .u64 (bits BinOp.xor IntKind.u64 IntKind.u64.max (wd x 1)), .int .u64 (bits BinOp.xor IntKind.u64 IntKind.u64.max (wd x 2)), .int .u64 (bits BinOp.xor IntKind.u64 IntKind.u64.max (wd x 3))]) (by simp [results, Tryz.results149, go_sem]) rfl ⟨ret_sv (wd_not x 0 (by omega)) (wd_not x 1 (by omega)) (wd_not x 2 (by omega)) (wd_not x 3 (by omega)), (((Below.refl _ _).alloc (Nat.le_refl _) _).alloc (by simp) _)⟩
end Go.Proofs.YtnpifgcgjgddoaaGreatDoor

namespace Go.Proofs.YtnpifgcgjgddoaaGreatDoor
open Go.RowKit
theorem size1 (w : World) (a : Obj) : (w.alloc a).heap.size = w.heap.size + 1 := by simp
theorem size2 (w : World) (a b : Obj) : ((w.alloc a).alloc b).heap.size = w.heap.size + 1 + 1 := by simp
theorem below3 (w : World) (a b c : Obj) : Below w.heap.size w (((w.alloc a).alloc b).alloc c) :=
  (((Below.refl _ _).alloc (Nat.le_refl _) _).alloc (by simp) _).alloc (by simp; omega) _
end Go.Proofs.YtnpifgcgjgddoaaGreatDoor

namespace Go.Proofs.YtnpifgcgjgddoaaGreatDoor
open Go.RowKit Go.Shelf
attribute [local go_sem] Oper.semAt_some

theorem own_base {w : World} {base base' e size : Nat} {v : Value} {n : Nat} {xs : List Value} (h : w.ownsRow base e size v n xs) (hb : base' ≤ base) : w.ownsRow base' e size v n xs := by
  refine ⟨h.1, h.2.imp id ?_⟩
  rintro ⟨g, cap, cur, h1, h2, h3⟩
  exact ⟨g, cap, cur, h1, by omega, h3⟩

/-- Behind 'l = append(l, ..)' in a box B below the row's base R: what was below R, but for the box, is as it was. -/
theorem append_keep {W w1 : World} {R B b : Nat} {v : Value} {tmp : Obj} {v' : Value} (hlt : ∀ k, v.ownBlock = some k → R ≤ k) (hgrow : (W.alloc tmp).grownBy w1 v.ownBlock) (hb : b < W.heap.size) (hR : b < R) (hne : b ≠ B) :
    KeepB b W (w1.setCell ⟨B, 0, none⟩ v') := by
  refine (KeepB.alloc hb tmp).trans ((KeepB.grown hgrow (by simp; omega) (fun e => ?_)).trans (KeepB.setCell (p := ⟨B, 0, none⟩) hne _))
  have := hlt _ e
  omega

/-- The numbers of a list of bytes. -/
def nums (l : List (Fin 256)) : List Int := l.map (fun b => (b.val : Int))
theorem nums_snoc (l : List (Fin 256)) (b : Fin 256) : nums (l ++ [b]) = nums l ++ [(b.val : Int)] := by unfold nums; rw [List.map_append]; rfl
theorem nums_len (l : List (Fin 256)) : (nums l).length = l.length := List.length_map _
end Go.Proofs.YtnpifgcgjgddoaaGreatDoor

namespace Go.Proofs.YtnpifgcgjgddoaaGreatDoor
open Go.RowKit
/-- One byte more, behind the spans of those before it. -/
def spStep (l : List (Int × Int)) (b : Int) : List (Int × Int) := match l.getLast? with
  | some p => if p.2 + 1 = b then l.dropLast ++ [(p.1, b)] else l ++ [(b, b)]
  | none => [(b, b)]
def spL (bs : List Int) : List (Int × Int) := bs.foldl spStep []
theorem spL_snoc (bs : List Int) (b : Int) : spL (bs ++ [b]) = spStep (spL bs) b := by unfold spL; rw [List.foldl_append]; rfl
theorem spStep_nil (b : Int) : spStep [] b = [(b, b)] := rfl
theorem spStep_hit (l : List (Int × Int)) (lo hi b : Int) (h : hi + 1 = b) : spStep (l ++ [(lo, hi)]) b = l ++ [(lo, b)] := by
  unfold spStep; simp [h]
theorem spStep_miss (l : List (Int × Int)) (lo hi b : Int) (h : hi + 1 ≠ b) : spStep (l ++ [(lo, hi)]) b = l ++ [(lo, hi)] ++ [(b, b)] := by
  unfold spStep; simp [h]
theorem snoc_cases {α : Type} (l : List α) : l = [] ∨ ∃ m a, l = m ++ [a] := by
  rcases List.eq_nil_or_concat l with h | ⟨m, a, h⟩
  · exact .inl h
  · exact .inr ⟨m, a, by rw [h, List.concat_eq_append]⟩
theorem spStep_len (l : List (Int × Int)) (b : Int) : (spStep l b).length ≤ l.length + 1 := by
  rcases snoc_cases l with rfl | ⟨m, ⟨lo, hi⟩, rfl⟩
  · simp [spStep]
  · by_cases h : hi + 1 = b
    · rw [spStep_hit _ _ _ _ h]; simp
    · rw [spStep_miss _ _ _ _ h]; simp
theorem spL_len (bs : List Int) : (spL bs).length ≤ bs.length := by
  have key : ∀ n (bs : List Int), bs.length = n → (spL bs).length ≤ n := fun n => by
    induction n with
    | zero => intro bs h; rw [List.eq_nil_of_length_eq_zero h]; exact Nat.le_refl _
    | succ n ih =>
      intro bs h
      rcases snoc_cases bs with rfl | ⟨m, b, rfl⟩
      · simp at h
      · rw [spL_snoc]
        have h1 := ih m (by simp at h; exact h)
        have h2 := spStep_len (spL m) b
        omega
  exact key _ bs rfl
/-- The last span ends at the last byte. -/
theorem spL_last (m : List Int) (b : Int) : ∃ l lo, spL (m ++ [b]) = l ++ [(lo, b)] := by
  rw [spL_snoc]
  rcases snoc_cases (spL m) with h | ⟨l, ⟨lo, hi⟩, h⟩
  · rw [h]; exact ⟨[], b, rfl⟩
  · rw [h]
    by_cases e : hi + 1 = b
    · rw [spStep_hit _ _ _ _ e]; exact ⟨l, lo, rfl⟩
    · rw [spStep_miss _ _ _ _ e]; exact ⟨_, b, rfl⟩
/-- The cells of a list of spans. -/
def spc (l : List (Int × Int)) : List Value := l.flatMap fun p => [.int .i64 p.1, .int .i64 p.2]
theorem spc_append (a b : List (Int × Int)) : spc (a ++ b) = spc a ++ spc b := by unfold spc; rw [List.flatMap_append]
theorem spc_len (l : List (Int × Int)) : (spc l).length = l.length * 2 := by
  induction l with
  | nil => rfl
  | cons p l ih => unfold spc at *; rw [List.flatMap_cons, List.length_append, ih]; simp; omega
theorem spc_lo (l : List (Int × Int)) (i : Nat) (h : i < l.length) : (spc l)[i * 2]? = some (.int .i64 (l[i]).1) := by
  induction l generalizing i with
  | nil => simp at h
  | cons p l ih =>
    have e : spc (p :: l) = .int .i64 p.1 :: .int .i64 p.2 :: spc l := by unfold spc; rfl
    rw [e]
    cases i with
    | zero => rfl
    | succ i => rw [show (i + 1) * 2 = i * 2 + 1 + 1 from by omega]; simp only [List.getElem?_cons_succ, List.getElem_cons_succ]; exact ih i (by simpa using h)
theorem spc_hi (l : List (Int × Int)) (i : Nat) (h : i < l.length) : (spc l)[i * 2 + 1]? = some (.int .i64 (l[i]).2) := by
  induction l generalizing i with
  | nil => simp at h
  | cons p l ih =>
    have e : spc (p :: l) = .int .i64 p.1 :: .int .i64 p.2 :: spc l := by unfold spc; rfl
    rw [e]
    cases i with
    | zero => rfl
    | succ i => rw [show (i + 1) * 2 + 1 = i * 2 + 1 + 1 + 1 from by omega]; simp only [List.getElem?_cons_succ, List.getElem_cons_succ]; exact ih i (by simpa using h)
theorem spc_set (l : List (Int × Int)) (lo hi b : Int) : (spc (l ++ [(lo, hi)])).set (l.length * 2 + 1) (.int .i64 b) = spc (l ++ [(lo, b)]) := by
  rw [spc_append, spc_append, List.set_append_right _ _ (by rw [spc_len]; omega), spc_len]
  rw [show l.length * 2 + 1 - l.length * 2 = 1 from by omega]
  rfl

/-- Every number of the spans is one of the bytes. -/
theorem spL_mem (bs : List Int) (p : Int × Int) (h : p ∈ spL bs) : p.1 ∈ bs ∧ p.2 ∈ bs := by
  have key : ∀ n (bs : List Int), bs.length = n → ∀ p ∈ spL bs, p.1 ∈ bs ∧ p.2 ∈ bs := fun n => by
    induction n with
    | zero => intro bs h p hp; rw [List.eq_nil_of_length_eq_zero h] at hp; simp [spL] at hp
    | succ n ih =>
      intro bs h p hp
      rcases snoc_cases bs with rfl | ⟨m, b, rfl⟩
      · simp at h
      · have ihm := ih m (by simp at h; exact h)
        rw [spL_snoc] at hp
        have old : ∀ q ∈ spL m, q.1 ∈ m ++ [b] ∧ q.2 ∈ m ++ [b] := fun q hq => ⟨List.mem_append_left _ (ihm q hq).1, List.mem_append_left _ (ihm q hq).2⟩
        have new : b ∈ m ++ [b] := by simp
        rcases snoc_cases (spL m) with hs | ⟨l, ⟨lo, hi⟩, hs⟩
        · rw [hs] at hp; simp [spStep] at hp; subst hp; exact ⟨new, new⟩
        · rw [hs] at hp old
          by_cases e : hi + 1 = b
          · rw [spStep_hit _ _ _ _ e] at hp
            rcases List.mem_append.1 hp with h1 | h1
            · exact old p (List.mem_append_left _ h1)
            · simp at h1; subst h1; exact ⟨(old (lo, hi) (by simp)).1, new⟩
          · rw [spStep_miss _ _ _ _ e] at hp
            rcases List.mem_append.1 hp with h1 | h1
            · exact old p h1
            · simp at h1; subst h1; exact ⟨new, new⟩
  exact key _ bs rfl p h
end Go.Proofs.YtnpifgcgjgddoaaGreatDoor

namespace Go.Proofs.YtnpifgcgjgddoaaGreatDoor
open Go.RowKit
theorem below1 (w : World) (a : Obj) : Below w.heap.size w (w.alloc a) := (Below.refl _ _).alloc (Nat.le_refl _) _
end Go.Proofs.YtnpifgcgjgddoaaGreatDoor

namespace Go.Proofs.YtnpifgcgjgddoaaGreatDoor
open Go.RowKit Go.Shelf
attribute [local go_sem] Oper.semAt_some

theorem nums_bd (l : List (Fin 256)) (c : Int) (h : c ∈ nums l) : 0 ≤ c ∧ c ≤ 255 := by
  obtain ⟨b, _, rfl⟩ := List.mem_map.1 h
  have := b.isLt
  omega
theorem Tryz.info52 : (Tryz.prog.info? 152).map (fun i => (i.zero, i.size, i.bytes)) = some (some (.agg #[.int .i64 0, .int .i64 0]), 2, 16) := by kernel_rfl

set_option maxRecDepth 100000 in
set_option maxHeartbeats 2000000 in
theorem spans_in (n : Nat) (hn : 3 ≤ n) (x : BitVec 256) (w : World) :
    CallsIn Fence.wide n Tryz.prog 126 #[sv x] w fun e W' => ∃ v, e = .returned v ∧ W'.ownsRow (w.heap.size + 1) 152 2 v (spL (bys x)).length (spc (spL (bys x))) ∧ (spL (bys x) = [] → v = .slice none 0 0) ∧ Below w.heap.size w W' := by
  have h1 : 1 ≤ n := by omega
  obtain ⟨i0, hi, hz0, hz1, hz2⟩ := info_parts Tryz.info52
  refine callsIn_of_wp_marks Tryz.func126 rfl trivial ?_ rfl
  simp only [Tryz.ntmps126, List.size_toArray, List.length_cons, List.length_nil, Nat.reduceAdd, Nat.reduceSub, Array.replicate_succ, Array.replicate_zero, List.push_toArray, List.append_toArray, List.nil_append, List.cons_append]
  gi_wp2_with fail
  refine ⟨trivial, (each_in (n - 1) x _).mono ?_⟩
  rintro e w' ⟨rfl, rfl⟩
  gi_wp2_with fail
  have hX := Holds.new ((w.alloc (c4 x)).alloc (.cells #[.slice none 0 0] 149)) x
  rw [size2] at hX
  have bO := (Boxed.new (w.alloc (c4 x)) 149 (.slice none 0 0)).alloc (c4 x)
  rw [size1] at bO
  have hB0 := below3 w (c4 x) (.cells #[.slice none 0 0] 149) (c4 x)
  refine wpIn_rangeFunc_ownG rfl h1 (gf := 165) (lb := #[.pointer (some ⟨w.heap.size + 1 + 1, 0, none⟩)]) rfl trivial (enters_of Tryz.func165 (by kernel_rfl) rfl)
    (each_stops (n - 1) (by omega) (w.heap.size + 1 + 1) x _ hX) KeepB.trans (KeepB.put hX.lt) (Below.refl _ _) (fun _ => rfl)
    (fun pre W => (∃ v, Boxed W (w.heap.size + 1) 149 v ∧ W.ownsRow (w.heap.size + 1 + 1 + 1) 152 2 v (spL (nums pre)).length (spc (spL (nums pre))) ∧ (spL (nums pre) = [] → v = .slice none 0 0)) ∧ (Below w.heap.size w W ∧ Hid (w.heap.size + 1 + 1 + 1 ≤ W.heap.size)))
    (fun _ _ _ => False)
    (OwnFrom.and (Own.from (holdsRow_own (w.heap.size + 1 + 1 + 1) (w.heap.size + 1) 149 152 2 (fun pre => (spL (nums pre)).length) (fun pre => spc (spL (nums pre))) (fun pre v => spL (nums pre) = [] → v = .slice none 0 0)) _) (OwnFrom.and (ownFrom_below (Nat.le_refl _) (by simp; omega)) (fun s W W' row hs hg hr => Nat.le_trans hs hg.size)))
    (fun _ _ _ _ _ hs _ _ => hs)
    ⟨⟨_, bO, World.ownsRow_nil _ _ _ _, fun _ => rfl⟩, hB0, (show w.heap.size + 1 + 1 + 1 ≤ _ by simp)⟩
    (fun b => { tmps := #[sv x, .pointer (some ⟨w.heap.size, 0, none⟩), .slice none 0 0, .pointer (some ⟨w.heap.size + 1, 0, none⟩), .int .i64 (b.val : Int), undef, sv x, .func (.func 165) #[] #[.pointer (some ⟨w.heap.size + 1 + 1, 0, none⟩)], .int .i64 (b.val : Int), undef, undef, undef, undef, undef, undef, undef, undef, undef, undef, undef, undef, undef, undef, undef, undef, undef, undef, undef, undef, undef, undef, undef, undef, undef, undef, undef, undef], defers := [] }) ?assign ?body ?done ?stop
  case assign =>
    intro l b W K hK
    gi_wp2
    exact hK
  case body =>
    rintro l pre b W ⟨⟨v, hv, hrow, hnil⟩, hB, HZ⟩ hlt
    have hc := hv.cell
    have hf := hv.frozen
    have hb8 : b.val < 256 := b.isLt
    have hle := fun k e => (hrow.lt k e).1
    have HS := (show Hid _ from nums_snoc pre b)
    have HM := (show Hid _ from fun p hp => spL_mem (nums pre) p hp)
    have hlen : (spL (nums pre)).length < 256 := Nat.lt_of_le_of_lt (spL_len _) (by rw [nums_len]; exact hlt)
    have HSS := (show Hid _ from spL_snoc (nums pre) (b.val : Int))
    generalize hq : spL (nums pre) = q at *
    have HQ := (show Hid _ from hq)
    clear hq
    rcases snoc_cases q with rfl | ⟨m, ⟨lo, up⟩, rfl⟩
    · obtain rfl := hnil rfl
      clear hnil HM
      have HE := (show Hid _ from HSS.out.trans (spStep_nil (b.val : Int)))
      gi_wp2_with (gi_at_builtin; refine wpListIn_append_own _ rfl _ _ 149 rfl (w.heap.size + 1 + 1 + 1) 152 i0 (.agg #[.int .i64 0, .int .i64 0]) 2 16 Tryz.underlying149 hi hz0 hz1 hz2 rfl (by decide) _ _ _ rfl (hrow.alloc _) ⟨W.heap.size, 0, none⟩ 1 1 [.int .i64 (b.val : Int), .int .i64 (b.val : Int)] rfl rfl (cell_two_new _ _ _ _) (by simp [Value.oneCell']) (by unfold maxLen; omega) (by omega) (by have := HZ.out; simp; omega) ?_; intro v' w1 hown' hgrow _; obtain ⟨g', cap', rfl⟩ := ownsRow_succ hown'; obtain ⟨hv1, hv2, hr2, hk2, hb2⟩ := hv.appended (n₀ := w.heap.size + 1) (by decide) (own_base hrow (by omega)) (by have := HZ.out; omega) (Nat.le_refl _) (own_base hown' (by omega)) hgrow; have hr3 := hown'.kept (grownBy_setCell' w1 (w.heap.size + 1) (.slice (some ⟨g', 0, none⟩) (0 + 1) cap')) (.inr (hv1.not_row (by decide) hown').symm); have hc1 := hv1.cell; have hf1 := hv1.frozen)
      refine ⟨hk2.from _, append_keep hle hgrow (by have := HZ.out; omega) (by omega) (by omega), ⟨_, hv2, ?_, ?_⟩, hB.trans (hb2.mono (by omega)), Nat.le_trans HZ.out hb2.size⟩
      · rw [HS.out, HE.out]; exact hr3
      · rw [HS.out, HE.out]; intro h; cases h
    · obtain ⟨hml, hmu⟩ := HM.out (lo, up) (by simp)
      clear hnil HM
      have hbd := fun c (hc : c ∈ nums pre) => nums_bd pre c hc
      have hlo := hbd lo hml
      have hup := hbd up hmu
      clear hbd hml hmu
      rw [List.length_append, List.length_singleton] at hrow hlen
      obtain ⟨g, cap, rfl⟩ := ownsRow_succ hrow
      have hcu := hrow.cellAt (m.length * 2 + 1) (by omega)
      rw [spc_append, List.getElem?_append_right (by rw [spc_len]; omega), spc_len, show m.length * 2 + 1 - m.length * 2 = 1 from by omega] at hcu
      replace hcu : W.cell? ⟨g, m.length * 2 + 1, none⟩ = some (.int .i64 up) := hcu
      have hfu := hrow.frozenAt (m.length * 2 + 1)
      by_cases he : up + 1 = (b.val : Int)
      · have HE := (show Hid _ from HSS.out.trans (spStep_hit m lo up _ he))
        have heb : (up + 1 == (b.val : Int)) = true := beq_iff_eq.2 he
        have HEE := (show Hid _ from he)
        clear he
        gi_wp2_with fail
        obtain ⟨hst, hgs⟩ := hrow.stored (m.length * 2 + 1) (.int .i64 (b.val : Int))
        rw [spc_set] at hst
        have hg0 : w.heap.size + 1 + 1 + 1 ≤ g := hle g rfl
        refine ⟨(KeepsOthers.setCell _ _ _).from _, KeepB.setCell (p := ⟨g, m.length * 2 + 1, none⟩) (by simp; omega) _, ⟨_, hv.kept hgs (fun e => by cases e; omega), ?_, ?_⟩, hB.setCell (p := ⟨g, m.length * 2 + 1, none⟩) (by simp; omega) _, Nat.le_trans HZ.out hgs.size⟩
        · rw [HS.out, HE.out, List.length_append, List.length_singleton]; exact hst
        · rw [HS.out, HE.out]; intro h; simp at h
      · have HE := (show Hid _ from HSS.out.trans (spStep_miss m lo up _ he))
        have heb : (up + 1 == (b.val : Int)) = false := beq_eq_false_iff_ne.2 he
        clear he
        gi_wp2_with (gi_at_builtin; refine wpListIn_append_own _ rfl _ _ 149 rfl (w.heap.size + 1 + 1 + 1) 152 i0 (.agg #[.int .i64 0, .int .i64 0]) 2 16 Tryz.underlying149 hi hz0 hz1 hz2 rfl (by decide) _ _ _ rfl (hrow.alloc _) ⟨W.heap.size, 0, none⟩ 1 1 [.int .i64 (b.val : Int), .int .i64 (b.val : Int)] rfl rfl (cell_two_new _ _ _ _) (by simp [Value.oneCell']) (by unfold maxLen; omega) (by omega) (by have := HZ.out; simp; omega) ?_; intro v' w1 hown' hgrow _; obtain ⟨g', cap', rfl⟩ := ownsRow_succ hown'; obtain ⟨hv1, hv2, hr2, hk2, hb2⟩ := hv.appended (n₀ := w.heap.size + 1) (by decide) (own_base hrow (by omega)) (by have := HZ.out; omega) (Nat.le_refl _) (own_base hown' (by omega)) hgrow; have hr3 := hown'.kept (grownBy_setCell' w1 (w.heap.size + 1) (.slice (some ⟨g', 0, none⟩) (m.length + 1 + 1) cap')) (.inr (hv1.not_row (by decide) hown').symm); have hc1 := hv1.cell; have hf1 := hv1.frozen)
        refine ⟨hk2.from _, append_keep hle hgrow (by have := HZ.out; omega) (by omega) (by omega), ⟨_, hv2, ?_, ?_⟩, hB.trans (hb2.mono (by omega)), Nat.le_trans HZ.out hb2.size⟩
        · rw [HS.out, HE.out, List.length_append, List.length_append, List.length_singleton, List.length_singleton, spc_append]; exact hr3
        · rw [HS.out, HE.out]; intro h; simp at h
  case done =>
    rintro D ys W hD rfl ⟨⟨v, hv, hrow, hnil⟩, hB, _⟩ hK
    have hc := hv.cell
    have HT : Hid (nums (byf x 256) = bys x) := byf_val x 256 (Nat.le_refl _)
    gi_wp2
    refine ⟨by simp, .inl ⟨_, _, rfl, run_takeDeferred hK, ?_⟩⟩
    rw [HT.out] at hrow hnil
    exact ⟨_, results_tmp rfl _ _ _, v, rfl, own_base (ownsRow_putObj hrow _ hK rfl) (by omega), hnil, hB.trans (belowK_b (w := w) (Nat.le_refl _) W D _ _ (by simp at hD; omega) hK rfl rfl)⟩
  case stop =>
    rintro D c pre W _ _ h _
    exact h.elim

theorem spans_any (x : BitVec 256) (w : World) :
    Calls Tryz.prog 126 #[sv x] w fun e W' => ∃ v, e = .returned v ∧ W'.ownsRow (w.heap.size + 1) 152 2 v (spL (bys x)).length (spc (spL (bys x))) ∧ (spL (bys x) = [] → v = .slice none 0 0) ∧ Below w.heap.size w W' :=
  (callsIn_wide (n := 3)).1 (spans_in 3 (by omega) x w)
end Go.Proofs.YtnpifgcgjgddoaaGreatDoor

namespace Go.Proofs.YtnpifgcgjgddoaaGreatDoor
open Go.RowKit
theorem Tryz.sizeB : (Tryz.prog.info? 57).map (·.size) = some 2 := by kernel_rfl

set_option maxHeartbeats 1000000 in
set_option maxRecDepth 100000 in
theorem check_used (b : Nat) (w : World) (h0 : w.cell? ⟨b, 0, none⟩ = some (.pointer (some ⟨b, 0, none⟩))) :
    Calls Tryz.prog 71 #[.pointer (some ⟨b, 0, none⟩)] w fun e w' => e = .returned (.tuple #[]) ∧ w' = w := by
  obtain ⟨j, hj, hjs⟩ := Option.map_eq_some_iff.1 Tryz.sizeB
  go_enter Tryz.func71, Tryz.ntmps71
  go_wp2
  rw [Lib.run_neq_ptr_same w _ Tryz.underlying54 hj]
  go_wp2
  go_end0
  exact ⟨rfl, rfl⟩

set_option maxHeartbeats 1000000 in
set_option maxRecDepth 100000 in
theorem check_fresh (b : Nat) (w : World) (h0 : w.cell? ⟨b, 0, none⟩ = some (.pointer none)) (hsh : w.shape? b = some (57, 2)) (hfz : w.frozen? ⟨b, 0, none⟩ = false) :
    Calls Tryz.prog 71 #[.pointer (some ⟨b, 0, none⟩)] w fun e w' => e = .returned (.tuple #[]) ∧ w' = w.setCell ⟨b, 0, none⟩ (.pointer (some ⟨b, 0, none⟩)) := by
  obtain ⟨j, hj, hjs⟩ := Option.map_eq_some_iff.1 Tryz.sizeB
  go_enter Tryz.func71, Tryz.ntmps71
  go_wp2
  rw [Lib.run_to_unsafe w ⟨b, 0, none⟩ Tryz.underlying54 Tryz.underlying140 hj (by rw [hjs]; decide) hsh (Nat.zero_lt_succ 1)]
  simp only [Result.andThen]
  rw [Oper.upon_value]
  go_wp2
  rw [run_callFunc_extern Tryz.func94 (by kernel_rfl) (by kernel_rfl) (by kernel_rfl) (e := Extern.AbiNoEscape.same) (by kernel_rfl)]
  rw [Lib.run_noEscape]
  simp only [Result.andThen]
  rw [Oper.upon_value]
  go_wp2
  rw [Lib.run_from_unsafe w ⟨b, 0, none⟩ Tryz.underlying140 Tryz.underlying54 hj hsh (by kernel_rfl)]
  simp only [Result.andThen]
  rw [Oper.upon_value]
  go_wp2
  go_end0
  exact ⟨rfl, rfl⟩

/-- Whatever is no row of bytes, and not block b, is as it was. -/
structure KeepT (b : Nat) (w w' : World) : Prop where
  size : w.heap.size ≤ w'.heap.size
  block : ∀ k, k < w.heap.size → k ≠ b → (∀ c fr, w.heap[k]? ≠ some (.cells c 5 fr)) → w'.heap[k]? = w.heap[k]?
theorem KeepT.refl (b : Nat) (w : World) : KeepT b w w := ⟨Nat.le_refl _, fun _ _ _ _ => rfl⟩
theorem KeepT.trans {b : Nat} {x y z : World} (h : KeepT b x y) (k : KeepT b y z) : KeepT b x z :=
  ⟨Nat.le_trans h.size k.size, fun j hj hb ht => by
    have e := h.block j hj hb ht
    exact (k.block j (Nat.lt_of_lt_of_le hj h.size) hb (fun c fr => by rw [e]; exact ht c fr)).trans e⟩
theorem KeepT.setCell (b j : Nat) (w : World) (u : Value) : KeepT b w (w.setCell ⟨b, j, none⟩ u) :=
  ⟨by simp [World.setCell], fun k _ hk _ => Below.heap_setCell _ _ _ _ hk⟩
theorem KeepT.alloc (b : Nat) (w : World) (o : Obj) : KeepT b w (w.alloc o) := ⟨by simp, fun k hk _ _ => Below.heap_alloc _ _ _ hk⟩
theorem KeepT.grown {b : Nat} {w w' : World} {base : Nat} {v : Value} {n : Nat} {xs : List Value} (ho : w.ownsRow base 5 1 v n xs) (hg : w.grownBy w' v.ownBlock) : KeepT b w w' :=
  ⟨hg.size, fun k hk _ ht => hg.block k hk (fun e => by
    rcases ho.2 with ⟨rfl, _⟩ | ⟨g, cap, cur, rfl, _, hgb, _⟩
    · cases e
    · obtain rfl : k = g := by simpa [Value.ownBlock] using e
      exact ht _ _ hgb)⟩
theorem KeepT.below {b : Nat} {w w' : World} (h : Below w.heap.size w w') : KeepT b w w' := ⟨h.size, fun k hk _ _ => h.block k hk⟩

theorem check_any (b : Nat) (bs : List Value) (w : World) (h : Lib.IsBuilder 57 5 b b bs w) :
    Calls Tryz.prog 71 #[.pointer (some ⟨b, 0, none⟩)] w fun e w' => e = .returned (.tuple #[]) ∧ Lib.BuilderAt 57 5 b b (.pointer (some ⟨b, 0, none⟩)) bs w' ∧ Below b w w' ∧ KeepT b w w' := by
  rcases h with h | h
  · refine (check_fresh b w h.cell0 h.shape h.frozen0).mono ?_
    rintro e w' ⟨rfl, rfl⟩
    exact ⟨rfl, h.used _, (Below.refl b w).setCell (p := ⟨b, 0, none⟩) h.1 _, KeepT.setCell b 0 w _⟩
  · refine (check_used b w h.cell0).mono ?_
    rintro e w' ⟨rfl, rfl⟩
    exact ⟨rfl, h, Below.refl b _, KeepT.refl b _⟩

set_option maxHeartbeats 1000000 in
set_option maxRecDepth 100000 in
theorem writeByte_any (b : Nat) (bs : List Value) (c : Int) (w : World) (h : Lib.IsBuilder 57 5 b b bs w) (hlen : bs.length + 1 ≤ 140737488355328) :
    Calls Tryz.prog 123 #[.pointer (some ⟨b, 0, none⟩), .int .u8 c] w fun e w' => e = .returned .nilIface ∧ Lib.IsBuilder 57 5 b b (bs ++ [.int .u8 c]) w' ∧ Below b w w' ∧ KeepT b w w' := by
  obtain ⟨i0, hi, hz0, hz1, hz2⟩ := info_parts Tryz.info5
  go_enter Tryz.func123, Tryz.ntmps123
  go_wp2_with fail
  refine (check_any b bs _ h).mono ?_
  rintro e w1 ⟨rfl, h1, hb1, hk1⟩
  have hlt := h1.lt
  obtain ⟨hB, v, hbk, hown, hne⟩ := h1
  have c0 : w1.cell? ⟨b, 0, none⟩ = some (.pointer (some ⟨b, 0, none⟩)) := by rw [Lib.cell_of_heap hbk]; rfl
  have c1 : w1.cell? ⟨b, 1, none⟩ = some v := by rw [Lib.cell_of_heap hbk]; rfl
  go_wp2_with (at_builtin; refine wpList_append_own _ rfl _ _ 55 rfl b 5 i0 (.int .u8 0) 1 1 Tryz.underlying55 hi hz0 hz1 hz2 rfl (by decide) _ _ _ rfl (hown.alloc _) ⟨w1.heap.size, 0, none⟩ 1 1 [.int .u8 c] rfl rfl (cell_one_new _ _ _) ?c2 ?c3 ?c4 ?c5 ?_)
  case c2 => intro u hu; simp at hu; subst hu; rfl
  case c3 => unfold maxLen; omega
  case c4 => omega
  case c5 => simp; omega
  intro v' w2 hown' hgrow _
  have hb2 : w2.heap[b]? = some (.cells #[.pointer (some ⟨b, 0, none⟩), v] 57 (0, 0)) := by
    rw [hgrow.block b (by simp; omega) (fun e => hne e.symm), Lib.alloc_old w1 _ b hlt]
    exact hbk
  have d0 : w2.cell? ⟨b, 0, none⟩ = some (.pointer (some ⟨b, 0, none⟩)) := by rw [Lib.cell_of_heap hb2]; rfl
  have d1 : w2.cell? ⟨b, 1, none⟩ = some v := by rw [Lib.cell_of_heap hb2]; rfl
  have f1 : w2.frozen? ⟨b, 1, none⟩ = false := Lib.frozen_of_heap hb2 1
  obtain ⟨g, cap, rfl⟩ := ownsRow_succ hown'
  go_wp2
  go_ret
  refine ⟨rfl, .inr ?_, ?_, ?_⟩
  · exact Lib.BuilderAt.put (T := 57) (e := 5) hB hb2 (bs' := bs ++ [.int .u8 c]) (by simpa using hown') (by decide)
  · exact ((hb1.alloc (by omega) _).grown hgrow (by simp; omega) (fun k hk => (hown.lt k hk).1)).setCell (p := ⟨b, 1, none⟩) hB _
  · exact ((hk1.trans (KeepT.alloc b w1 _)).trans (KeepT.grown (hown.alloc _) hgrow)).trans (KeepT.setCell b 1 w2 _)

set_option maxHeartbeats 1000000 in
set_option maxRecDepth 100000 in
theorem writeString_any (b : Nat) (bs : List Value) (s : ByteArray) (w : World) (h : Lib.IsBuilder 57 5 b b bs w) (hlen : bs.length + s.size ≤ 140737488355328) :
    Calls Tryz.prog 48 #[.pointer (some ⟨b, 0, none⟩), .string s] w fun e w' => e = .returned (.tuple #[.int .i64 s.size, .nilIface]) ∧ Lib.IsBuilder 57 5 b b (bs ++ Lib.strCells s) w' ∧ Below b w w' ∧ KeepT b w w' := by
  obtain ⟨i0, hi, hz0, hz1, hz2⟩ := info_parts Tryz.info5
  go_enter Tryz.func48, Tryz.ntmps48
  go_wp2_with fail
  refine (check_any b bs _ h).mono ?_
  rintro e w1 ⟨rfl, h1, hb1, hk1⟩
  have hlt := h1.lt
  obtain ⟨hB, v, hbk, hown, hne⟩ := h1
  have c0 : w1.cell? ⟨b, 0, none⟩ = some (.pointer (some ⟨b, 0, none⟩)) := by rw [Lib.cell_of_heap hbk]; rfl
  have c1 : w1.cell? ⟨b, 1, none⟩ = some v := by rw [Lib.cell_of_heap hbk]; rfl
  go_wp2_with (at_builtin; refine Lib.wpList_append_own_string _ rfl _ _ 55 9 rfl b 5 i0 Tryz.underlying55 Tryz.underlying9 hi hz0 hz1 hz2 _ _ _ rfl hown s rfl ?c3 ?c4 ?c5 ?_)
  case c3 => unfold maxLen; omega
  case c4 => omega
  case c5 => omega
  intro v' w2 hown' hgrow _
  have hb2 : w2.heap[b]? = some (.cells #[.pointer (some ⟨b, 0, none⟩), v] 57 (0, 0)) := by
    rw [hgrow.block b hlt (fun e => hne e.symm)]
    exact hbk
  have d0 : w2.cell? ⟨b, 0, none⟩ = some (.pointer (some ⟨b, 0, none⟩)) := by rw [Lib.cell_of_heap hb2]; rfl
  have d1 : w2.cell? ⟨b, 1, none⟩ = some v := by rw [Lib.cell_of_heap hb2]; rfl
  have f1 : w2.frozen? ⟨b, 1, none⟩ = false := Lib.frozen_of_heap hb2 1
  obtain ⟨ao, n', cap, rfl⟩ : ∃ ao n' cap, v' = .slice ao n' cap := by
    rcases hown'.2 with ⟨hv, _⟩ | ⟨g, cap, cur, hv, _⟩
    · exact ⟨_, _, _, hv⟩
    · exact ⟨_, _, _, hv⟩
  go_wp2
  go_ret2
  refine ⟨rfl, .inr ?_, ?_, ?_⟩
  · exact Lib.BuilderAt.put (T := 57) (e := 5) hB hb2 (bs' := bs ++ Lib.strCells s) (by simpa [Lib.strCells_length] using hown') (by decide)
  · exact (hb1.grown hgrow (by omega) (fun k hk => (hown.lt k hk).1)).setCell (p := ⟨b, 1, none⟩) hB _
  · exact (hk1.trans (KeepT.grown hown hgrow)).trans (KeepT.setCell b 1 w2 _)
end Go.Proofs.YtnpifgcgjgddoaaGreatDoor

namespace Go.Proofs.YtnpifgcgjgddoaaGreatDoor
open Go.RowKit
/-- Is it a sign that stands behind a backslash? -/
def signB (b : Int) : Bool := (b == 92) || ((b == 93) || ((b == 91) || ((b == 94) || ((b == 45) || (b == 37)))))
def prnB (b : Int) : Bool := decide (32 ≤ b) && decide (b ≤ 126)

set_option maxRecDepth 100000 in
set_option maxHeartbeats 1000000 in
theorem isPrintable_any (b : Int) (w : World) :
    Calls Tryz.prog 168 #[.int .i64 b] w fun e w' => e = .returned (.bool (prnB b)) ∧ w' = w := by
  by_cases h0 : 32 ≤ b
  · have hd : decide (32 ≤ b) = true := by simpa using h0
    go_enter Tryz.func168, Tryz.ntmps168
    go_wp2
    go_ret
    exact ⟨by simp [prnB, h0], rfl⟩
  · have hd : decide (32 ≤ b) = false := by simpa using h0
    go_enter Tryz.func168, Tryz.ntmps168
    go_wp2
    go_ret
    exact ⟨by unfold prnB; rw [hd]; rfl, rfl⟩

set_option maxRecDepth 100000 in
set_option maxHeartbeats 1000000 in
theorem isSign_any (b : Int) (w : World) :
    Calls Tryz.prog 167 #[.int .i64 b] w fun e w' => e = .returned (.bool (signB b)) ∧ w' = w := by
  cases h1 : (b == 92)
  · cases h2 : (b == 93)
    · cases h3 : (b == 91)
      · cases h4 : (b == 94)
        · cases h5 : (b == 45)
          · cases h6 : (b == 37)
            · have HE : Hid (signB b = false) := (by show signB b = false; unfold signB; rw [h1, h2, h3, h4, h5, h6]; rfl)
              go_enter Tryz.func167, Tryz.ntmps167
              go_wp2
              go_ret
              exact ⟨ret_bool HE.out.symm, rfl⟩
            · have HE : Hid (signB b = true) := (by show signB b = true; unfold signB; rw [h1, h2, h3, h4, h5, h6]; rfl)
              go_enter Tryz.func167, Tryz.ntmps167
              go_wp2
              go_ret
              exact ⟨ret_bool HE.out.symm, rfl⟩
          · have HE : Hid (signB b = true) := (by show signB b = true; unfold signB; rw [h5]; simp)
            go_enter Tryz.func167, Tryz.ntmps167
            go_wp2
            go_ret
            exact ⟨ret_bool HE.out.symm, rfl⟩
        · have HE : Hid (signB b = true) := (by show signB b = true; unfold signB; rw [h4]; simp)
          go_enter Tryz.func167, Tryz.ntmps167
          go_wp2
          go_ret
          exact ⟨ret_bool HE.out.symm, rfl⟩
      · have HE : Hid (signB b = true) := (by show signB b = true; unfold signB; rw [h3]; simp)
        go_enter Tryz.func167, Tryz.ntmps167
        go_wp2
        go_ret
        exact ⟨ret_bool HE.out.symm, rfl⟩
    · have HE : Hid (signB b = true) := (by show signB b = true; unfold signB; rw [h2]; simp)
      go_enter Tryz.func167, Tryz.ntmps167
      go_wp2
      go_ret
      exact ⟨ret_bool HE.out.symm, rfl⟩
  · have HE : Hid (signB b = true) := (by show signB b = true; unfold signB; rw [h1]; simp)
    go_enter Tryz.func167, Tryz.ntmps167
    go_wp2
    go_ret
    exact ⟨ret_bool HE.out.symm, rfl⟩

/-- The digit of a number below 16. -/
def hexD (n : Nat) : UInt8 := (#[48, 49, 50, 51, 52, 53, 54, 55, 56, 57, 97, 98, 99, 100, 101, 102] : Array UInt8).getD n 0
/-- The text of one byte. -/
def itm (b : Nat) : List UInt8 :=
  if b = 10 then [92, 110] else if b = 13 then [92, 114] else if b = 9 then [92, 116] else
  if signB b then [92, UInt8.ofNat b] else if prnB b then [UInt8.ofNat b] else [92, 120, hexD (b / 16), hexD (b % 16)]

theorem ret_str {a b : ByteArray} (h : a = b) : Ending.returned (.string a) = .returned (.string b) := by rw [h]
theorem cat11 (a b : UInt8) : (⟨#[a]⟩ : ByteArray) ++ ⟨#[b]⟩ = ⟨#[a, b]⟩ := by apply ByteArray.ext; simp
theorem cat22 (a b c d : UInt8) : (⟨#[a, b]⟩ : ByteArray) ++ ⟨#[c, d]⟩ = ⟨#[a, b, c, d]⟩ := by apply ByteArray.ext; simp
theorem conv1 (c : Int) (w : World) : (convert 55 9 (.slice (some ⟨w.heap.size, 0, none⟩) 1 1)).run Tryz.prog (w.alloc (.cells #[.int .u8 c] 5)) = .ok (.string ⟨#[UInt8.ofNat c.toNat]⟩) (w.alloc (.cells #[.int .u8 c] 5)) := by
  rw [run_convert_bytes_string _ 55 9 5 _ _ _ Tryz.underlying55 Tryz.underlying5 Tryz.underlying9]
  exact run_bytesToString _ ⟨w.heap.size, 0, none⟩ 1 1 [c] (run_loadCells_list (P := Tryz.prog) _ ⟨w.heap.size, 0, none⟩ [.int .u8 c] (cell_one_new _ _ _))
theorem conv2d (c d : Int) (w : World) : (convert 55 9 (.slice (some ⟨w.heap.size, 0, none⟩) 2 2)).run Tryz.prog (w.alloc (.cells #[.int .u8 c, .int .u8 d] 5)).drew = .ok (.string ⟨#[UInt8.ofNat c.toNat, UInt8.ofNat d.toNat]⟩) (w.alloc (.cells #[.int .u8 c, .int .u8 d] 5)).drew := by
  rw [run_convert_bytes_string _ 55 9 5 _ _ _ Tryz.underlying55 Tryz.underlying5 Tryz.underlying9]
  exact run_bytesToString _ ⟨w.heap.size, 0, none⟩ 2 2 [c, d] (run_loadCells_list (P := Tryz.prog) _ ⟨w.heap.size, 0, none⟩ [.int .u8 c, .int .u8 d] (fun j u h => by
    have := cell_two_new w (.int .u8 c) (.int .u8 d) 5 j u h
    exact this))
theorem hex_of (n : Nat) (h : n < 16) : UInt8.ofNat ((((⟨#[48, 49, 50, 51, 52, 53, 54, 55, 56, 57, 97, 98, 99, 100, 101, 102]⟩ : ByteArray)[n]'h).toNat : Int).toNat) = hexD n := by
  rw [Int.toNat_natCast, UInt8.ofNat_toNat]
  unfold hexD; rw [Array.getD_eq_getD_getElem?, Array.getElem?_eq_getElem h]; rfl

set_option maxRecDepth 100000 in
set_option maxHeartbeats 1000000 in
theorem item_sign (b : Nat) (hb : b < 256) (w : World) (h1 : ((b : Int) == 10) = false) (h2 : ((b : Int) == 13) = false) (h3 : ((b : Int) == 9) = false) (h4 : signB (b : Int) = true) :
    Calls Tryz.prog 151 #[.int .i64 b] w fun e w' => e = .returned (.string ⟨#[92, UInt8.ofNat b]⟩) ∧ Below w.heap.size w w' := by
  have hw8 : IntKind.u8.wrap (b : Int) = (b : Int) := by rw [IntKind.wrap_u8']; omega
  have hcv := conv1 b w
  rw [Int.toNat_natCast] at hcv
  go_enter Tryz.func151, Tryz.ntmps151
  go_wp2_with fail
  refine (isSign_any _ _).mono ?_
  rintro e w' ⟨rfl, rfl⟩
  go_wp2
  go_ret
  exact ⟨ret_str (cat11 _ _), below1 _ _⟩

set_option maxRecDepth 100000 in
set_option maxHeartbeats 1000000 in
theorem item_prn (b : Nat) (hb : b < 256) (w : World) (h1 : ((b : Int) == 10) = false) (h2 : ((b : Int) == 13) = false) (h3 : ((b : Int) == 9) = false) (h4 : signB (b : Int) = false) (h5 : prnB (b : Int) = true) :
    Calls Tryz.prog 151 #[.int .i64 b] w fun e w' => e = .returned (.string ⟨#[UInt8.ofNat b]⟩) ∧ Below w.heap.size w w' := by
  have hw8 : IntKind.u8.wrap (b : Int) = (b : Int) := by rw [IntKind.wrap_u8']; omega
  have hcv := conv1 b w
  rw [Int.toNat_natCast] at hcv
  go_enter Tryz.func151, Tryz.ntmps151
  go_wp2_with fail
  refine (isSign_any _ _).mono ?_
  rintro e w' ⟨rfl, rfl⟩
  go_wp2_with fail
  refine (isPrintable_any _ _).mono ?_
  rintro e w' ⟨rfl, rfl⟩
  go_wp2
  go_ret
  exact ⟨rfl, below1 _ _⟩

set_option maxRecDepth 100000 in
set_option maxHeartbeats 1000000 in
theorem item_hex (b : Nat) (hb : b < 256) (w : World) (h1 : ((b : Int) == 10) = false) (h2 : ((b : Int) == 13) = false) (h3 : ((b : Int) == 9) = false) (h4 : signB (b : Int) = false) (h5 : prnB (b : Int) = false) :
    Calls Tryz.prog 151 #[.int .i64 b] w fun e w' => e = .returned (.string ⟨#[92, 120, hexD (b / 16), hexD (b % 16)]⟩) ∧ Below w.heap.size w w' := by
  have t1 : IntKind.i64.wrap ((b : Int) / 16) = ((b / 16 : Nat) : Int) := by rw [IntKind.wrap_i64]; omega
  have t2 : IntKind.i64.wrap ((b : Int) % 16) = ((b % 16 : Nat) : Int) := by rw [IntKind.wrap_i64]; omega
  have t3 : (b : Int) / 16 = ((b / 16 : Nat) : Int) := by omega
  have t4 : (b : Int) % 16 = ((b % 16 : Nat) : Int) := by omega
  have k0 : (0 : Int) ≤ ((b / 16 : Nat) : Int) := by omega
  have k1 : ((b / 16 : Nat) : Int) < 16 := by omega
  have k2 : (0 : Int) ≤ ((b % 16 : Nat) : Int) := by omega
  have k3 : ((b % 16 : Nat) : Int) < 16 := by omega
  have q1 : b / 16 < 16 := by omega
  have q2 : b % 16 < 16 := by omega
  have hcv := conv2d ((⟨#[48, 49, 50, 51, 52, 53, 54, 55, 56, 57, 97, 98, 99, 100, 101, 102]⟩ : ByteArray)[b / 16]'q1).toNat ((⟨#[48, 49, 50, 51, 52, 53, 54, 55, 56, 57, 97, 98, 99, 100, 101, 102]⟩ : ByteArray)[b % 16]'q2).toNat w
  rw [hex_of _ q1, hex_of _ q2] at hcv
  generalize b / 16 = m at *
  generalize b % 16 = n at *
  go_enter Tryz.func151, Tryz.ntmps151
  go_wp2_with fail
  refine (isSign_any _ _).mono ?_
  rintro e w' ⟨rfl, rfl⟩
  go_wp2_with fail
  refine (isPrintable_any _ _).mono ?_
  rintro e w' ⟨rfl, rfl⟩
  go_wp2_with fail
  go_region
  all_goals
    go_wp2
    go_ret
    exact ⟨ret_str (cat22 _ _ _ _), (below1 _ _).drew⟩

theorem item_any (b : Nat) (hb : b < 256) (w : World) :
    Calls Tryz.prog 151 #[.int .i64 b] w fun e w' => e = .returned (.string ⟨(itm b).toArray⟩) ∧ Below w.heap.size w w' := by
  unfold itm
  by_cases h1 : b = 10
  · subst h1; rw [if_pos rfl]
    go_enter Tryz.func151, Tryz.ntmps151
    go_wp2
    go_ret
    exact ⟨rfl, Below.refl _ _⟩
  rw [if_neg h1]
  by_cases h2 : b = 13
  · subst h2; rw [if_pos rfl]
    go_enter Tryz.func151, Tryz.ntmps151
    go_wp2
    go_ret
    exact ⟨rfl, Below.refl _ _⟩
  rw [if_neg h2]
  by_cases h3 : b = 9
  · subst h3; rw [if_pos rfl]
    go_enter Tryz.func151, Tryz.ntmps151
    go_wp2
    go_ret
    exact ⟨rfl, Below.refl _ _⟩
  rw [if_neg h3]
  have e1 : ((b : Int) == 10) = false := beq_eq_false_iff_ne.2 (by omega)
  have e2 : ((b : Int) == 13) = false := beq_eq_false_iff_ne.2 (by omega)
  have e3 : ((b : Int) == 9) = false := beq_eq_false_iff_ne.2 (by omega)
  cases h4 : signB (b : Int)
  · rw [if_neg (by simp)]
    cases h5 : prnB (b : Int)
    · rw [if_neg (by simp)]; exact item_hex b hb w e1 e2 e3 h4 h5
    · rw [if_pos rfl]; exact item_prn b hb w e1 e2 e3 h4 h5
  · rw [if_pos rfl]; exact item_sign b hb w e1 e2 e3 h4
end Go.Proofs.YtnpifgcgjgddoaaGreatDoor

namespace Go.Proofs.YtnpifgcgjgddoaaGreatDoor
/-- The class of a small letter; what it is an error of. -/
def sml (n : Nat) : BitVec 256 × Int :=
  if n = 97 then (spn 65 90 ||| spn 97 122, 0) else
  if n = 99 then (spn 0 31 ||| bt 127, 0) else
  if n = 100 then (spn 48 57, 0) else
  if n = 103 then (spn 33 126, 0) else
  if n = 108 then (spn 97 122, 0) else
  if n = 112 then (spn 33 126 &&& ~~~ (spn 65 90 ||| spn 97 122 ||| spn 48 57), 0) else
  if n = 115 then (spn 9 13 ||| bt 32, 0) else
  if n = 117 then (spn 65 90, 0) else
  if n = 119 then (spn 65 90 ||| spn 97 122 ||| spn 48 57, 0) else
  if n = 120 then (spn 48 57 ||| spn 65 70 ||| spn 97 102, 0) else
  (0#256, 10)
/-- The class of a letter, small or capital. -/
def cls (n : Nat) : BitVec 256 × Int :=
  if 65 ≤ n ∧ n ≤ 90 then (if (sml (n + 32)).2 = 0 then (~~~ (sml (n + 32)).1, 0) else (0#256, (sml (n + 32)).2)) else sml n
end Go.Proofs.YtnpifgcgjgddoaaGreatDoor
