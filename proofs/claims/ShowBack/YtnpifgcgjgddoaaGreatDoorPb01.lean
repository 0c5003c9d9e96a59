/- DERIVED. Plain mathematics and walks, laid together (1). -/
import Derived.Shelf.Small.Utf8
import Derived.Shelf.Strings.Builder1
import Derived.Shelf.Small.Strs
import Derived.Shelf.Strings.BuilderF
import Derived.Shelf.Strings.BuilderK
import Derived.Shelf.Strconv.Itoa0
import Derived.Shelf.Strconv.Itoa1
import Derived.Shelf.LaysM
import Derived.Shelf.Strconv.Itoa2
import Derived.Shelf.Strconv.Itoa3
import Derived.Shelf.Strconv.Itoa4
import Derived.Shelf.Strings.Search1
import Derived.Shelf.Strings.Prefix
import Derived.Shelf.Strings.BuilderCap
import Derived.Test.YtnpifgcgjgddoaaGreatDoorProg
import Derived.WalkKit
import Derived.Test.YtnpifgcgjgddoaaGreatDoorRows
import Derived.WalkSpells
import Derived.WalkLawsBesides
import Derived.Deep.QuietTactic
import Derived.BigQuiet
import Derived.Deep.RegionHeld3
import Derived.Maps.AppendAt
import Derived.RangeFuncNested
import Derived.RangeFuncBound
import Derived.RangeFuncCalls
import Derived.RangeFuncLeaves
import Derived.RangeFuncFrom
import Derived.Shelf.Abstract
import Derived.Shelf.RegionOpen
import Derived.OwnWalkIn
import Derived.TacticsInMore
import Derived.LoopNIn
import Derived.LoopIn
import Derived.LoopN
import Derived.RangeFuncBox
set_option maxRecDepth 100000
set_option maxHeartbeats 8000000
namespace Go.Proofs.YtnpifgcgjgddoaaGreatDoor
open Go.RowKit
theorem hO {p : Prop} (h : p) : Hid p := h
theorem bF {α : Type} [BEq α] [LawfulBEq α] {a b : α} (h : a ≠ b) : (a == b) = false := beq_eq_false_iff_ne.2 h
end Go.Proofs.YtnpifgcgjgddoaaGreatDoor
namespace Go.Proofs
open Go.Shelf
def Tryz.lays170_ren : Go.Shelf.Ren := ⟨fun | 170 => 50 | n => n, fun | 70 => 54 | 3 => 3 | 0 => 0 | 72 => 57 | 37 => 55 | 5 => 5 | n => n, fun | n => n⟩
theorem Tryz.lays170 : Go.Proofs.Lays.n170 Tryz.prog Tryz.lays170_ren := {
 mixed := by kernel_rfl
 f170 := Tryz.func50.trans (congrArg some (by kernel_rfl))
 t0 := Tryz.underlying0
 a0 := Tryz.isAgg0
 z0 := Tryz.sizeOf0
 v0 := Tryz.zeroValue0
 t3 := Tryz.underlying3
 a3 := Tryz.isAgg3
 z3 := Tryz.sizeOf3
 v3 := Tryz.zeroValue3
 t37 := Tryz.underlying55
 a37 := Tryz.isAgg55
 z37 := Tryz.sizeOf55
 v37 := Tryz.zeroValue55
 t70 := Tryz.underlying54
 a70 := Tryz.isAgg54
 z70 := Tryz.sizeOf54
 v70 := Tryz.zeroValue54
 t72 := Tryz.underlying57
 a72 := Tryz.isAgg57
 z72 := Tryz.sizeOf57
 v72 := Tryz.zeroValue57 }
open Go.RowKit in
theorem Tryz.Builder_Len (B b : Nat) (bs : List Value) (w : World) (h : Lib.IsBuilder 57 5 B b bs w) :
  Calls Tryz.prog 50 #[.pointer (some ⟨b, 0, none⟩)] w fun e w' => e = .returned (.int .i64 bs.length) /\ w' = w := Any.Builder_Len Tryz.lays170 B b bs w h
def Tryz.lays169_ren : Go.Shelf.Ren := ⟨fun | 169 => 51 | n => n, fun | 70 => 54 | 9 => 9 | 0 => 0 | 72 => 57 | 37 => 55 | 127 => 128 | 3 => 3 | 5 => 5 | n => n, fun | n => n⟩
theorem Tryz.lays169 : Go.Proofs.Lays.n169 Tryz.prog Tryz.lays169_ren := {
 mixed := by kernel_rfl
 f169 := Tryz.func51.trans (congrArg some (by kernel_rfl))
 t0 := Tryz.underlying0
 a0 := Tryz.isAgg0
 z0 := Tryz.sizeOf0
 v0 := Tryz.zeroValue0
 t3 := Tryz.underlying3
 a3 := Tryz.isAgg3
 z3 := Tryz.sizeOf3
 v3 := Tryz.zeroValue3
 t9 := Tryz.underlying9
 a9 := Tryz.isAgg9
 z9 := Tryz.sizeOf9
 v9 := Tryz.zeroValue9
 t37 := Tryz.underlying55
 a37 := Tryz.isAgg55
 z37 := Tryz.sizeOf55
 v37 := Tryz.zeroValue55
 t70 := Tryz.underlying54
 a70 := Tryz.isAgg54
 z70 := Tryz.sizeOf54
 v70 := Tryz.zeroValue54
 t72 := Tryz.underlying57
 a72 := Tryz.isAgg57
 z72 := Tryz.sizeOf57
 v72 := Tryz.zeroValue57
 t127 := Tryz.underlying128
 a127 := Tryz.isAgg128
 z127 := Tryz.sizeOf128
 v127 := Tryz.zeroValue128 }
theorem Tryz.Builder_Extra_169 : Builder.Extra Tryz.prog Tryz.lays169_ren := {
 sizeBuilder := by kernel_rfl
 liesBuilder := by kernel_rfl
 t5 := Tryz.underlying5
 a5 := Tryz.isAgg5
 z5 := Tryz.sizeOf5
 v5 := Tryz.zeroValue5
 infoByte := by kernel_rfl
 cellsByte := by kernel_rfl
 sizeByte := by kernel_rfl
 neB5 := by decide }
open Go.RowKit in
theorem Tryz.Builder_String_any (B b : Nat) (l : List UInt8) (w : World) (h : Lib.IsBuilder 57 5 B b (Lib.byteCells l) w) (hBw : B <= w.heap.size) :
  Calls Tryz.prog 51 #[.pointer (some ⟨b, 0, none⟩)] w fun e w' => e = .returned (.string ⟨l.toArray⟩) /\ Below B w w' := Any.Builder_String_any Tryz.lays169 Tryz.Builder_Extra_169 B b l w h hBw
def Tryz.lays137_ren : Go.Shelf.Ren := ⟨fun | 137 => 153 | 217 => 173 | 266 => 196 | n => n, fun | 9 => 9 | 5 => 5 | 3 => 3 | n => n, fun | n => n⟩
theorem Tryz.lays137 : Go.Proofs.Lays.n137 Tryz.prog Tryz.lays137_ren := {
 mixed := by kernel_rfl
 f137 := Tryz.func153.trans (congrArg some (by kernel_rfl))
 f217 := Tryz.func173.trans (congrArg some (by kernel_rfl))
 f266 := Tryz.func196.trans (congrArg some (by kernel_rfl))
 t3 := Tryz.underlying3
 a3 := Tryz.isAgg3
 z3 := Tryz.sizeOf3
 v3 := Tryz.zeroValue3
 t5 := Tryz.underlying5
 a5 := Tryz.isAgg5
 z5 := Tryz.sizeOf5
 v5 := Tryz.zeroValue5
 t9 := Tryz.underlying9
 a9 := Tryz.isAgg9
 z9 := Tryz.sizeOf9
 v9 := Tryz.zeroValue9 }
open Go.RowKit in
theorem Tryz.strings_IndexByte (s : ByteArray) (c : Int) (w : World) :
  Calls Tryz.prog 153 #[.string s, .int .u8 c] w fun e w' => e = .returned (.int .i64 (Lib.indexByte s.data.toList c.toNat.toUInt8)) /\ w' = w := Any.strings_IndexByte Tryz.lays137 s c w
def Tryz.lays171_ren : Go.Shelf.Ren := ⟨fun | 171 => 102 | 243 => 128 | 246 => 152 | 283 => 169 | 284 => 170 | 285 => 171 | 286 => 172 | 129 => 192 | 317 => 191 | 318 => 193 | 319 => 194 | 320 => 195 | 337 => 205 | 338 => 206 | n => n, fun | 3 => 3 | 9 => 9 | 2 => 2 | 4 => 4 | 171 => 186 | 0 => 0 | 53 => 47 | 37 => 55 | 5 => 5 | 173 => 189 | 212 => 202 | 51 => 203 | 20 => 20 | 213 => 204 | 46 => 205 | 232 => 211 | 233 => 212 | n => n, fun | 17 => 2 | 18 => 4 | 19 => 5 | n => n⟩
theorem Tryz.lays171 : Go.Proofs.Lays.n171 Tryz.prog Tryz.lays171_ren := {
 mixed := by kernel_rfl
 f129 := Tryz.func192.trans (congrArg some (by kernel_rfl))
 f171 := Tryz.func102.trans (congrArg some (by kernel_rfl))
 f243 := Tryz.func128.trans (congrArg some (by kernel_rfl))
 f246 := Tryz.func152.trans (congrArg some (by kernel_rfl))
 f283 := Tryz.func169.trans (congrArg some (by kernel_rfl))
 f284 := Tryz.func170.trans (congrArg some (by kernel_rfl))
 f285 := Tryz.func171.trans (congrArg some (by kernel_rfl))
 f286 := Tryz.func172.trans (congrArg some (by kernel_rfl))
 f317 := Tryz.func191.trans (congrArg some (by kernel_rfl))
 f318 := Tryz.func193.trans (congrArg some (by kernel_rfl))
 f319 := Tryz.func194.trans (congrArg some (by kernel_rfl))
 f320 := Tryz.func195.trans (congrArg some (by kernel_rfl))
 f337 := Tryz.func205.trans (congrArg some (by kernel_rfl))
 f338 := Tryz.func206.trans (congrArg some (by kernel_rfl))
 t0 := Tryz.underlying0
 a0 := Tryz.isAgg0
 z0 := Tryz.sizeOf0
 v0 := Tryz.zeroValue0
 t2 := Tryz.underlying2
 a2 := Tryz.isAgg2
 z2 := Tryz.sizeOf2
 v2 := Tryz.zeroValue2
 t3 := Tryz.underlying3
 a3 := Tryz.isAgg3
 z3 := Tryz.sizeOf3
 v3 := Tryz.zeroValue3
 t4 := Tryz.underlying4
 a4 := Tryz.isAgg4
 z4 := Tryz.sizeOf4
 v4 := Tryz.zeroValue4
 t5 := Tryz.underlying5
 a5 := Tryz.isAgg5
 z5 := Tryz.sizeOf5
 v5 := Tryz.zeroValue5
 t9 := Tryz.underlying9
 a9 := Tryz.isAgg9
 z9 := Tryz.sizeOf9
 v9 := Tryz.zeroValue9
 t20 := Tryz.underlying20
 a20 := Tryz.isAgg20
 z20 := Tryz.sizeOf20
 v20 := Tryz.zeroValue20
 t37 := Tryz.underlying55
 a37 := Tryz.isAgg55
 z37 := Tryz.sizeOf55
 v37 := Tryz.zeroValue55
 t46 := Tryz.underlying205
 a46 := Tryz.isAgg205
 z46 := Tryz.sizeOf205
 v46 := Tryz.zeroValue205
 t51 := Tryz.underlying203
 a51 := Tryz.isAgg203
 z51 := Tryz.sizeOf203
 v51 := Tryz.zeroValue203
 t53 := Tryz.underlying47
 a53 := Tryz.isAgg47
 z53 := Tryz.sizeOf47
 v53 := Tryz.zeroValue47
 t171 := Tryz.underlying186
 a171 := Tryz.isAgg186
 z171 := Tryz.sizeOf186
 v171 := Tryz.zeroValue186
 t173 := Tryz.underlying189
 a173 := Tryz.isAgg189
 z173 := Tryz.sizeOf189
 v173 := Tryz.zeroValue189
 t212 := Tryz.underlying202
 a212 := Tryz.isAgg202
 z212 := Tryz.sizeOf202
 v212 := Tryz.zeroValue202
 t213 := Tryz.underlying204
 a213 := Tryz.isAgg204
 z213 := Tryz.sizeOf204
 t232 := Tryz.underlying211
 a232 := Tryz.isAgg211
 z232 := Tryz.sizeOf211
 v232 := Tryz.zeroValue211
 t233 := Tryz.underlying212
 a233 := Tryz.isAgg212
 z233 := Tryz.sizeOf212
 v233 := Tryz.zeroValue212
 g17 := by kernel_rfl
 g18 := by kernel_rfl
 g19 := by kernel_rfl }
open Go.RowKit Go.Sort Go.Lib in
theorem Tryz.strconv_Itoa_small (i : Nat) (hi : i < 100) (w : World) :
  Calls Tryz.prog 102 #[.int .i64 i] w fun e w' => e = .returned (.string ⟨(Lib.decDigits i).toArray⟩) /\ w' = w := Any.strconv_Itoa_small Tryz.lays171 i hi w
def Tryz.lays99_ren : Go.Shelf.Ren := ⟨fun | 99 => 109 | 206 => 132 | n => n, fun | 9 => 9 | 4 => 4 | 3 => 3 | n => n, fun | n => n⟩
theorem Tryz.lays99 : Go.Proofs.Lays.n99 Tryz.prog Tryz.lays99_ren := {
 mixed := by kernel_rfl
 f99 := Tryz.func109.trans (congrArg some (by kernel_rfl))
 f206 := Tryz.func132.trans (congrArg some (by kernel_rfl))
 t3 := Tryz.underlying3
 a3 := Tryz.isAgg3
 z3 := Tryz.sizeOf3
 v3 := Tryz.zeroValue3
 t4 := Tryz.underlying4
 a4 := Tryz.isAgg4
 z4 := Tryz.sizeOf4
 v4 := Tryz.zeroValue4
 t9 := Tryz.underlying9
 a9 := Tryz.isAgg9
 z9 := Tryz.sizeOf9
 v9 := Tryz.zeroValue9 }
open Go.RowKit Go.Lib in
theorem Tryz.strings_HasPrefix (s p : ByteArray) (w : World) :
  Calls Tryz.prog 109 #[.string s, .string p] w fun e w' => e = .returned (.bool (Lib.hasPrefix s.data.toList p.data.toList)) /\ w' = w := Any.strings_HasPrefix Tryz.lays99 s p w
def Tryz.lays118_ren : Go.Shelf.Ren := ⟨fun | 118 => 219 | n => n, fun | 21 => 21 | 3 => 3 | 4 => 4 | n => n, fun | n => n⟩
theorem Tryz.lays118 : Go.Proofs.Lays.n118 Tryz.prog Tryz.lays118_ren := {
 mixed := by kernel_rfl
 f118 := Tryz.func219.trans (congrArg some (by kernel_rfl))
 t3 := Tryz.underlying3
 a3 := Tryz.isAgg3
 z3 := Tryz.sizeOf3
 v3 := Tryz.zeroValue3
 t4 := Tryz.underlying4
 a4 := Tryz.isAgg4
 z4 := Tryz.sizeOf4
 v4 := Tryz.zeroValue4
 t21 := Tryz.underlying21
 a21 := Tryz.isAgg21
 z21 := Tryz.sizeOf21
 v21 := Tryz.zeroValue21 }
theorem Tryz.utf8_RuneLen (r : Int) (w : World) :
  Calls Tryz.prog 219 #[.int .i32 r] w fun e w' => e = .returned (.int .i64 (Lib.runeLen r)) /\ w' = w := Any.utf8_RuneLen Tryz.lays118 r w
end Go.Proofs
namespace Go.Proofs.YtnpifgcgjgddoaaGreatDoor
open Go.RowKit
def wd (x : BitVec 256) (i : Nat) : Int := ((x.extractLsb' (64 * i) 64).toNat : Int)
def bt (b : Nat) : BitVec 256 := 1#256 <<< b
theorem zf4 (x : BitVec 256) (i : Nat) : 0 <= wd x i := by unfold wd; omega
theorem ziQ (x : BitVec 256) (i : Nat) : wd x i < 18446744073709551616 := by
 unfold wd; have := (x.extractLsb' (64 * i) 64).isLt; omega
theorem zmf (x : BitVec 256) (i : Nat) : (wd x i).toNat = (x.extractLsb' (64 * i) 64).toNat := by unfold wd; omega
theorem zbb (x : BitVec 256) (i j : Nat) : (wd x i).toNat.testBit j = (decide (j < 64) && x.getLsbD (64 * i + j)) := by
 rw [zmf, BitVec.testBit_toNat, BitVec.getLsbD_extractLsb']
theorem zbc (x : BitVec 256) (i : Nat) (n : Int) (h0 : 0 <= n) (h : ∀ j, n.toNat.testBit j = (decide (j < 64) && x.getLsbD (64 * i + j))) : n = wd x i := by
 have : n.toNat = (wd x i).toNat := Nat.eq_of_testBit_eq fun j => by rw [h j, zbb]
 have := zf4 x i
 omega
theorem ziR (x y : BitVec 256) (i : Nat) : bits .or .u64 (wd x i) (wd y i) = wd (x ||| y) i := by
 rw [u64_or _ _ (zf4 _ _) (ziQ _ _) (zf4 _ _) (ziQ _ _)]
 refine zbc _ _ _ (by omega) fun j => ?_
 rw [Int.toNat_natCast, Nat.testBit_or, zbb, zbb, BitVec.getLsbD_or]
 cases decide (j < 64) <;> simp
theorem zf5 (x y : BitVec 256) (i : Nat) : bits .and .u64 (wd x i) (wd y i) = wd (x &&& y) i := by
 rw [u64_and _ _ (zf4 _ _) (ziQ _ _) (zf4 _ _) (ziQ _ _)]
 refine zbc _ _ _ (by omega) fun j => ?_
 rw [Int.toNat_natCast, Nat.testBit_and, zbb, zbb, BitVec.getLsbD_and]
 cases decide (j < 64) <;> simp
theorem ze2 (b j : Nat) (hb : b < 256) : (bt b).getLsbD j = decide (j = b) := by
 unfold bt
 rw [BitVec.getLsbD_shiftLeft]
 by_cases h : j = b
 ·subst h; simp [hb]
 ·by_cases h1 : j < b
  ·simp [h1, h]
  ·by_cases h2 : j < 256
   ·have : j - b ≠ 0 := by omega
    simp [h, h2, BitVec.getLsbD_one, this]
   ·simp [h, h2]
theorem zmg (k : Nat) (h : k < 64) : IntKind.u64.wrap (2 ^ k) = ((2 ^ k : Nat) : Int) := by
 rw [IntKind.wrap_u64]
 have h1 : 2 ^ k < 2 ^ 64 := Nat.pow_lt_pow_right (by omega) h
 have h2 : ((2 ^ k : Nat) : Int) = (2 : Int) ^ k := by simp
 rw [<- h2]
 generalize 2 ^ k = n at *
 omega
theorem ze3 (b i : Nat) (hb : b < 256) (hi : b / 64 = i) : wd (bt b) i = ((2 ^ (b % 64) : Nat) : Int) := by
 refine (zbc _ _ _ (Int.natCast_nonneg _) fun j => ?_).symm
 rw [Int.toNat_natCast, Nat.testBit_two_pow, ze2 _ _ hb]
 by_cases h : b % 64 = j
 ·have : j < 64 := by omega
  have h2 : 64 * i + j = b := by omega
  simp [h, this, h2]
 ·by_cases h3 : j < 64
  ·have h2 : ¬ 64 * i + j = b := by omega
   simp [h, h2]
  ·simp [h, h3]
theorem zgW (b i : Nat) (hb : b < 256) (hi : b / 64 ≠ i) : wd (bt b) i = 0 := by
 refine (zbc _ _ _ (by omega) fun j => ?_).symm
 rw [ze2 _ _ hb]
 by_cases h3 : j < 64
 ·have h2 : ¬ 64 * i + j = b := by omega
  simp [h2]
 ·simp [h3]
theorem zf6 (x : BitVec 256) (i : Nat) : bits .or .u64 (wd x i) 0 = wd x i := by
 rw [u64_or _ _ (zf4 _ _) (ziQ _ _) (by omega) (by omega)]
 have := zf4 x i
 simp; omega
theorem zf7 (x : BitVec 256) (b i : Nat) (hb : b < 256) (hi : b / 64 = i) : bits .or .u64 (wd x i) (((2 ^ (b % 64) : Nat) : Int)) = wd (x ||| bt b) i := by
 rw [<- ze3 b i hb hi, ziR]
theorem zfi (x : BitVec 256) (b i : Nat) (hb : b < 256) (hi : b / 64 ≠ i) : wd (x ||| bt b) i = wd x i := by
 rw [<- ziR, zgW b i hb hi, zf6]
theorem zfj (x : BitVec 256) (b i : Nat) (hb : b < 256) (hi : b / 64 = i) : (bits .and .u64 (wd x i) (((2 ^ (b % 64) : Nat) : Int)) != 0) = x.getLsbD b := by
 rw [<- ze3 b i hb hi, zf5]
 cases h : x.getLsbD b with
 | true =>
  have h1 : (wd (x &&& bt b) i).toNat.testBit (b % 64) = true := by
   rw [zbb, BitVec.getLsbD_and, ze2 _ _ hb]
   have : 64 * i + b % 64 = b := by omega
   simp [this, h]; omega
  rw [bne_iff_ne]
  intro h2
  rw [h2] at h1
  simp at h1
 | false =>
  have : wd (x &&& bt b) i = 0 := by
   refine (zbc _ _ _ (by omega) fun j => ?_).symm
   rw [BitVec.getLsbD_and, ze2 _ _ hb]
   by_cases h2 : 64 * i + j = b
   ·simp [h2, h]
   ·simp [h2]
  rw [this]; rfl
theorem zoG (x y : BitVec 256) (h0 : wd x 0 = wd y 0) (h1 : wd x 1 = wd y 1) (h2 : wd x 2 = wd y 2) (h3 : wd x 3 = wd y 3) : x = y := by
 apply BitVec.eq_of_getLsbD_eq
 intro j hj
 have key : ∀ i, wd x i = wd y i -> j / 64 = i -> x.getLsbD j = y.getLsbD j := fun i e hi => by
  have a := zbb x i (j % 64)
  rw [e, zbb] at a
  have e1 : 64 * i + j % 64 = j := by omega
  have e2 : j % 64 < 64 := by omega
  rw [e1] at a
  simpa [e2] using a.symm
 have : j / 64 = 0 ∨ j / 64 = 1 ∨ j / 64 = 2 ∨ j / 64 = 3 := by omega
 rcases this with e | e | e | e
 ·exact key 0 h0 e
 ·exact key 1 h1 e
 ·exact key 2 h2 e
 ·exact key 3 h3 e
def pw (n : Nat) : Int := ((2 ^ (n % 64) : Nat) : Int)
theorem pw_of (b : Int) (h0 : 0 <= b) : IntKind.u64.wrap (2 ^ (b % 64).toNat) = pw b.toNat := by
 rw [zmg _ (by omega), show (b % 64).toNat = b.toNat % 64 from by omega]; rfl
theorem zd2 (x : BitVec 256) (b : Int) (h0 : 0 <= b) (h1 : b <= 255) (i : Nat) (hi : b / 64 = (i : Int)) :
  bits .or .u64 (wd x i) (pw b.toNat) = wd (x ||| bt b.toNat) i /\ ∀ j, j ≠ i -> wd x j = wd (x ||| bt b.toNat) j :=
 ⟨zf7 x _ i (by omega) (by omega), fun j hj => (zfi x _ j (by omega) (by omega)).symm⟩
theorem zb2 (b : Int) (h0 : 0 <= b) (h1 : b <= 255) : IntKind.i64.wrap (b.tdiv 64) = b / 64 := by
 rw [Int.tdiv_eq_ediv_of_nonneg h0, IntKind.wrap_i64]; omega
theorem zbv (b : Int) (w : World) :
  Calls Tryz.prog 189 #[.int .i64 b] w fun e w' => e = .returned (.bool (decide (0 <= b) && decide (b <= 255))) /\ w' = w := by
 by_cases h0 : 0 <= b
 ·have hd : decide (0 <= b) = true := by simpa using h0
  go_enter Tryz.func189, Tryz.ntmps189
  go_wp2
  go_ret
  exact ⟨by simp [h0], rfl⟩
 ·have hd : decide (0 <= b) = false := by simpa using h0
  go_enter Tryz.func189, Tryz.ntmps189
  go_wp2
  go_ret
  exact ⟨by simp, rfl⟩
abbrev sv (x : BitVec 256) : Value := .agg #[.int .u64 (wd x 0), .int .u64 (wd x 1), .int .u64 (wd x 2), .int .u64 (wd x 3)]
theorem zoH {k : IntKind} {a b : Int} (h : a = b) : Ending.returned (.int k a) = .returned (.int k b) := by rw [h]
theorem zcm (b : Int) (w : World) (h0 : 0 <= b) (h1 : b <= 255) :
  Calls Tryz.prog 190 #[.int .i64 b] w fun e w' => e = .returned (.int .u64 (pw b.toNat)) /\ w' = w := by
 go_enter Tryz.func190, Tryz.ntmps190
 go_wp2
 go_ret
 exact ⟨zoH (pw_of b h0), rfl⟩
theorem zee {a b c d : Int} {y : BitVec 256} (h0 : a = wd y 0) (h1 : b = wd y 1) (h2 : c = wd y 2) (h3 : d = wd y 3) : Ending.returned (.agg #[.int .u64 a, .int .u64 b, .int .u64 c, .int .u64 d]) = .returned (sv y) := by
 rw [h0, h1, h2, h3]
theorem zfk (x : BitVec 256) (b : Int) (w : World) (h0 : 0 <= b) (h1 : b <= 255) :
  Calls Tryz.prog 179 #[sv x, .int .i64 b] w fun e w' => e = .returned (sv (x ||| bt b.toNat)) /\ Below w.heap.size w w' := by
 have hq : b / 64 = 0 ∨ b / 64 = 1 ∨ b / 64 = 2 ∨ b / 64 = 3 := by omega
 rcases hq with hq | hq | hq | hq
 ·have hs := hO (zd2 x b h0 h1 0 hq)
  have t1 : IntKind.i64.wrap (b.tdiv 64) = 0 := by rw [zb2 b h0 h1]; exact hq
  go_enter Tryz.func179, Tryz.ntmps179
  go_wp2
  go_region_with ((go_at_call 190; refine (zcm _ _ (by omega) (by omega)).mono ?_; rintro e w' ⟨rfl, rfl⟩))
  all_goals
   go_wp2
   replace hs := hs.out
   exact bodyPost_ret (v := .agg #[.int .u64 (bits BinOp.or IntKind.u64 (wd x 0) (pw b.toNat)), .int .u64 (wd x 1), .int .u64 (wd x 2), .int .u64 (wd x 3)]) (by simp [results, Tryz.results179, go_sem]) rfl ⟨zee hs.1 (hs.2 1 (by omega)) (hs.2 2 (by omega)) (hs.2 3 (by omega)), (((Below.refl _ _).alloc (Nat.le_refl _) _).alloc (by simp) _).drew⟩
 ·have hs := hO (zd2 x b h0 h1 1 hq)
  have t1 : IntKind.i64.wrap (b.tdiv 64) = 1 := by rw [zb2 b h0 h1]; exact hq
  go_enter Tryz.func179, Tryz.ntmps179
  go_wp2
  go_region_with ((go_at_call 190; refine (zcm _ _ (by omega) (by omega)).mono ?_; rintro e w' ⟨rfl, rfl⟩))
  all_goals
   go_wp2
   replace hs := hs.out
   exact bodyPost_ret (v := .agg #[.int .u64 (wd x 0), .int .u64 (bits BinOp.or IntKind.u64 (wd x 1) (pw b.toNat)), .int .u64 (wd x 2), .int .u64 (wd x 3)]) (by simp [results, Tryz.results179, go_sem]) rfl ⟨zee (hs.2 0 (by omega)) hs.1 (hs.2 2 (by omega)) (hs.2 3 (by omega)), (((Below.refl _ _).alloc (Nat.le_refl _) _).alloc (by simp) _).drew⟩
 ·have hs := hO (zd2 x b h0 h1 2 hq)
  have t1 : IntKind.i64.wrap (b.tdiv 64) = 2 := by rw [zb2 b h0 h1]; exact hq
  go_enter Tryz.func179, Tryz.ntmps179
  go_wp2
  go_region_with ((go_at_call 190; refine (zcm _ _ (by omega) (by omega)).mono ?_; rintro e w' ⟨rfl, rfl⟩))
  all_goals
   go_wp2
   replace hs := hs.out
   exact bodyPost_ret (v := .agg #[.int .u64 (wd x 0), .int .u64 (wd x 1), .int .u64 (bits BinOp.or IntKind.u64 (wd x 2) (pw b.toNat)), .int .u64 (wd x 3)]) (by simp [results, Tryz.results179, go_sem]) rfl ⟨zee (hs.2 0 (by omega)) (hs.2 1 (by omega)) hs.1 (hs.2 3 (by omega)), (((Below.refl _ _).alloc (Nat.le_refl _) _).alloc (by simp) _).drew⟩
 ·have hs := hO (zd2 x b h0 h1 3 hq)
  have t1 : IntKind.i64.wrap (b.tdiv 64) = 3 := by rw [zb2 b h0 h1]; exact hq
  go_enter Tryz.func179, Tryz.ntmps179
  go_wp2
  go_region_with ((go_at_call 190; refine (zcm _ _ (by omega) (by omega)).mono ?_; rintro e w' ⟨rfl, rfl⟩))
  all_goals
   go_wp2
   replace hs := hs.out
   exact bodyPost_ret (v := .agg #[.int .u64 (wd x 0), .int .u64 (wd x 1), .int .u64 (wd x 2), .int .u64 (bits BinOp.or IntKind.u64 (wd x 3) (pw b.toNat))]) (by simp [results, Tryz.results179, go_sem]) rfl ⟨zee (hs.2 0 (by omega)) (hs.2 1 (by omega)) (hs.2 2 (by omega)) hs.1, (((Below.refl _ _).alloc (Nat.le_refl _) _).alloc (by simp) _).drew⟩
structure Holds (w : World) (b : Nat) (x : BitVec 256) : Prop where
 lt : b < w.heap.size
 c0 : w.cell? ⟨b, 0, none⟩ = some (.int .u64 (wd x 0))
 c1 : w.cell? ⟨b, 1, none⟩ = some (.int .u64 (wd x 1))
 c2 : w.cell? ⟨b, 2, none⟩ = some (.int .u64 (wd x 2))
 c3 : w.cell? ⟨b, 3, none⟩ = some (.int .u64 (wd x 3))
 f0 : w.frozen? ⟨b, 0, none⟩ = false
 f1 : w.frozen? ⟨b, 1, none⟩ = false
 f2 : w.frozen? ⟨b, 2, none⟩ = false
 f3 : w.frozen? ⟨b, 3, none⟩ = false
theorem Holds.below {B : Nat} {w w' : World} {b : Nat} {x : BitVec 256} (h : Holds w b x) (hb : Below B w w') (hB : b < B) : Holds w' b x :=
 ⟨Nat.lt_of_lt_of_le h.lt hb.size, (hb.cell (p := ⟨b, 0, none⟩) hB).trans h.c0, (hb.cell (p := ⟨b, 1, none⟩) hB).trans h.c1, (hb.cell (p := ⟨b, 2, none⟩) hB).trans h.c2, (hb.cell (p := ⟨b, 3, none⟩) hB).trans h.c3, (hb.frozen (p := ⟨b, 0, none⟩) hB).trans h.f0, (hb.frozen (p := ⟨b, 1, none⟩) hB).trans h.f1, (hb.frozen (p := ⟨b, 2, none⟩) hB).trans h.f2, (hb.frozen (p := ⟨b, 3, none⟩) hB).trans h.f3⟩
theorem Holds.drew {w : World} {b : Nat} {x : BitVec 256} (h : Holds w b x) : Holds w.drew b x := h.below (Below.refl w.heap.size w).drew h.lt
theorem Holds.alloc {w : World} {b : Nat} {x : BitVec 256} (h : Holds w b x) (o : Obj) : Holds (w.alloc o) b x := h.below ((Below.refl w.heap.size w).alloc (Nat.le_refl _) o) h.lt
theorem Holds.new (w : World) (x : BitVec 256) : Holds (w.alloc (.cells #[.int .u64 (wd x 0), .int .u64 (wd x 1), .int .u64 (wd x 2), .int .u64 (wd x 3)] 49)) w.heap.size x := by
 constructor <;> simp [go_sem]
theorem zah (i : Nat) : wd 0#256 i = 0 := by unfold wd; simp
theorem Holds.zero (w : World) : Holds (w.alloc (.cells #[.int .u64 0, .int .u64 0, .int .u64 0, .int .u64 0] 49)) w.heap.size 0#256 := by
 have h := Holds.new w 0#256
 rw [zah, zah, zah, zah] at h
 exact h
theorem Holds.zero' (w : World) (o : Obj) : Holds ((w.alloc o).alloc (.cells #[.int .u64 0, .int .u64 0, .int .u64 0, .int .u64 0] 49)) (w.heap.size + 1) 0#256 := by
 have h := Holds.zero (w.alloc o)
 rw [show (w.alloc o).heap.size = w.heap.size + 1 from by simp] at h
 exact h
abbrev put4 (w : World) (b : Nat) (y : BitVec 256) : World := (((w.setCell ⟨b, 0, none⟩ (.int .u64 (wd y 0))).setCell ⟨b, 1, none⟩ (.int .u64 (wd y 1))).setCell ⟨b, 2, none⟩ (.int .u64 (wd y 2))).setCell ⟨b, 3, none⟩ (.int .u64 (wd y 3))
theorem Holds.put {w : World} {b : Nat} {x : BitVec 256} (h : Holds w b x) (y : BitVec 256) : Holds (put4 w b y) b y := by
 obtain ⟨lt, c0, c1, c2, c3, f0, f1, f2, f3⟩ := h
 constructor <;> simp [go_sem, *]
theorem Holds.put_other {w : World} {b c : Nat} {x : BitVec 256} (h : Holds w c x) (hne : c ≠ b) (y : BitVec 256) : Holds (put4 w b y) c x := by
 obtain ⟨lt, c0, c1, c2, c3, f0, f1, f2, f3⟩ := h
 constructor <;> simp [go_sem, *]
def ofB (f : Nat -> Bool) : Nat -> BitVec 256
 | 0 => 0#256
 | n + 1 => if f n then ofB f n ||| bt n else ofB f n
theorem zoI (f : Nat -> Bool) (n : Nat) (hn : n <= 256) (j : Nat) : (ofB f n).getLsbD j = (decide (j < n) && f j) := by
 induction n with
 | zero => simp [ofB]
 | succ n ih =>
  have ih := ih (by omega)
  unfold ofB
  by_cases h : f n = true
  ·rw [if_pos h, BitVec.getLsbD_or, ih, ze2 _ _ (by omega)]
   by_cases e : j = n
   ·subst e; simp [h]
   ·have : decide (j < n + 1) = decide (j < n) := decide_eq_decide.2 (by omega)
    simp [e, this]
  ·rw [if_neg h, ih]
   by_cases e : j = n
   ·subst e; simp [h]
   ·have : decide (j < n + 1) = decide (j < n) := decide_eq_decide.2 (by omega)
    simp [this]
theorem znT (x y : BitVec 256) (h : ∀ j, j < 256 -> x.getLsbD j = y.getLsbD j) : x = y := BitVec.eq_of_getLsbD_eq h
def spn (lo hi : Int) : BitVec 256 := ofB (fun j => decide (lo <= (j : Int))) (hi + 1).toNat
theorem zc2 (lo hi : Int) (h1 : hi <= 255) (j : Nat) : (spn lo hi).getLsbD j = (decide (lo <= (j : Int)) && decide ((j : Int) <= hi)) := by
 unfold spn
 rw [zoI _ _ (by omega)]
 have : decide (j < (hi + 1).toNat) = decide ((j : Int) <= hi) := decide_eq_decide.2 (by omega)
 rw [this, Bool.and_comm]
theorem zoJ (lo : Int) (h0 : 0 <= lo) (h1 : lo <= 256) : spn lo (lo - 1) = 0#256 := by
 refine znT _ _ fun j hj => ?_
 rw [zc2 _ _ (by omega)]
 by_cases h : lo <= (j : Int)
 ·have : ¬ (j : Int) <= lo - 1 := by omega
  simp [this]
 ·simp [h]
theorem zmh (lo b : Int) (h0 : 0 <= lo) (hb : lo <= b) (h1 : b <= 255) : spn lo b = spn lo (b - 1) ||| bt b.toNat := by
 refine znT _ _ fun j hj => ?_
 rw [zc2 _ _ (by omega), BitVec.getLsbD_or, zc2 _ _ (by omega), ze2 _ _ (by omega)]
 by_cases e : j = b.toNat
 ·have a1 : lo <= (j : Int) := by omega
  have a2 : (j : Int) <= b := by omega
  rw [decide_eq_true a1, decide_eq_true a2, decide_eq_true e]; simp
 ·have : decide ((j : Int) <= b) = decide ((j : Int) <= b - 1) := decide_eq_decide.2 (by omega)
  simp [e, this]
def zf8 (f : Nat -> Bool) : Nat -> Nat
 | 0 => 0
 | n + 1 => zf8 f n + (f n).toNat
theorem ziS (f : Nat -> Bool) (n : Nat) : zf8 f (n + 1) = zf8 f n + (f n).toNat := rfl
theorem zhS (f : Nat -> Bool) (n : Nat) : zf8 f n <= n := by
 induction n with
 | zero => exact Nat.le_refl _
 | succ n ih => unfold zf8; cases f n <;> simp <;> omega
def hasB (x : BitVec 256) (b : Int) : Bool := decide (0 <= b) && (decide (b <= 255) && x.getLsbD b.toNat)
theorem zoK (x : BitVec 256) (b : Int) (h : ¬ (0 <= b /\ b <= 255)) : hasB x b = false := by
 unfold hasB
 by_cases h0 : 0 <= b
 ·have : ¬ b <= 255 := fun h1 => h ⟨h0, h1⟩
  simp [this]
 ·simp [h0]
theorem zhT (x : BitVec 256) (b : Int) (h0 : 0 <= b) (h1 : b <= 255) : hasB x b = x.getLsbD b.toNat := by
 unfold hasB; simp [h0, h1]
theorem zaU {a b : Bool} (h : a = b) : Ending.returned (.bool a) = .returned (.bool b) := by rw [h]
theorem zjD (x : BitVec 256) (b : Int) (w : World) :
  Calls Tryz.prog 166 #[sv x, .int .i64 b] w fun e w' => e = .returned (.bool (hasB x b)) /\ Below w.heap.size w w' := by
 by_cases hb : 0 <= b /\ b <= 255
 ·obtain ⟨h0, h1⟩ := hb
  have hi : (decide (0 <= b) && decide (b <= 255)) = true := by simp [h0, h1]
  have hy := hO (zhT x b h0 h1)
  have hq : b / 64 = 0 ∨ b / 64 = 1 ∨ b / 64 = 2 ∨ b / 64 = 3 := by omega
  rcases hq with hq | hq | hq | hq
  ·have t1 : IntKind.i64.wrap (b.tdiv 64) = 0 := by rw [zb2 b h0 h1]; exact hq
   have hs := hO (zfj x b.toNat 0 (by omega) (by omega))
   go_enter Tryz.func166, Tryz.ntmps166
   go_wp2
   go_quiet (first | (go_at_call 189; exact Calls.quiet_of_same (zbv _ _)) | (go_at_call 190; exact Calls.quiet_of_same (zcm _ _ (by omega) (by omega))))
   go_wp2
   go_ret
   exact ⟨zaU (hs.out.trans hy.out.symm), below_drewN ((Below.refl _ _).alloc (Nat.le_refl _) _) _⟩
  ·have t1 : IntKind.i64.wrap (b.tdiv 64) = 1 := by rw [zb2 b h0 h1]; exact hq
   have hs := hO (zfj x b.toNat 1 (by omega) (by omega))
   go_enter Tryz.func166, Tryz.ntmps166
   go_wp2
   go_quiet (first | (go_at_call 189; exact Calls.quiet_of_same (zbv _ _)) | (go_at_call 190; exact Calls.quiet_of_same (zcm _ _ (by omega) (by omega))))
   go_wp2
   go_ret
   exact ⟨zaU (hs.out.trans hy.out.symm), below_drewN ((Below.refl _ _).alloc (Nat.le_refl _) _) _⟩
  ·have t1 : IntKind.i64.wrap (b.tdiv 64) = 2 := by rw [zb2 b h0 h1]; exact hq
   have hs := hO (zfj x b.toNat 2 (by omega) (by omega))
   go_enter Tryz.func166, Tryz.ntmps166
   go_wp2
   go_quiet (first | (go_at_call 189; exact Calls.quiet_of_same (zbv _ _)) | (go_at_call 190; exact Calls.quiet_of_same (zcm _ _ (by omega) (by omega))))
   go_wp2
   go_ret
   exact ⟨zaU (hs.out.trans hy.out.symm), below_drewN ((Below.refl _ _).alloc (Nat.le_refl _) _) _⟩
  ·have t1 : IntKind.i64.wrap (b.tdiv 64) = 3 := by rw [zb2 b h0 h1]; exact hq
   have hs := hO (zfj x b.toNat 3 (by omega) (by omega))
   go_enter Tryz.func166, Tryz.ntmps166
   go_wp2
   go_quiet (first | (go_at_call 189; exact Calls.quiet_of_same (zbv _ _)) | (go_at_call 190; exact Calls.quiet_of_same (zcm _ _ (by omega) (by omega))))
   go_wp2
   go_ret
   exact ⟨zaU (hs.out.trans hy.out.symm), below_drewN ((Below.refl _ _).alloc (Nat.le_refl _) _) _⟩
 ·have hi : (decide (0 <= b) && decide (b <= 255)) = false := by
   by_cases h0 : 0 <= b
   ·have : ¬ b <= 255 := fun h1 => hb ⟨h0, h1⟩
    simp [this]
   ·simp [h0]
  have hy := hO (zoK x b hb)
  go_enter Tryz.func166, Tryz.ntmps166
  go_wp2
  go_quiet (first | (go_at_call 189; exact Calls.quiet_of_same (zbv _ _)) | (go_at_call 190; exact Calls.quiet_of_same (zcm _ _ (by omega) (by omega))))
  go_wp2
  go_ret
  exact ⟨zaU hy.out.symm, below_drewN ((Below.refl _ _).alloc (Nat.le_refl _) _) _⟩
def zdX (x : BitVec 256) : Nat -> List Int
 | 0 => []
 | n + 1 => if x.getLsbD n then zdX x n ++ [(n : Int)] else zdX x n
abbrev bys (x : BitVec 256) : List Int := zdX x 256
def zae (l : List Int) : ByteArray := l.foldl (fun r n => r.push (UInt8.ofNat n.toNat)) ByteArray.empty
def cnt (x : BitVec 256) : Nat := zf8 x.getLsbD 256
theorem zdC (x : BitVec 256) (n : Nat) : zdX x (n + 1) = if x.getLsbD n then zdX x n ++ [(n : Int)] else zdX x n := rfl
theorem zf9 (x : BitVec 256) (k : Nat) : (zdX x k).length = zf8 x.getLsbD k := by
 induction k with
 | zero => rfl
 | succ n ih =>
  rw [zdC, ziS]
  cases h : x.getLsbD n <;> simp [ih]
theorem zoL (x : BitVec 256) : (bys x).length = cnt x := zf9 x 256
theorem cnt_le (x : BitVec 256) : cnt x <= 256 := zhS _ _
theorem zef (x : BitVec 256) (k : Nat) (b : Int) : b ∈ zdX x k ↔ 0 <= b /\ b < k /\ x.getLsbD b.toNat = true := by
 induction k with
 | zero => simp [zdX]; omega
 | succ n ih =>
  rw [zdC]
  cases h : x.getLsbD n
  ·simp only [Bool.false_eq_true, if_false, ih]
   constructor
   ·rintro ⟨a, b1, c⟩; exact ⟨a, by omega, c⟩
   ·rintro ⟨a, b1, c⟩
    refine ⟨a, ?_, c⟩
    have : b ≠ n := fun e => by rw [e, Int.toNat_natCast, h] at c; cases c
    omega
  ·simp only [if_true, List.mem_append, ih, List.mem_singleton]
   constructor
   ·rintro (⟨a, b1, c⟩ | e)
    ·exact ⟨a, by omega, c⟩
    ·subst e; exact ⟨by omega, by omega, by rw [Int.toNat_natCast]; exact h⟩
   ·rintro ⟨a, b1, c⟩
    by_cases e : b = n
    ·exact .inr e
    ·exact .inl ⟨a, by omega, c⟩
theorem zmi (x : BitVec 256) (k : Nat) (b : Int) (h : b ∈ zdX x k) : 0 <= b /\ b < k := ⟨((zef x k b).1 h).1, ((zef x k b).1 h).2.1⟩
theorem za4 (l : List Int) : (zae l).data.toList = l.map (fun n => UInt8.ofNat n.toNat) := by
 have key : ∀ (l : List Int) (s : ByteArray), (l.foldl (fun r n => r.push (UInt8.ofNat n.toNat)) s).data.toList = s.data.toList ++ l.map (fun n => UInt8.ofNat n.toNat) := by
  intro l
  induction l with
  | nil => intro s; simp
  | cons b l ih => intro s; rw [List.foldl_cons, ih]; simp [ByteArray.push]
 have := key l ByteArray.empty
 simpa [zae] using this
theorem zao (l : List Int) : (zae l).size = l.length := by
 have h := congrArg List.length (za4 l)
 simpa using h
abbrev c4 (x : BitVec 256) : Obj := .cells #[.int .u64 (wd x 0), .int .u64 (wd x 1), .int .u64 (wd x 2), .int .u64 (wd x 3)] 49
abbrev z4 : Obj := .cells #[.int .u64 0, .int .u64 0, .int .u64 0, .int .u64 0] 49
theorem Tryz.info5 : (Tryz.prog.info? 5).map (fun i => (i.zero, i.size, i.bytes)) = some (some (.int .u8 0), 1, 1) := by kernel_rfl
theorem zaX {w w' : World} {base e size : Nat} {v : Value} {n : Nat} {xs : List Value} (h : w.ownsRow base e size v n xs) (hb : Below w.heap.size w w') (_hB : base <= w.heap.size) : w'.ownsRow base e size v n xs := by
 refine h.kept (row := none) ⟨hb.os, hb.tape, hb.output, hb.size, fun k hk _ => hb.block k hk⟩ ?_
 cases h2 : v.ownBlock
 ·exact .inl rfl
 ·exact .inr (by simp)
open Go.RowKit Go.Shelf
attribute [local go_sem] Oper.semAt_some
def KeepB (b : Nat) (W W' : World) : Prop := W'.heap[b]? = W.heap[b]?
theorem KeepB.trans {b : Nat} {A B C : World} (h : KeepB b A B) (k : KeepB b B C) : KeepB b A C := Eq.trans k h
theorem KeepB.put {b : Nat} {w : World} (hb : b < w.heap.size) (W : World) (l : Nat) (o o' : Obj) (hl : w.heap.size <= l) (_ : W.heap[l]? = some o) (_ : o.isCells = false) (_ : o.isWalk = false) : KeepB b W (W.putObj l o') := by
 by_cases h : b < W.heap.size
 ·exact (grownBy_putObj' W l o').block b h (fun e => by cases e; omega)
 ·have e1 : W.heap[b]? = none := Array.getElem?_eq_none (by omega)
  have e2 : (W.putObj l o').heap.size = W.heap.size := by simp [World.putObj]
  show (W.putObj l o').heap[b]? = W.heap[b]?
  rw [e1]; exact Array.getElem?_eq_none (by omega)
theorem KeepB.setCell {b : Nat} {W : World} {p : Addr} (h : b ≠ p.block) (u : Value) : KeepB b W (W.setCell p u) := Below.heap_setCell _ _ _ _ h
theorem KeepB.alloc {b : Nat} {W : World} (h : b < W.heap.size) (o : Obj) : KeepB b W (W.alloc o) := Below.heap_alloc _ _ _ h
theorem KeepB.grown {b : Nat} {W W' : World} {row : Option Nat} (h : W.grownBy W' row) (hb : b < W.heap.size) (hne : row ≠ some b) : KeepB b W W' := h.block b hb (fun e => hne e.symm)
theorem Holds.keep {w w' : World} {b : Nat} {x : BitVec 256} (h : Holds w b x) (e : KeepB b w w') : Holds w' b x := by
 have hl : b < w'.heap.size := by
  obtain ⟨o, h1⟩ : ∃ o, w.heap[b]? = some o := ⟨_, Array.getElem?_eq_getElem h.lt⟩
  have h2 : w'.heap[b]? = some o := Eq.trans e h1
  exact (Array.getElem?_eq_some_iff.1 h2).1
 exact ⟨hl, (World.cell?_of_block (a := ⟨b, 0, none⟩) e).trans h.c0, (World.cell?_of_block (a := ⟨b, 1, none⟩) e).trans h.c1, (World.cell?_of_block (a := ⟨b, 2, none⟩) e).trans h.c2, (World.cell?_of_block (a := ⟨b, 3, none⟩) e).trans h.c3,
  (World.frozen?_of_block (a := ⟨b, 0, none⟩) e).trans h.f0, (World.frozen?_of_block (a := ⟨b, 1, none⟩) e).trans h.f1, (World.frozen?_of_block (a := ⟨b, 2, none⟩) e).trans h.f2, (World.frozen?_of_block (a := ⟨b, 3, none⟩) e).trans h.f3⟩
def byf (x : BitVec 256) : Nat -> List (Fin 256)
 | 0 => []
 | n + 1 => if h : n < 256 then (if x.getLsbD n then byf x n ++ [⟨n, h⟩] else byf x n) else byf x n
theorem zjE (x : BitVec 256) (n : Nat) (h : n < 256) (hb : x.getLsbD n = true) : byf x (n + 1) = byf x n ++ [⟨n, h⟩] := by
 rw [byf, dif_pos h, if_pos hb]
theorem znU (x : BitVec 256) (n : Nat) (h : n < 256) (hb : x.getLsbD n = false) : byf x (n + 1) = byf x n := by
 rw [byf, dif_pos h, hb]; rfl
theorem zjF (x : BitVec 256) (k : Nat) (hk : k <= 256) : (byf x k).map (fun b => (b.val : Int)) = zdX x k := by
 induction k with
 | zero => rfl
 | succ n ih =>
  rw [zdC]
  cases hb : x.getLsbD n
  ·rw [znU x n (by omega) hb, ih (by omega)]; rfl
  ·rw [zjE x n (by omega) hb, List.map_append, ih (by omega)]; rfl
theorem zoM (x : BitVec 256) (k : Nat) (hk : k <= 256) : (byf x k).length = zf8 x.getLsbD k := by
 rw [<- zf9, <- zjF x k hk, List.length_map]
theorem zmj (x : BitVec 256) (k m : Nat) (h : k <= m) : byf x k <+: byf x m := by
 induction m with
 | zero =>
  obtain rfl : k = 0 := by omega
  exact List.prefix_refl _
 | succ m ih =>
  by_cases e : k = m + 1
  ·subst e; exact List.prefix_refl _
  ·refine (ih (by omega)).trans ?_
   rw [byf]
   split
   ·split
    ·exact List.prefix_append _ _
    ·exact List.prefix_refl _
   ·exact List.prefix_refl _
theorem zoN (x : BitVec 256) (k : Nat) (h : k <= 256) {l : List (Fin 256)} (e : byf x k = l) : l <+: byf x 256 := by
 rw [<- e]; exact zmj x k 256 h
theorem zbN {W W' : World} (hb : Below W.heap.size W W') : W.grownBy W' none := ⟨hb.os, hb.tape, hb.output, hb.size, fun k hk _ => hb.block k hk⟩
theorem zmk (n : Nat) (hn : 1 <= n) (l Bn B0 : Nat) (x : BitVec 256) (J Jx : List (Fin 256) -> World -> Prop) (hJ : AbidesFrom B0 J)
  (hY : ∀ pre b W, J pre W -> pre.length < 256 -> YieldAt Fence.wide (n - 1) Tryz.prog l #[.int .i64 (b.val : Int)] W fun e W' =>
   (e = .returned (.bool true) /\ J (pre ++ [b]) W' /\ KeepB Bn W W') ∨ (e = .returned (.bool false) /\ Jx (pre ++ [b]) W'))
  (W : World) (hX : Holds W Bn x) (h0 : J [] W) :
  CallsIn Fence.wide n Tryz.prog 165 #[.func (.yield l) #[] #[], .pointer (some ⟨Bn, 0, none⟩)] W fun e W' => (∃ v, e = .returned v) ∧
   ((∃ ys, ys = byf x 256 /\ J ys W') ∨ (∃ pre, pre <+: byf x 256 /\ Jx pre W')) := by
 refine callsIn_of_wp Tryz.func165 rfl trivial ?_ rfl
 simp only [Tryz.ntmps165, List.size_toArray, List.length_cons, List.length_nil, Nat.reduceAdd, Nat.reduceSub, Array.replicate_succ, Array.replicate_zero, List.push_toArray, List.append_toArray, List.nil_append, List.cons_append]
 gi_wp2
 gi_loopw [4] (fun t wr => ∃ k : Nat, k <= 256 /\ t = .int .i64 k /\ J (byf x k) wr /\ Holds wr Bn x) (fun t _ => 256 - (intOf t).toNat)
 case atStart => exact ⟨0, by omega, rfl, h0, hX⟩
 case round =>
  obtain ⟨k, hk, rfl, hj, hx⟩ := hrel
  have HX := hO hx
  have HJ := hO hj
  by_cases hlt : k < 256
  ·obtain ⟨l0, c0, c1, c2, c3, f0, f1, f2, f3⟩ := hx
   have hd : decide ((k : Int) < 256) = true := decide_eq_true (by omega)
   have HG := hO (zhT x k (by omega) (by omega))
   have hlen : (byf x k).length < 256 := by have := zhS x.getLsbD k; rw [zoM x k hk]; omega
   clear hj
   cases hb : hasB x k
   ·have HE : Hid (byf x (k + 1) = byf x k) := (by
     rw [HG.out, Int.toNat_natCast] at hb
     exact znU x k hlt hb)
    gi_wp2_with fail
    refine ⟨trivial, (callsIn_wide.2 (zjD x k _)).mono ?_⟩
    rintro e W1 ⟨rfl, hb1⟩
    have hX1 := hO (HX.out.below hb1 l0)
    have hJ1 := hO (hJ _ _ _ none HJ.out (zbN hb1) (fun r e => by cases e))
    clear hb1
    gi_wp2
    refine ⟨fun _ h => (by cases h), ?_⟩
    gi_wp2
    go_roundw
    case rel => exact ⟨k + 1, by omega, by go_num, (by rw [HE.out]; exact hJ1.out), hX1.out⟩
    case measure => simp [intOf]; omega
   ·have HE : Hid (byf x (k + 1) = byf x k ++ [⟨k, hlt⟩]) := (by
     rw [HG.out, Int.toNat_natCast] at hb
     exact zjE x k hlt hb)
    gi_wp2_with fail
    refine ⟨trivial, (callsIn_wide.2 (zjD x k _)).mono ?_⟩
    rintro e W1 ⟨rfl, hb1⟩
    have hX1 := hO (HX.out.below hb1 l0)
    have hJ1 := hJ _ _ _ none HJ.out (zbN hb1) (fun r e => by cases e)
    clear hb1
    obtain ⟨fn, tmps, assign, body, hy, hR⟩ := hY (byf x k) ⟨k, hlt⟩ W1 hJ1 hlen
    dsimp only at hy
    clear hJ1
    gi_wp2
    refine hR.mono ?_
    rintro e W3 (⟨rfl, hJ3, hk3⟩ | ⟨rfl, hJx3⟩)
    ·have hX3 := hO (hX1.out.keep hk3)
     gi_wp2
     go_roundw
     case rel => exact ⟨k + 1, by omega, by go_num, (by rw [HE.out]; exact hJ3), hX3.out⟩
     case measure => simp [intOf]; omega
    ·gi_wp2
     refine bodyPost_ret (results_none rfl _ _ _) rfl ?_
     exact ⟨⟨_, rfl⟩, .inr ⟨_, zoN x (k + 1) (by omega) HE.out, hJx3⟩⟩
  ·obtain rfl : k = 256 := by omega
   have hd : decide (((256 : Nat) : Int) < 256) = false := by simp
   gi_wp2
   go_end0
   exact ⟨⟨_, rfl⟩, .inl ⟨_, rfl, hj⟩⟩
theorem zoO (n : Nat) (x : BitVec 256) (w : World) :
  CallsIn Fence.wide n Tryz.prog 150 #[sv x] w fun e w' => e = .returned (.func (.func 165) #[] #[.pointer (some ⟨w.heap.size, 0, none⟩)]) /\ w' = w.alloc (c4 x) := by
 refine callsIn_of_wp Tryz.func150 rfl trivial ?_ rfl
 simp only [Tryz.ntmps150, List.size_toArray, List.length_cons, List.length_nil, Nat.reduceAdd, Nat.reduceSub, Array.replicate_succ, Array.replicate_zero, List.push_toArray, List.append_toArray, List.nil_append, List.cons_append]
 gi_wp2
 go_ret
 exact ⟨rfl, rfl⟩
theorem ziT (n : Nat) (hn : 1 <= n) (Bn : Nat) (x : BitVec 256) (w : World) (hX : Holds w Bn x) :
  SeqStopsK Fence.wide n Tryz.prog 165 #[.pointer (some ⟨Bn, 0, none⟩)] (fun b : Fin 256 => #[Value.int .i64 (b.val : Int)]) (KeepB Bn) (fun ys => ys = byf x 256) (fun pre => pre <+: byf x 256) 256 w := fun l J Jx W hW hJ _ hY h0 =>
 zmk n hn l Bn W.heap.size x J Jx hJ hY W (hX.below hW hX.lt) h0
theorem zhU (x : BitVec 256) (i : Nat) (hi : i < 4) : bits .xor .u64 IntKind.u64.max (wd x i) = wd (~~~ x) i := by
 have hm : IntKind.u64.max = 18446744073709551615 := rfl
 rw [hm, u64_xor _ _ (by omega) (by omega) (zf4 _ _) (ziQ _ _)]
 refine zbc _ _ _ (Int.natCast_nonneg _) fun j => ?_
 rw [Int.toNat_natCast, Nat.testBit_xor, zbb, BitVec.getLsbD_not]
 have e : (18446744073709551615 : Int).toNat = 2 ^ 64 - 1 := rfl
 rw [e, Nat.testBit_two_pow_sub_one]
 by_cases h : j < 64
 ·have : 64 * i + j < 256 := by omega
  simp [h, this]
 ·simp [h]
theorem zfl (x : BitVec 256) (w : World) :
  Calls Tryz.prog 149 #[sv x] w fun e w' => e = .returned (sv (~~~ x)) /\ Below w.heap.size w w' := by
 have hsg : IntKind.u64.signed = false := rfl
 go_enter Tryz.func149, Tryz.ntmps149
 go_wp2
 refine wp_loop_rounds 5 ?_
 iterate 5
  rw [rounds_succ]
  go_wp2
 exact bodyPost_ret (v := .agg #[.int .u64 (bits BinOp.xor IntKind.u64 IntKind.u64.max (wd x 0)), .int .u64 (bits BinOp.xor IntKind.u64 IntKind.u64.max (wd x 1)), .int .u64 (bits BinOp.xor IntKind.u64 IntKind.u64.max (wd x 2)), .int .u64 (bits BinOp.xor IntKind.u64 IntKind.u64.max (wd x 3))]) (by simp [results, Tryz.results149, go_sem]) rfl ⟨zee (zhU x 0 (by omega)) (zhU x 1 (by omega)) (zhU x 2 (by omega)) (zhU x 3 (by omega)), (((Below.refl _ _).alloc (Nat.le_refl _) _).alloc (by simp) _)⟩
theorem zjG (x y : BitVec 256) (w : World) :
  Calls Tryz.prog 176 #[sv x, sv y] w fun e w' => e = .returned (sv (x ||| y)) /\ Below w.heap.size w w' := by
 go_enter Tryz.func176, Tryz.ntmps176
 go_wp2
 refine wp_loop_rounds 5 ?_
 iterate 4
  rw [rounds_succ]
  go_wp2
  go_region
  go_wp2
 rw [rounds_succ]
 go_wp2
 exact bodyPost_ret (v := .agg #[.int .u64 (bits BinOp.or IntKind.u64 (wd x 0) (wd y 0)), .int .u64 (bits BinOp.or IntKind.u64 (wd x 1) (wd y 1)), .int .u64 (bits BinOp.or IntKind.u64 (wd x 2) (wd y 2)), .int .u64 (bits BinOp.or IntKind.u64 (wd x 3) (wd y 3))]) (by simp [results, Tryz.results176, go_sem]) rfl ⟨zee (ziR x y 0) (ziR x y 1) (ziR x y 2) (ziR x y 3), (Below.drew (Below.drew (Below.drew (Below.drew ((((Below.refl _ _).alloc (Nat.le_refl _) _).alloc (by simp) _).alloc (by simp; omega) _)))))⟩
theorem zml (x y : BitVec 256) (w : World) :
  Calls Tryz.prog 200 #[sv x, sv y] w fun e w' => e = .returned (sv (x &&& y)) /\ Below w.heap.size w w' := by
 go_enter Tryz.func200, Tryz.ntmps200
 go_wp2
 refine wp_loop_rounds 5 ?_
 iterate 4
  rw [rounds_succ]
  go_wp2
  go_region
  go_wp2
 rw [rounds_succ]
 go_wp2
 exact bodyPost_ret (v := .agg #[.int .u64 (bits BinOp.and IntKind.u64 (wd x 0) (wd y 0)), .int .u64 (bits BinOp.and IntKind.u64 (wd x 1) (wd y 1)), .int .u64 (bits BinOp.and IntKind.u64 (wd x 2) (wd y 2)), .int .u64 (bits BinOp.and IntKind.u64 (wd x 3) (wd y 3))]) (by simp [results, Tryz.results200, go_sem]) rfl ⟨zee (zf5 x y 0) (zf5 x y 1) (zf5 x y 2) (zf5 x y 3), (Below.drew (Below.drew (Below.drew (Below.drew ((((Below.refl _ _).alloc (Nat.le_refl _) _).alloc (by simp) _).alloc (by simp; omega) _)))))⟩
theorem size1 (w : World) (a : Obj) : (w.alloc a).heap.size = w.heap.size + 1 := by simp
theorem size2 (w : World) (a b : Obj) : ((w.alloc a).alloc b).heap.size = w.heap.size + 1 + 1 := by simp
theorem size3 (w : World) (a b c : Obj) : (((w.alloc a).alloc b).alloc c).heap.size = w.heap.size + 1 + 1 + 1 := by simp
theorem holds3 (w : World) (a b : Obj) : Holds (((w.alloc a).alloc b).alloc z4) (w.heap.size + 1 + 1) 0#256 := by
 have h := Holds.zero ((w.alloc a).alloc b)
 rw [size2] at h
 exact h
theorem zcy (w : World) (a b c : Obj) : Below w.heap.size w (((w.alloc a).alloc b).alloc c) :=
 (((Below.refl _ _).alloc (Nat.le_refl _) _).alloc (by simp) _).alloc (by simp; omega) _
theorem zmm (x y : BitVec 256) (w : World) :
  Calls Tryz.prog 181 #[sv x, sv y] w fun e w' => e = .returned (sv (x &&& ~~~ y)) /\ Below w.heap.size w w' := by
 have hsz := size3 w (c4 x) (c4 y) z4
 have HX := hO (((Holds.new w x).alloc (c4 y)).alloc z4)
 have HH := hO (holds3 w (c4 x) (c4 y))
 have HB := hO (zcy w (c4 x) (c4 y) z4)
 have HR : Hid (Below (w.heap.size + 1 + 1 + 1) (((w.alloc (c4 x)).alloc (c4 y)).alloc z4) (((w.alloc (c4 x)).alloc (c4 y)).alloc z4)) := Below.refl _ _
 go_enter Tryz.func181, Tryz.ntmps181
 go_wp2
 go_region_with (first | (go_at_call 149; refine (zfl _ _).mono ?_; rintro e w1 ⟨rfl, hb⟩; have hz1 := hb.size; (try simp at hz1); replace HR : Hid (Below (w.heap.size + 1 + 1 + 1) (((w.alloc (c4 x)).alloc (c4 y)).alloc z4) w1) := (by first | exact HR.out.trans (hb.mono (by omega)) | exact HR.out.drew.trans (hb.mono (by simp))); obtain ⟨l5, p0, p1, p2, p3, q0, q1, q2, q3⟩ := HH.out.below HR.out (by omega); obtain ⟨l0, c0, c1, c2, c3, f0, f1, f2, f3⟩ := HX.out.below HR.out (by omega)) | (go_at_call 200; refine (zml _ _ _).mono ?_; rintro e w1 ⟨rfl, hb⟩; have hz1 := hb.size; (try simp at hz1); replace HR : Hid (Below (w.heap.size + 1 + 1 + 1) (((w.alloc (c4 x)).alloc (c4 y)).alloc z4) w1) := (by first | exact HR.out.trans (hb.mono (by omega)) | exact HR.out.drew.trans (hb.mono (by simp))); obtain ⟨l5, p0, p1, p2, p3, q0, q1, q2, q3⟩ := HH.out.below HR.out (by omega); obtain ⟨l0, c0, c1, c2, c3, f0, f1, f2, f3⟩ := HX.out.below HR.out (by omega)))
 all_goals
  go_wp2
  exact bodyPost_ret (v := sv (x &&& ~~~ y)) (by simp [results, Tryz.results181, go_sem, *]) rfl ⟨rfl, ((((HB.out.trans (HR.out.mono (by omega))).setCell (by simp; omega) _).setCell (by simp; omega) _).setCell (by simp; omega) _).setCell (by simp; omega) _⟩
open Go.RowKit Go.Shelf
attribute [local go_sem] Oper.semAt_some
theorem zaV {w : World} {base base' e size : Nat} {v : Value} {n : Nat} {xs : List Value} (h : w.ownsRow base e size v n xs) (hb : base' <= base) : w.ownsRow base' e size v n xs := by
 refine ⟨h.1, h.2.imp id ?_⟩
 rintro ⟨g, cap, cur, h1, h2, h3⟩
 exact ⟨g, cap, cur, h1, by omega, h3⟩
theorem zeg {W w1 : World} {R B b : Nat} {v : Value} {tmp : Obj} {v' : Value} (hlt : ∀ k, v.ownBlock = some k -> R <= k) (hgrow : (W.alloc tmp).grownBy w1 v.ownBlock) (hb : b < W.heap.size) (hR : b < R) (hne : b ≠ B) :
  KeepB b W (w1.setCell ⟨B, 0, none⟩ v') := by
 refine (KeepB.alloc hb tmp).trans ((KeepB.grown hgrow (by simp; omega) (fun e => ?_)).trans (KeepB.setCell (p := ⟨B, 0, none⟩) hne _))
 have := hlt _ e
 omega
def zga (l : List (Fin 256)) : List Int := l.map (fun b => (b.val : Int))
theorem zjH (l : List (Fin 256)) (b : Fin 256) : zga (l ++ [b]) = zga l ++ [(b.val : Int)] := by unfold zga; rw [List.map_append]; rfl
theorem zmn (l : List (Fin 256)) : (zga l).length = l.length := List.length_map _
def zca (l : List (Int × Int)) (b : Int) : List (Int × Int) := match l.getLast? with
 | some p => if p.2 + 1 = b then l.dropLast ++ [(p.1, b)] else l ++ [(b, b)]
 | none => [(b, b)]
def spL (bs : List Int) : List (Int × Int) := bs.foldl zca []
theorem zcN (bs : List Int) (b : Int) : spL (bs ++ [b]) = zca (spL bs) b := by unfold spL; rw [List.foldl_append]; rfl
theorem ziU (b : Int) : zca [] b = [(b, b)] := rfl
theorem zbK (l : List (Int × Int)) (lo hi b : Int) (h : hi + 1 = b) : zca (l ++ [(lo, hi)]) b = l ++ [(lo, b)] := by
 unfold zca; simp [h]
theorem zbw (l : List (Int × Int)) (lo hi b : Int) (h : hi + 1 ≠ b) : zca (l ++ [(lo, hi)]) b = l ++ [(lo, hi)] ++ [(b, b)] := by
 unfold zca; simp [h]
theorem zaQ {α : Type} (l : List α) : l = [] ∨ ∃ m a, l = m ++ [a] := by
 rcases List.eq_nil_or_concat l with h | ⟨m, a, h⟩
 ·exact .inl h
 ·exact .inr ⟨m, a, by rw [h, List.concat_eq_append]⟩
theorem ziV (l : List (Int × Int)) (b : Int) : (zca l b).length <= l.length + 1 := by
 rcases zaQ l with rfl | ⟨m, ⟨lo, hi⟩, rfl⟩
 ·simp [zca]
 ·by_cases h : hi + 1 = b
  ·rw [zbK _ _ _ _ h]; simp
  ·rw [zbw _ _ _ _ h]; simp
theorem zjI (bs : List Int) : (spL bs).length <= bs.length := by
 have key : ∀ n (bs : List Int), bs.length = n -> (spL bs).length <= n := fun n => by
  induction n with
  | zero => intro bs h; rw [List.eq_nil_of_length_eq_zero h]; exact Nat.le_refl _
  | succ n ih =>
   intro bs h
   rcases zaQ bs with rfl | ⟨m, b, rfl⟩
   ·simp at h
   ·rw [zcN]
    have h1 := ih m (by simp at h; exact h)
    have h2 := ziV (spL m) b
    omega
 exact key _ bs rfl
def spc (l : List (Int × Int)) : List Value := l.flatMap fun p => [.int .i64 p.1, .int .i64 p.2]
theorem zbL (a b : List (Int × Int)) : spc (a ++ b) = spc a ++ spc b := by unfold spc; rw [List.flatMap_append]
theorem zfm (l : List (Int × Int)) : (spc l).length = l.length * 2 := by
 induction l with
 | nil => rfl
 | cons p l ih => unfold spc at *; rw [List.flatMap_cons, List.length_append, ih]; simp; omega
theorem spc_lo (l : List (Int × Int)) (i : Nat) (h : i < l.length) : (spc l)[i * 2]? = some (.int .i64 (l[i]).1) := by
 induction l generalizing i with
 | nil => simp at h
 | cons p l ih =>
  have e : spc (p :: l) = .int .i64 p.1 :: .int .i64 p.2 :: spc l := by unfold spc; rfl
  rw [e]
  cases i with
  | zero => rfl
  | succ i => rw [show (i + 1) * 2 = i * 2 + 1 + 1 from by omega]; simp only [List.getElem?_cons_succ, List.getElem_cons_succ]; exact ih i (by simpa using h)
theorem spc_hi (l : List (Int × Int)) (i : Nat) (h : i < l.length) : (spc l)[i * 2 + 1]? = some (.int .i64 (l[i]).2) := by
 induction l generalizing i with
 | nil => simp at h
 | cons p l ih =>
  have e : spc (p :: l) = .int .i64 p.1 :: .int .i64 p.2 :: spc l := by unfold spc; rfl
  rw [e]
  cases i with
  | zero => rfl
  | succ i => rw [show (i + 1) * 2 + 1 = i * 2 + 1 + 1 + 1 from by omega]; simp only [List.getElem?_cons_succ, List.getElem_cons_succ]; exact ih i (by simpa using h)
theorem zoP (l : List (Int × Int)) (lo hi b : Int) : (spc (l ++ [(lo, hi)])).set (l.length * 2 + 1) (.int .i64 b) = spc (l ++ [(lo, b)]) := by
 rw [zbL, zbL, List.set_append_right _ _ (by rw [zfm]; omega), zfm]
 rw [show l.length * 2 + 1 - l.length * 2 = 1 from by omega]
 rfl
theorem zoQ (bs : List Int) (p : Int × Int) (h : p ∈ spL bs) : p.1 ∈ bs /\ p.2 ∈ bs := by
 have key : ∀ n (bs : List Int), bs.length = n -> ∀ p ∈ spL bs, p.1 ∈ bs /\ p.2 ∈ bs := fun n => by
  induction n with
  | zero => intro bs h p hp; rw [List.eq_nil_of_length_eq_zero h] at hp; simp [spL] at hp
  | succ n ih =>
   intro bs h p hp
   rcases zaQ bs with rfl | ⟨m, b, rfl⟩
   ·simp at h
   ·have ihm := ih m (by simp at h; exact h)
    rw [zcN] at hp
    have old : ∀ q ∈ spL m, q.1 ∈ m ++ [b] /\ q.2 ∈ m ++ [b] := fun q hq => ⟨List.mem_append_left _ (ihm q hq).1, List.mem_append_left _ (ihm q hq).2⟩
    have new : b ∈ m ++ [b] := by simp
    rcases zaQ (spL m) with hs | ⟨l, ⟨lo, hi⟩, hs⟩
    ·rw [hs] at hp; simp [zca] at hp; subst hp; exact ⟨new, new⟩
    ·rw [hs] at hp old
     by_cases e : hi + 1 = b
     ·rw [zbK _ _ _ _ e] at hp
      rcases List.mem_append.1 hp with h1 | h1
      ·exact old p (List.mem_append_left _ h1)
      ·simp at h1; subst h1; exact ⟨(old (lo, hi) (by simp)).1, new⟩
     ·rw [zbw _ _ _ _ e] at hp
      rcases List.mem_append.1 hp with h1 | h1
      ·exact old p h1
      ·simp at h1; subst h1; exact ⟨new, new⟩
 exact key _ bs rfl p h
theorem zcO (x : BitVec 256) (lo hi : Int) (w : World) (h0 : 0 <= lo) (hle : lo <= hi) (h1 : hi <= 255) :
  Calls Tryz.prog 183 #[sv x, .int .i64 lo, .int .i64 hi] w fun e w' => e = .returned (sv (x ||| spn lo hi)) /\ Below w.heap.size w w' := by
 go_enter Tryz.func183, Tryz.ntmps183
 go_wp2
 go_loopw [7] (fun t wr => ∃ b : Int, lo <= b /\ b <= hi + 1 /\ t = .int .i64 b /\ Holds wr w.heap.size (x ||| spn lo (b - 1)) /\ (∃ z, Holds wr (w.heap.size + 1) z) /\ Below w.heap.size w wr) (fun t _ => (hi + 1 - intOf t).toNat)
 case atStart =>
  refine ⟨lo, by omega, by omega, rfl, ?_, ⟨0#256, Holds.zero' w _⟩, ?_⟩
  ·rw [zoJ lo h0 (by omega), BitVec.or_zero]; exact (Holds.new w x).alloc _
  ·exact ((Below.refl _ _).alloc (Nat.le_refl _) _).alloc (by simp) _
 case round =>
  obtain ⟨b, hb0, hb1, rfl, hx, ⟨z, hz⟩, hbel⟩ := hrel
  have hsz : w.heap.size + 1 < wr.heap.size := hz.lt
  by_cases hlt : b <= hi
  ·have HS := hO (zmh lo b h0 hb0 (by omega))
   generalize hy : x ||| spn lo (b - 1) = y at hx
   have HY := hO hy
   clear hy
   have HX := hO hx
   have HZ := hO hz
   have HB := hO hbel
   obtain ⟨l0, c0, c1, c2, c3, f0, f1, f2, f3⟩ := hx
   clear hz hbel
   go_wp2_with fail
   refine (zfk y b _ (by omega) (by omega)).mono ?_
   rintro e w1 ⟨rfl, hb⟩
   obtain ⟨l0, c0, c1, c2, c3, f0, f1, f2, f3⟩ := HX.out.below hb l0
   go_wp2
   go_roundw
   case rel =>
    refine ⟨b + 1, by omega, by omega, rfl, ?_, ⟨z, ?_⟩, ?_⟩
    ·rw [show b + 1 - 1 = b from by omega, HS.out, <- BitVec.or_assoc, HY.out]
     exact (HX.out.below hb (by omega)).put _
    ·exact (HZ.out.below hb (by omega)).put_other (by omega) _
    ·exact ((((HB.out.trans (hb.mono (by omega))).setCell (Nat.le_refl _) _).setCell (Nat.le_refl _) _).setCell (Nat.le_refl _) _).setCell (Nat.le_refl _) _
   case measure => simp [intOf]; omega
  ·have hbe : b - 1 = hi := by omega
   rw [hbe] at hx
   generalize hy : x ||| spn lo hi = y at hx
   have HY := hO hy
   clear hy
   have HZ := hO hz
   have HB := hO hbel
   obtain ⟨l0, c0, c1, c2, c3, f0, f1, f2, f3⟩ := hx
   obtain ⟨l1, d0, d1, d2, d3, g0, g1, g2, g3⟩ := hz
   clear hbel
   go_wp2
   rw [HY.out]
   refine bodyPost_ret (v := sv y) (by simp [results, Tryz.results183, go_sem, *]) rfl ⟨rfl, ?_⟩
   exact (((HB.out.setCell (by simp) _).setCell (by simp) _).setCell (by simp) _).setCell (by simp) _
theorem zaS (w : World) (a : Obj) : Below w.heap.size w (w.alloc a) := (Below.refl _ _).alloc (Nat.le_refl _) _
theorem zeh (lo hi : Int) (w : World) (h0 : 0 <= lo) (hle : lo <= hi) (h1 : hi <= 255) :
  Calls Tryz.prog 183 #[.agg #[.int .u64 0, .int .u64 0, .int .u64 0, .int .u64 0], .int .i64 lo, .int .i64 hi] w fun e w' => e = .returned (sv (spn lo hi)) /\ Below w.heap.size w w' := by
 have h := zcO 0#256 lo hi w h0 hle h1
 rw [BitVec.zero_or, sv, zah, zah, zah, zah] at h
 exact h
def zoR (b : Int) : Bool := decide (65 <= b) && decide (b <= 90)
theorem zcn (b : Int) (w : World) :
  Calls Tryz.prog 160 #[.int .i64 b] w fun e w' => e = .returned (.bool (zoR b)) /\ w' = w := by
 by_cases h0 : 65 <= b
 ·have hd : decide (65 <= b) = true := by simpa using h0
  go_enter Tryz.func160, Tryz.ntmps160
  go_wp2
  go_ret
  exact ⟨by simp [zoR, h0], rfl⟩
 ·have hd : decide (65 <= b) = false := by simpa using h0
  go_enter Tryz.func160, Tryz.ntmps160
  go_wp2
  go_ret
  exact ⟨by unfold zoR; rw [hd]; rfl, rfl⟩
theorem zav (lo hi : Int) (w : World) (h0 : 0 <= lo) (hle : lo <= hi) (h1 : hi <= 255) :
  Calls Tryz.prog 180 #[.int .i64 lo, .int .i64 hi] w fun e w' => e = .returned (sv (spn lo hi)) /\ Below w.heap.size w w' := by
 have HH := hO (Holds.zero w)
 have HR := hO (zaS w z4)
 have HQ : Hid (Below (w.heap.size + 1) (w.alloc z4) (w.alloc z4)) := Below.refl _ _
 go_enter Tryz.func180, Tryz.ntmps180
 go_wp2_with fail
 refine (zeh lo hi _ h0 hle h1).mono ?_
 rintro e w1 ⟨rfl, hb⟩
 replace HQ := (show Hid _ from HQ.out.trans (hb.mono (by first | exact HQ.out.size | (have h := HQ.out.size; simp at h; omega) | simp)))
 have HR1 := hO (HR.out.trans (HQ.out.mono (by omega)))
 obtain ⟨l0, c0, c1, c2, c3, f0, f1, f2, f3⟩ := HH.out.below HQ.out (by omega)
 generalize hr : spn lo hi = r
 have Hr := hO hr
 clear hr
 go_wp2
 exact bodyPost_ret (v := sv r) (by simp [results, Tryz.results180, go_sem, *]) rfl ⟨by rw [Hr.out], (((HR1.out.setCell (by simp) _).setCell (by simp) _).setCell (by simp) _).setCell (by simp) _⟩
theorem zei (w : World) :
  Calls Tryz.prog 178 #[] w fun e w' => e = .returned (sv (spn 65 90 ||| spn 97 122)) /\ Below w.heap.size w w' := by
 have HH := hO (Holds.zero w)
 have HR := hO (zaS w z4)
 have HQ : Hid (Below (w.heap.size + 1) (w.alloc z4) (w.alloc z4)) := Below.refl _ _
 go_enter Tryz.func178, Tryz.ntmps178
 go_wp2_with fail
 refine (zav 65 90 _ (by omega) (by omega) (by omega)).mono ?_
 rintro e w1 ⟨rfl, hb⟩
 replace HQ := (show Hid _ from HQ.out.trans (hb.mono (by first | exact HQ.out.size | (have h := HQ.out.size; simp at h; omega) | simp)))
 go_wp2_with fail
 refine (zcO _ 97 122 _ (by omega) (by omega) (by omega)).mono ?_
 rintro e w1 ⟨rfl, hb⟩
 replace HQ := (show Hid _ from HQ.out.trans (hb.mono (by first | exact HQ.out.size | (have h := HQ.out.size; simp at h; omega) | simp)))
 have HR1 := hO (HR.out.trans (HQ.out.mono (by omega)))
 obtain ⟨l0, c0, c1, c2, c3, f0, f1, f2, f3⟩ := HH.out.below HQ.out (by omega)
 generalize hr : spn 65 90 ||| spn 97 122 = r
 have Hr := hO hr
 clear hr
 go_wp2
 exact bodyPost_ret (v := sv r) (by simp [results, Tryz.results178, go_sem, *]) rfl ⟨by rw [Hr.out], (((HR1.out.setCell (by simp) _).setCell (by simp) _).setCell (by simp) _).setCell (by simp) _⟩
theorem zcb (w : World) :
  Calls Tryz.prog 182 #[] w fun e w' => e = .returned (sv (spn 65 90 ||| spn 97 122 ||| spn 48 57)) /\ Below w.heap.size w w' := by
 have HH := hO (Holds.zero w)
 have HR := hO (zaS w z4)
 have HQ : Hid (Below (w.heap.size + 1) (w.alloc z4) (w.alloc z4)) := Below.refl _ _
 go_enter Tryz.func182, Tryz.ntmps182
 go_wp2_with fail
 refine (zei _).mono ?_
 rintro e w1 ⟨rfl, hb⟩
 replace HQ := (show Hid _ from HQ.out.trans (hb.mono (by first | exact HQ.out.size | (have h := HQ.out.size; simp at h; omega) | simp)))
 go_wp2_with fail
 refine (zcO _ 48 57 _ (by omega) (by omega) (by omega)).mono ?_
 rintro e w1 ⟨rfl, hb⟩
 replace HQ := (show Hid _ from HQ.out.trans (hb.mono (by first | exact HQ.out.size | (have h := HQ.out.size; simp at h; omega) | simp)))
 have HR1 := hO (HR.out.trans (HQ.out.mono (by omega)))
 obtain ⟨l0, c0, c1, c2, c3, f0, f1, f2, f3⟩ := HH.out.below HQ.out (by omega)
 generalize hr : spn 65 90 ||| spn 97 122 ||| spn 48 57 = r
 have Hr := hO hr
 clear hr
 go_wp2
 exact bodyPost_ret (v := sv r) (by simp [results, Tryz.results182, go_sem, *]) rfl ⟨by rw [Hr.out], (((HR1.out.setCell (by simp) _).setCell (by simp) _).setCell (by simp) _).setCell (by simp) _⟩
open Go.RowKit Go.Shelf
attribute [local go_sem] Oper.semAt_some
theorem zoS (l : List (Fin 256)) (c : Int) (h : c ∈ zga l) : 0 <= c /\ c <= 255 := by
 obtain ⟨b, _, rfl⟩ := List.mem_map.1 h
 have := b.isLt
 omega
theorem Tryz.info52 : (Tryz.prog.info? 152).map (fun i => (i.zero, i.size, i.bytes)) = some (some (.agg #[.int .i64 0, .int .i64 0]), 2, 16) := by kernel_rfl
theorem zmo (n : Nat) (hn : 3 <= n) (x : BitVec 256) (w : World) :
  CallsIn Fence.wide n Tryz.prog 126 #[sv x] w fun e W' => ∃ v, e = .returned v /\ W'.ownsRow (w.heap.size + 1) 152 2 v (spL (bys x)).length (spc (spL (bys x))) /\ (spL (bys x) = [] -> v = .slice none 0 0) /\ Below w.heap.size w W' := by
 have h1 : 1 <= n := by omega
 obtain ⟨i0, hi, hz0, hz1, hz2⟩ := info_parts Tryz.info52
 refine callsIn_of_wp_marks Tryz.func126 rfl trivial ?_ rfl
 simp only [Tryz.ntmps126, List.size_toArray, List.length_cons, List.length_nil, Nat.reduceAdd, Nat.reduceSub, Array.replicate_succ, Array.replicate_zero, List.push_toArray, List.append_toArray, List.nil_append, List.cons_append]
 gi_wp2_with fail
 refine ⟨trivial, (zoO (n - 1) x _).mono ?_⟩
 rintro e w' ⟨rfl, rfl⟩
 gi_wp2_with fail
 have hX := Holds.new ((w.alloc (c4 x)).alloc (.cells #[.slice none 0 0] 149)) x
 rw [size2] at hX
 have bO := (Boxed.new (w.alloc (c4 x)) 149 (.slice none 0 0)).alloc (c4 x)
 rw [size1] at bO
 have hB0 := zcy w (c4 x) (.cells #[.slice none 0 0] 149) (c4 x)
 refine wpIn_rangeFunc_ownG rfl h1 (gf := 165) (lb := #[.pointer (some ⟨w.heap.size + 1 + 1, 0, none⟩)]) rfl trivial (enters_of Tryz.func165 (by kernel_rfl) rfl)
  (ziT (n - 1) (by omega) (w.heap.size + 1 + 1) x _ hX) KeepB.trans (KeepB.put hX.lt) (Below.refl _ _) (fun _ => rfl)
  (fun pre W => (∃ v, Boxed W (w.heap.size + 1) 149 v /\ W.ownsRow (w.heap.size + 1 + 1 + 1) 152 2 v (spL (zga pre)).length (spc (spL (zga pre))) /\ (spL (zga pre) = [] -> v = .slice none 0 0)) /\ (Below w.heap.size w W /\ Hid (w.heap.size + 1 + 1 + 1 <= W.heap.size)))
  (fun _ _ _ => False)
  (OwnFrom.and (Own.from (holdsRow_own (w.heap.size + 1 + 1 + 1) (w.heap.size + 1) 149 152 2 (fun pre => (spL (zga pre)).length) (fun pre => spc (spL (zga pre))) (fun pre v => spL (zga pre) = [] -> v = .slice none 0 0)) _) (OwnFrom.and (ownFrom_below (Nat.le_refl _) (by simp; omega)) (fun s W W' row hs hg hr => Nat.le_trans hs hg.size)))
  (fun _ _ _ _ _ hs _ _ => hs)
  ⟨⟨_, bO, World.ownsRow_nil _ _ _ _, fun _ => rfl⟩, hB0, (show w.heap.size + 1 + 1 + 1 <= _ by simp)⟩
  (fun b => { tmps := #[sv x, .pointer (some ⟨w.heap.size, 0, none⟩), .slice none 0 0, .pointer (some ⟨w.heap.size + 1, 0, none⟩), .int .i64 (b.val : Int), undef, sv x, .func (.func 165) #[] #[.pointer (some ⟨w.heap.size + 1 + 1, 0, none⟩)], .int .i64 (b.val : Int), undef, undef, undef, undef, undef, undef, undef, undef, undef, undef, undef, undef, undef, undef, undef, undef, undef, undef, undef, undef, undef, undef, undef, undef, undef, undef, undef, undef], defers := [] }) ?assign ?body ?done ?stop
 case assign =>
  intro l b W K hK
  gi_wp2
  exact hK
 case body =>
  rintro l pre b W ⟨⟨v, hv, hrow, hnil⟩, hB, HZ⟩ hlt
  have hc := hv.cell
  have hf := hv.frozen
  have hb8 : b.val < 256 := b.isLt
  have hle := fun k e => (hrow.lt k e).1
  have HS := hO (zjH pre b)
  have HM := (show Hid _ from fun p hp => zoQ (zga pre) p hp)
  have hlen : (spL (zga pre)).length < 256 := Nat.lt_of_le_of_lt (zjI _) (by rw [zmn]; exact hlt)
  have HSS := hO (zcN (zga pre) (b.val : Int))
  generalize hq : spL (zga pre) = q at *
  have HQ := hO hq
  clear hq
  rcases zaQ q with rfl | ⟨m, ⟨lo, up⟩, rfl⟩
  ·obtain rfl := hnil rfl
   clear hnil HM
   have HE := hO (HSS.out.trans (ziU (b.val : Int)))
   gi_wp2_with (gi_at_builtin; refine wpListIn_append_own _ rfl _ _ 149 rfl (w.heap.size + 1 + 1 + 1) 152 i0 (.agg #[.int .i64 0, .int .i64 0]) 2 16 Tryz.underlying149 hi hz0 hz1 hz2 rfl (by decide) _ _ _ rfl (hrow.alloc _) ⟨W.heap.size, 0, none⟩ 1 1 [.int .i64 (b.val : Int), .int .i64 (b.val : Int)] rfl rfl (cell_two_new _ _ _ _) (by simp [Value.oneCell']) (by unfold maxLen; omega) (by omega) (by have := HZ.out; simp; omega) ?_; intro v' w1 hown' hgrow _; obtain ⟨g', cap', rfl⟩ := ownsRow_succ hown'; obtain ⟨hv1, hv2, hr2, hk2, hb2⟩ := hv.appended (n₀ := w.heap.size + 1) (by decide) (zaV hrow (by omega)) (by have := HZ.out; omega) (Nat.le_refl _) (zaV hown' (by omega)) hgrow; have hr3 := hown'.kept (grownBy_setCell' w1 (w.heap.size + 1) (.slice (some ⟨g', 0, none⟩) (0 + 1) cap')) (.inr (hv1.not_row (by decide) hown').symm); have hc1 := hv1.cell; have hf1 := hv1.frozen)
   refine ⟨hk2.from _, zeg hle hgrow (by have := HZ.out; omega) (by omega) (by omega), ⟨_, hv2, ?_, ?_⟩, hB.trans (hb2.mono (by omega)), Nat.le_trans HZ.out hb2.size⟩
   ·rw [HS.out, HE.out]; exact hr3
   ·rw [HS.out, HE.out]; intro h; cases h
  ·obtain ⟨hml, hmu⟩ := HM.out (lo, up) (by simp)
   clear hnil HM
   have hbd := fun c (hc : c ∈ zga pre) => zoS pre c hc
   have hlo := hbd lo hml
   have hup := hbd up hmu
   clear hbd hml hmu
   rw [List.length_append, List.length_singleton] at hrow hlen
   obtain ⟨g, cap, rfl⟩ := ownsRow_succ hrow
   have hcu := hrow.cellAt (m.length * 2 + 1) (by omega)
   rw [zbL, List.getElem?_append_right (by rw [zfm]; omega), zfm, show m.length * 2 + 1 - m.length * 2 = 1 from by omega] at hcu
   replace hcu : W.cell? ⟨g, m.length * 2 + 1, none⟩ = some (.int .i64 up) := hcu
   have hfu := hrow.frozenAt (m.length * 2 + 1)
   by_cases he : up + 1 = (b.val : Int)
   ·have HE := hO (HSS.out.trans (zbK m lo up _ he))
    have heb : (up + 1 == (b.val : Int)) = true := beq_iff_eq.2 he
    have HEE := hO he
    clear he
    gi_wp2_with fail
    obtain ⟨hst, hgs⟩ := hrow.stored (m.length * 2 + 1) (.int .i64 (b.val : Int))
    rw [zoP] at hst
    have hg0 : w.heap.size + 1 + 1 + 1 <= g := hle g rfl
    refine ⟨(KeepsOthers.setCell _ _ _).from _, KeepB.setCell (p := ⟨g, m.length * 2 + 1, none⟩) (by simp; omega) _, ⟨_, hv.kept hgs (fun e => by cases e; omega), ?_, ?_⟩, hB.setCell (p := ⟨g, m.length * 2 + 1, none⟩) (by simp; omega) _, Nat.le_trans HZ.out hgs.size⟩
    ·rw [HS.out, HE.out, List.length_append, List.length_singleton]; exact hst
    ·rw [HS.out, HE.out]; intro h; simp at h
   ·have HE := hO (HSS.out.trans (zbw m lo up _ he))
    have heb : (up + 1 == (b.val : Int)) = false := bF he
    clear he
    gi_wp2_with (gi_at_builtin; refine wpListIn_append_own _ rfl _ _ 149 rfl (w.heap.size + 1 + 1 + 1) 152 i0 (.agg #[.int .i64 0, .int .i64 0]) 2 16 Tryz.underlying149 hi hz0 hz1 hz2 rfl (by decide) _ _ _ rfl (hrow.alloc _) ⟨W.heap.size, 0, none⟩ 1 1 [.int .i64 (b.val : Int), .int .i64 (b.val : Int)] rfl rfl (cell_two_new _ _ _ _) (by simp [Value.oneCell']) (by unfold maxLen; omega) (by omega) (by have := HZ.out; simp; omega) ?_; intro v' w1 hown' hgrow _; obtain ⟨g', cap', rfl⟩ := ownsRow_succ hown'; obtain ⟨hv1, hv2, hr2, hk2, hb2⟩ := hv.appended (n₀ := w.heap.size + 1) (by decide) (zaV hrow (by omega)) (by have := HZ.out; omega) (Nat.le_refl _) (zaV hown' (by omega)) hgrow; have hr3 := hown'.kept (grownBy_setCell' w1 (w.heap.size + 1) (.slice (some ⟨g', 0, none⟩) (m.length + 1 + 1) cap')) (.inr (hv1.not_row (by decide) hown').symm); have hc1 := hv1.cell; have hf1 := hv1.frozen)
    refine ⟨hk2.from _, zeg hle hgrow (by have := HZ.out; omega) (by omega) (by omega), ⟨_, hv2, ?_, ?_⟩, hB.trans (hb2.mono (by omega)), Nat.le_trans HZ.out hb2.size⟩
    ·rw [HS.out, HE.out, List.length_append, List.length_append, List.length_singleton, List.length_singleton, zbL]; exact hr3
    ·rw [HS.out, HE.out]; intro h; simp at h
 case done =>
  rintro D ys W hD rfl ⟨⟨v, hv, hrow, hnil⟩, hB, _⟩ hK
  have hc := hv.cell
  have HT : Hid (zga (byf x 256) = bys x) := zjF x 256 (Nat.le_refl _)
  gi_wp2
  refine ⟨by simp, .inl ⟨_, _, rfl, run_takeDeferred hK, ?_⟩⟩
  rw [HT.out] at hrow hnil
  exact ⟨_, results_tmp rfl _ _ _, v, rfl, zaV (ownsRow_putObj hrow _ hK rfl) (by omega), hnil, hB.trans (belowK_b (w := w) (Nat.le_refl _) W D _ _ (by simp at hD; omega) hK rfl rfl)⟩
 case stop =>
  rintro D c pre W _ _ h _
  exact h.elim
theorem zjJ (x : BitVec 256) (w : World) :
  Calls Tryz.prog 126 #[sv x] w fun e W' => ∃ v, e = .returned v /\ W'.ownsRow (w.heap.size + 1) 152 2 v (spL (bys x)).length (spc (spL (bys x))) /\ (spL (bys x) = [] -> v = .slice none 0 0) /\ Below w.heap.size w W' :=
 (callsIn_wide (n := 3)).1 (zmo 3 (by omega) x w)
end Go.Proofs.YtnpifgcgjgddoaaGreatDoor
