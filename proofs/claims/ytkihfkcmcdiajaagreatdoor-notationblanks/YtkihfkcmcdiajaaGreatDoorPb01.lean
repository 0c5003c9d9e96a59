/- DERIVED. Plain mathematics and walks, laid together (1). -/
import Derived.Shelf.Small.Utf8
import Derived.Shelf.Small.Strs
import Derived.Shelf.Strings.Search1
import Derived.Shelf.Strings.Prefix
import Derived.Test.YtkihfkcmcdiajaaGreatDoorProg
import Derived.WalkKit
import Derived.Test.YtkihfkcmcdiajaaGreatDoorRows
import Derived.WalkSpells
import Derived.WalkLawsBesides
import Derived.Deep.QuietTactic
import Derived.BigQuiet
import Derived.Deep.RegionHeld3
import Derived.Maps.AppendAt
import Derived.LoopN
import Derived.RangeFuncBox
set_option maxRecDepth 100000
set_option maxHeartbeats 8000000
namespace Go.Proofs.YtkihfkcmcdiajaaGreatDoor
open Go.RowKit
theorem hO {p : Prop} (h : p) : Hid p := h
theorem bF {α : Type} [BEq α] [LawfulBEq α] {a b : α} (h : a ≠ b) : (a == b) = false := beq_eq_false_iff_ne.2 h
end Go.Proofs.YtkihfkcmcdiajaaGreatDoor
namespace Go.Proofs
open Go.Shelf
def Tryz.lays118_ren : Go.Shelf.Ren := ⟨fun | 118 => 205 | n => n, fun | 21 => 21 | 3 => 3 | 4 => 4 | n => n, fun | n => n⟩
theorem Tryz.lays118 : Go.Proofs.Lays.n118 Tryz.prog Tryz.lays118_ren := {
 mixed := by kernel_rfl
 f118 := Tryz.func205.trans (congrArg some (by kernel_rfl))
 t3 := Tryz.underlying3
 a3 := Tryz.isAgg3
 z3 := Tryz.sizeOf3
 v3 := Tryz.zeroValue3
 t4 := Tryz.underlying4
 a4 := Tryz.isAgg4
 z4 := Tryz.sizeOf4
 v4 := Tryz.zeroValue4
 t21 := Tryz.underlying21
 a21 := Tryz.isAgg21
 z21 := Tryz.sizeOf21
 v21 := Tryz.zeroValue21 }
theorem Tryz.utf8_RuneLen (r : Int) (w : World) :
  Calls Tryz.prog 205 #[.int .i32 r] w fun e w' => e = .returned (.int .i64 (Lib.runeLen r)) /\ w' = w := Any.utf8_RuneLen Tryz.lays118 r w
def Tryz.lays137_ren : Go.Shelf.Ren := ⟨fun | 137 => 144 | 217 => 158 | 266 => 176 | n => n, fun | 9 => 9 | 5 => 5 | 3 => 3 | n => n, fun | n => n⟩
theorem Tryz.lays137 : Go.Proofs.Lays.n137 Tryz.prog Tryz.lays137_ren := {
 mixed := by kernel_rfl
 f137 := Tryz.func144.trans (congrArg some (by kernel_rfl))
 f217 := Tryz.func158.trans (congrArg some (by kernel_rfl))
 f266 := Tryz.func176.trans (congrArg some (by kernel_rfl))
 t3 := Tryz.underlying3
 a3 := Tryz.isAgg3
 z3 := Tryz.sizeOf3
 v3 := Tryz.zeroValue3
 t5 := Tryz.underlying5
 a5 := Tryz.isAgg5
 z5 := Tryz.sizeOf5
 v5 := Tryz.zeroValue5
 t9 := Tryz.underlying9
 a9 := Tryz.isAgg9
 z9 := Tryz.sizeOf9
 v9 := Tryz.zeroValue9 }
open Go.RowKit in
theorem Tryz.strings_IndexByte (s : ByteArray) (c : Int) (w : World) :
  Calls Tryz.prog 144 #[.string s, .int .u8 c] w fun e w' => e = .returned (.int .i64 (Lib.indexByte s.data.toList c.toNat.toUInt8)) /\ w' = w := Any.strings_IndexByte Tryz.lays137 s c w
def Tryz.lays99_ren : Go.Shelf.Ren := ⟨fun | 99 => 100 | 206 => 125 | n => n, fun | 9 => 9 | 4 => 4 | 3 => 3 | n => n, fun | n => n⟩
theorem Tryz.lays99 : Go.Proofs.Lays.n99 Tryz.prog Tryz.lays99_ren := {
 mixed := by kernel_rfl
 f99 := Tryz.func100.trans (congrArg some (by kernel_rfl))
 f206 := Tryz.func125.trans (congrArg some (by kernel_rfl))
 t3 := Tryz.underlying3
 a3 := Tryz.isAgg3
 z3 := Tryz.sizeOf3
 v3 := Tryz.zeroValue3
 t4 := Tryz.underlying4
 a4 := Tryz.isAgg4
 z4 := Tryz.sizeOf4
 v4 := Tryz.zeroValue4
 t9 := Tryz.underlying9
 a9 := Tryz.isAgg9
 z9 := Tryz.sizeOf9
 v9 := Tryz.zeroValue9 }
open Go.RowKit Go.Lib in
theorem Tryz.strings_HasPrefix (s p : ByteArray) (w : World) :
  Calls Tryz.prog 100 #[.string s, .string p] w fun e w' => e = .returned (.bool (Lib.hasPrefix s.data.toList p.data.toList)) /\ w' = w := Any.strings_HasPrefix Tryz.lays99 s p w
end Go.Proofs
namespace Go.Proofs.YtkihfkcmcdiajaaGreatDoor
open Go.RowKit
def wd (x : BitVec 256) (i : Nat) : Int := ((x.extractLsb' (64 * i) 64).toNat : Int)
def bt (b : Nat) : BitVec 256 := 1#256 <<< b
theorem zfy (x : BitVec 256) (i : Nat) : 0 <= wd x i := by unfold wd; omega
theorem zgQ (x : BitVec 256) (i : Nat) : wd x i < 18446744073709551616 := by
 unfold wd; have := (x.extractLsb' (64 * i) 64).isLt; omega
theorem zlU (x : BitVec 256) (i : Nat) : (wd x i).toNat = (x.extractLsb' (64 * i) 64).toNat := by unfold wd; omega
theorem zbE (x : BitVec 256) (i j : Nat) : (wd x i).toNat.testBit j = (decide (j < 64) && x.getLsbD (64 * i + j)) := by
 rw [zlU, BitVec.testBit_toNat, BitVec.getLsbD_extractLsb']
theorem zbv (x : BitVec 256) (i : Nat) (n : Int) (h0 : 0 <= n) (h : ∀ j, n.toNat.testBit j = (decide (j < 64) && x.getLsbD (64 * i + j))) : n = wd x i := by
 have : n.toNat = (wd x i).toNat := Nat.eq_of_testBit_eq fun j => by rw [h j, zbE]
 have := zfy x i
 omega
theorem zix (x y : BitVec 256) (i : Nat) : bits .or .u64 (wd x i) (wd y i) = wd (x ||| y) i := by
 rw [u64_or _ _ (zfy _ _) (zgQ _ _) (zfy _ _) (zgQ _ _)]
 refine zbv _ _ _ (by omega) fun j => ?_
 rw [Int.toNat_natCast, Nat.testBit_or, zbE, zbE, BitVec.getLsbD_or]
 cases decide (j < 64) <;> simp
theorem zhI (x y : BitVec 256) (i : Nat) : bits .and .u64 (wd x i) (wd y i) = wd (x &&& y) i := by
 rw [u64_and _ _ (zfy _ _) (zgQ _ _) (zfy _ _) (zgQ _ _)]
 refine zbv _ _ _ (by omega) fun j => ?_
 rw [Int.toNat_natCast, Nat.testBit_and, zbE, zbE, BitVec.getLsbD_and]
 cases decide (j < 64) <;> simp
theorem zhJ (b j : Nat) (hb : b < 256) : (bt b).getLsbD j = decide (j = b) := by
 unfold bt
 rw [BitVec.getLsbD_shiftLeft]
 by_cases h : j = b
 ·subst h; simp [hb]
 ·by_cases h1 : j < b
  ·simp [h1, h]
  ·by_cases h2 : j < 256
   ·have : j - b ≠ 0 := by omega
    simp [h, h2, BitVec.getLsbD_one, this]
   ·simp [h, h2]
theorem zlV (k : Nat) (h : k < 64) : IntKind.u64.wrap (2 ^ k) = ((2 ^ k : Nat) : Int) := by
 rw [IntKind.wrap_u64]
 have h1 : 2 ^ k < 2 ^ 64 := Nat.pow_lt_pow_right (by omega) h
 have h2 : ((2 ^ k : Nat) : Int) = (2 : Int) ^ k := by simp
 rw [<- h2]
 generalize 2 ^ k = n at *
 omega
theorem ziy (b i : Nat) (hb : b < 256) (hi : b / 64 = i) : wd (bt b) i = ((2 ^ (b % 64) : Nat) : Int) := by
 refine (zbv _ _ _ (Int.natCast_nonneg _) fun j => ?_).symm
 rw [Int.toNat_natCast, Nat.testBit_two_pow, zhJ _ _ hb]
 by_cases h : b % 64 = j
 ·have : j < 64 := by omega
  have h2 : 64 * i + j = b := by omega
  simp [h, this, h2]
 ·by_cases h3 : j < 64
  ·have h2 : ¬ 64 * i + j = b := by omega
   simp [h, h2]
  ·simp [h, h3]
theorem zgR (b i : Nat) (hb : b < 256) (hi : b / 64 ≠ i) : wd (bt b) i = 0 := by
 refine (zbv _ _ _ (by omega) fun j => ?_).symm
 rw [zhJ _ _ hb]
 by_cases h3 : j < 64
 ·have h2 : ¬ 64 * i + j = b := by omega
  simp [h2]
 ·simp [h3]
theorem zgf (x : BitVec 256) (i : Nat) : bits .or .u64 (wd x i) 0 = wd x i := by
 rw [u64_or _ _ (zfy _ _) (zgQ _ _) (by omega) (by omega)]
 have := zfy x i
 simp; omega
theorem zgg (x : BitVec 256) (b i : Nat) (hb : b < 256) (hi : b / 64 = i) : bits .or .u64 (wd x i) (((2 ^ (b % 64) : Nat) : Int)) = wd (x ||| bt b) i := by
 rw [<- ziy b i hb hi, zix]
theorem zfz (x : BitVec 256) (b i : Nat) (hb : b < 256) (hi : b / 64 ≠ i) : wd (x ||| bt b) i = wd x i := by
 rw [<- zix, zgR b i hb hi, zgf]
theorem zn7 (x : BitVec 256) (b i : Nat) (hi : b / 64 = i) : (wd x i).toNat / 2 ^ (b % 64) % 2 = (x.getLsbD b).toNat := by
 have h := zbE x i (b % 64)
 have h2 : 64 * i + b % 64 = b := by omega
 have h3 : b % 64 < 64 := by omega
 rw [h2] at h
 simp only [h3, decide_true, Bool.true_and] at h
 rw [<- h, Nat.testBit_eq_decide_div_mod_eq]
 have := Nat.mod_two_eq_zero_or_one ((wd x i).toNat / 2 ^ (b % 64))
 rcases this with e | e <;> simp [e]
def pw (n : Nat) : Int := ((2 ^ (n % 64) : Nat) : Int)
theorem pw_of (b : Int) (h0 : 0 <= b) : IntKind.u64.wrap (2 ^ (b % 64).toNat) = pw b.toNat := by
 rw [zlV _ (by omega), show (b % 64).toNat = b.toNat % 64 from by omega]; rfl
theorem zcb (x : BitVec 256) (b : Int) (h0 : 0 <= b) (h1 : b <= 255) (i : Nat) (hi : b / 64 = (i : Int)) :
  bits .or .u64 (wd x i) (pw b.toNat) = wd (x ||| bt b.toNat) i /\ ∀ j, j ≠ i -> wd x j = wd (x ||| bt b.toNat) j :=
 ⟨zgg x _ i (by omega) (by omega), fun j hj => (zfz x _ j (by omega) (by omega)).symm⟩
theorem zbo (b : Int) (h0 : 0 <= b) (h1 : b <= 255) : IntKind.i64.wrap (b.tdiv 64) = b / 64 := by
 rw [Int.tdiv_eq_ediv_of_nonneg h0, IntKind.wrap_i64]; omega
theorem zff (b : Int) (w : World) :
  Calls Tryz.prog 206 #[.int .i64 b] w fun e w' => e = .returned (.bool (decide (0 <= b) && decide (b <= 255))) /\ w' = w := by
 by_cases h0 : 0 <= b
 ·have hd : decide (0 <= b) = true := by simpa using h0
  go_enter Tryz.func206, Tryz.ntmps206
  go_wp2
  go_ret
  exact ⟨by simp [h0], rfl⟩
 ·have hd : decide (0 <= b) = false := by simpa using h0
  go_enter Tryz.func206, Tryz.ntmps206
  go_wp2
  go_ret
  exact ⟨by simp, rfl⟩
abbrev sv (x : BitVec 256) : Value := .agg #[.int .u64 (wd x 0), .int .u64 (wd x 1), .int .u64 (wd x 2), .int .u64 (wd x 3)]
theorem zgS {k : IntKind} {a b : Int} (h : a = b) : Ending.returned (.int k a) = .returned (.int k b) := by rw [h]
theorem zfA (b : Int) (w : World) (h0 : 0 <= b) (h1 : b <= 255) :
  Calls Tryz.prog 180 #[.int .i64 b] w fun e w' => e = .returned (.int .u64 (pw b.toNat)) /\ w' = w := by
 go_enter Tryz.func180, Tryz.ntmps180
 go_wp2
 go_ret
 exact ⟨zgS (pw_of b h0), rfl⟩
theorem zcO {a b c d : Int} {y : BitVec 256} (h0 : a = wd y 0) (h1 : b = wd y 1) (h2 : c = wd y 2) (h3 : d = wd y 3) : Ending.returned (.agg #[.int .u64 a, .int .u64 b, .int .u64 c, .int .u64 d]) = .returned (sv y) := by
 rw [h0, h1, h2, h3]
theorem zfB (x : BitVec 256) (b : Int) (w : World) (h0 : 0 <= b) (h1 : b <= 255) :
  Calls Tryz.prog 164 #[sv x, .int .i64 b] w fun e w' => e = .returned (sv (x ||| bt b.toNat)) /\ Below w.heap.size w w' := by
 have hq : b / 64 = 0 ∨ b / 64 = 1 ∨ b / 64 = 2 ∨ b / 64 = 3 := by omega
 rcases hq with hq | hq | hq | hq
 ·have hs := hO (zcb x b h0 h1 0 hq)
  have t1 : IntKind.i64.wrap (b.tdiv 64) = 0 := by rw [zbo b h0 h1]; exact hq
  go_enter Tryz.func164, Tryz.ntmps164
  go_wp2
  go_region_with ((go_at_call 180; refine (zfA _ _ (by omega) (by omega)).mono ?_; rintro e w' ⟨rfl, rfl⟩))
  all_goals
   go_wp2
   replace hs := hs.out
   exact bodyPost_ret (v := .agg #[.int .u64 (bits BinOp.or IntKind.u64 (wd x 0) (pw b.toNat)), .int .u64 (wd x 1), .int .u64 (wd x 2), .int .u64 (wd x 3)]) (by simp [results, Tryz.results164, go_sem]) rfl ⟨zcO hs.1 (hs.2 1 (by omega)) (hs.2 2 (by omega)) (hs.2 3 (by omega)), (((Below.refl _ _).alloc (Nat.le_refl _) _).alloc (by simp) _).drew⟩
 ·have hs := hO (zcb x b h0 h1 1 hq)
  have t1 : IntKind.i64.wrap (b.tdiv 64) = 1 := by rw [zbo b h0 h1]; exact hq
  go_enter Tryz.func164, Tryz.ntmps164
  go_wp2
  go_region_with ((go_at_call 180; refine (zfA _ _ (by omega) (by omega)).mono ?_; rintro e w' ⟨rfl, rfl⟩))
  all_goals
   go_wp2
   replace hs := hs.out
   exact bodyPost_ret (v := .agg #[.int .u64 (wd x 0), .int .u64 (bits BinOp.or IntKind.u64 (wd x 1) (pw b.toNat)), .int .u64 (wd x 2), .int .u64 (wd x 3)]) (by simp [results, Tryz.results164, go_sem]) rfl ⟨zcO (hs.2 0 (by omega)) hs.1 (hs.2 2 (by omega)) (hs.2 3 (by omega)), (((Below.refl _ _).alloc (Nat.le_refl _) _).alloc (by simp) _).drew⟩
 ·have hs := hO (zcb x b h0 h1 2 hq)
  have t1 : IntKind.i64.wrap (b.tdiv 64) = 2 := by rw [zbo b h0 h1]; exact hq
  go_enter Tryz.func164, Tryz.ntmps164
  go_wp2
  go_region_with ((go_at_call 180; refine (zfA _ _ (by omega) (by omega)).mono ?_; rintro e w' ⟨rfl, rfl⟩))
  all_goals
   go_wp2
   replace hs := hs.out
   exact bodyPost_ret (v := .agg #[.int .u64 (wd x 0), .int .u64 (wd x 1), .int .u64 (bits BinOp.or IntKind.u64 (wd x 2) (pw b.toNat)), .int .u64 (wd x 3)]) (by simp [results, Tryz.results164, go_sem]) rfl ⟨zcO (hs.2 0 (by omega)) (hs.2 1 (by omega)) hs.1 (hs.2 3 (by omega)), (((Below.refl _ _).alloc (Nat.le_refl _) _).alloc (by simp) _).drew⟩
 ·have hs := hO (zcb x b h0 h1 3 hq)
  have t1 : IntKind.i64.wrap (b.tdiv 64) = 3 := by rw [zbo b h0 h1]; exact hq
  go_enter Tryz.func164, Tryz.ntmps164
  go_wp2
  go_region_with ((go_at_call 180; refine (zfA _ _ (by omega) (by omega)).mono ?_; rintro e w' ⟨rfl, rfl⟩))
  all_goals
   go_wp2
   replace hs := hs.out
   exact bodyPost_ret (v := .agg #[.int .u64 (wd x 0), .int .u64 (wd x 1), .int .u64 (wd x 2), .int .u64 (bits BinOp.or IntKind.u64 (wd x 3) (pw b.toNat))]) (by simp [results, Tryz.results164, go_sem]) rfl ⟨zcO (hs.2 0 (by omega)) (hs.2 1 (by omega)) (hs.2 2 (by omega)) hs.1, (((Below.refl _ _).alloc (Nat.le_refl _) _).alloc (by simp) _).drew⟩
structure Holds (w : World) (b : Nat) (x : BitVec 256) : Prop where
 lt : b < w.heap.size
 c0 : w.cell? ⟨b, 0, none⟩ = some (.int .u64 (wd x 0))
 c1 : w.cell? ⟨b, 1, none⟩ = some (.int .u64 (wd x 1))
 c2 : w.cell? ⟨b, 2, none⟩ = some (.int .u64 (wd x 2))
 c3 : w.cell? ⟨b, 3, none⟩ = some (.int .u64 (wd x 3))
 f0 : w.frozen? ⟨b, 0, none⟩ = false
 f1 : w.frozen? ⟨b, 1, none⟩ = false
 f2 : w.frozen? ⟨b, 2, none⟩ = false
 f3 : w.frozen? ⟨b, 3, none⟩ = false
theorem Holds.below {B : Nat} {w w' : World} {b : Nat} {x : BitVec 256} (h : Holds w b x) (hb : Below B w w') (hB : b < B) : Holds w' b x :=
 ⟨Nat.lt_of_lt_of_le h.lt hb.size, (hb.cell (p := ⟨b, 0, none⟩) hB).trans h.c0, (hb.cell (p := ⟨b, 1, none⟩) hB).trans h.c1, (hb.cell (p := ⟨b, 2, none⟩) hB).trans h.c2, (hb.cell (p := ⟨b, 3, none⟩) hB).trans h.c3, (hb.frozen (p := ⟨b, 0, none⟩) hB).trans h.f0, (hb.frozen (p := ⟨b, 1, none⟩) hB).trans h.f1, (hb.frozen (p := ⟨b, 2, none⟩) hB).trans h.f2, (hb.frozen (p := ⟨b, 3, none⟩) hB).trans h.f3⟩
theorem Holds.alloc {w : World} {b : Nat} {x : BitVec 256} (h : Holds w b x) (o : Obj) : Holds (w.alloc o) b x := h.below ((Below.refl w.heap.size w).alloc (Nat.le_refl _) o) h.lt
theorem Holds.new (w : World) (x : BitVec 256) : Holds (w.alloc (.cells #[.int .u64 (wd x 0), .int .u64 (wd x 1), .int .u64 (wd x 2), .int .u64 (wd x 3)] 49)) w.heap.size x := by
 constructor <;> simp [go_sem]
theorem zak (i : Nat) : wd 0#256 i = 0 := by unfold wd; simp
theorem Holds.zero (w : World) : Holds (w.alloc (.cells #[.int .u64 0, .int .u64 0, .int .u64 0, .int .u64 0] 49)) w.heap.size 0#256 := by
 have h := Holds.new w 0#256
 rw [zak, zak, zak, zak] at h
 exact h
theorem Holds.zero' (w : World) (o : Obj) : Holds ((w.alloc o).alloc (.cells #[.int .u64 0, .int .u64 0, .int .u64 0, .int .u64 0] 49)) (w.heap.size + 1) 0#256 := by
 have h := Holds.zero (w.alloc o)
 rw [show (w.alloc o).heap.size = w.heap.size + 1 from by simp] at h
 exact h
abbrev zn8 (w : World) (b : Nat) (y : BitVec 256) : World := (((w.setCell ⟨b, 0, none⟩ (.int .u64 (wd y 0))).setCell ⟨b, 1, none⟩ (.int .u64 (wd y 1))).setCell ⟨b, 2, none⟩ (.int .u64 (wd y 2))).setCell ⟨b, 3, none⟩ (.int .u64 (wd y 3))
theorem Holds.put {w : World} {b : Nat} {x : BitVec 256} (h : Holds w b x) (y : BitVec 256) : Holds (zn8 w b y) b y := by
 obtain ⟨lt, c0, c1, c2, c3, f0, f1, f2, f3⟩ := h
 constructor <;> simp [go_sem, *]
theorem Holds.put_other {w : World} {b c : Nat} {x : BitVec 256} (h : Holds w c x) (hne : c ≠ b) (y : BitVec 256) : Holds (zn8 w b y) c x := by
 obtain ⟨lt, c0, c1, c2, c3, f0, f1, f2, f3⟩ := h
 constructor <;> simp [go_sem, *]
def ofB (f : Nat -> Bool) : Nat -> BitVec 256
 | 0 => 0#256
 | n + 1 => if f n then ofB f n ||| bt n else ofB f n
theorem zjp (f : Nat -> Bool) (n : Nat) (hn : n <= 256) (j : Nat) : (ofB f n).getLsbD j = (decide (j < n) && f j) := by
 induction n with
 | zero => simp [ofB]
 | succ n ih =>
  have ih := ih (by omega)
  unfold ofB
  by_cases h : f n = true
  ·rw [if_pos h, BitVec.getLsbD_or, ih, zhJ _ _ (by omega)]
   by_cases e : j = n
   ·subst e; simp [h]
   ·have : decide (j < n + 1) = decide (j < n) := decide_eq_decide.2 (by omega)
    simp [e, this]
  ·rw [if_neg h, ih]
   by_cases e : j = n
   ·subst e; simp [h]
   ·have : decide (j < n + 1) = decide (j < n) := decide_eq_decide.2 (by omega)
    simp [this]
theorem zfg (x y : BitVec 256) (h : ∀ j, j < 256 -> x.getLsbD j = y.getLsbD j) : x = y := BitVec.eq_of_getLsbD_eq h
def spn (lo hi : Int) : BitVec 256 := ofB (fun j => decide (lo <= (j : Int))) (hi + 1).toNat
theorem zdj (lo hi : Int) (h1 : hi <= 255) (j : Nat) : (spn lo hi).getLsbD j = (decide (lo <= (j : Int)) && decide ((j : Int) <= hi)) := by
 unfold spn
 rw [zjp _ _ (by omega)]
 have : decide (j < (hi + 1).toNat) = decide ((j : Int) <= hi) := decide_eq_decide.2 (by omega)
 rw [this, Bool.and_comm]
theorem zjq (lo : Int) (h0 : 0 <= lo) (h1 : lo <= 256) : spn lo (lo - 1) = 0#256 := by
 refine zfg _ _ fun j hj => ?_
 rw [zdj _ _ (by omega)]
 by_cases h : lo <= (j : Int)
 ·have : ¬ (j : Int) <= lo - 1 := by omega
  simp [this]
 ·simp [h]
theorem zhK (lo b : Int) (h0 : 0 <= lo) (hb : lo <= b) (h1 : b <= 255) : spn lo b = spn lo (b - 1) ||| bt b.toNat := by
 refine zfg _ _ fun j hj => ?_
 rw [zdj _ _ (by omega), BitVec.getLsbD_or, zdj _ _ (by omega), zhJ _ _ (by omega)]
 by_cases e : j = b.toNat
 ·have a1 : lo <= (j : Int) := by omega
  have a2 : (j : Int) <= b := by omega
  rw [decide_eq_true a1, decide_eq_true a2, decide_eq_true e]; simp
 ·have : decide ((j : Int) <= b) = decide ((j : Int) <= b - 1) := decide_eq_decide.2 (by omega)
  simp [e, this]
def zef (f : Nat -> Bool) : Nat -> Nat
 | 0 => 0
 | n + 1 => zef f n + (f n).toNat
theorem zcl (f : Nat -> Bool) (n : Nat) : zef f (n + 1) = zef f n + (f n).toNat := rfl
theorem zfC (f : Nat -> Bool) (n : Nat) : zef f n <= n := by
 induction n with
 | zero => exact Nat.le_refl _
 | succ n ih => unfold zef; cases f n <;> simp <;> omega
def zgN (x : BitVec 256) (b : Int) : Bool := decide (0 <= b) && (decide (b <= 255) && x.getLsbD b.toNat)
theorem zgT (x : BitVec 256) (b : Int) (h : ¬ (0 <= b /\ b <= 255)) : zgN x b = false := by
 unfold zgN
 by_cases h0 : 0 <= b
 ·have : ¬ b <= 255 := fun h1 => h ⟨h0, h1⟩
  simp [this]
 ·simp [h0]
theorem zcD (x : BitVec 256) (b : Int) (h0 : 0 <= b) (h1 : b <= 255) : zgN x b = x.getLsbD b.toNat := by
 unfold zgN; simp [h0, h1]
theorem zaF {a b : Bool} (h : a = b) : Ending.returned (.bool a) = .returned (.bool b) := by rw [h]
theorem zek (x : BitVec 256) (b : Int) (h0 : 0 <= b) (i : Nat) (hi : b / 64 = (i : Int)) : (bits .and .u64 (wd x i / 2 ^ (b % 64).toNat) 1 == 1) = x.getLsbD b.toNat := by
 have h2 := zn7 x b.toNat i (by omega)
 obtain ⟨n, hn⟩ := Int.eq_ofNat_of_zero_le (zfy x i)
 have hlt := zgQ x i
 rw [hn] at h2 hlt ⊢
 have e1 : (b % 64).toNat = b.toNat % 64 := by omega
 have e2 : (n : Int) / 2 ^ (b % 64).toNat = ((n / 2 ^ (b.toNat % 64) : Nat) : Int) := by rw [e1]; simp
 rw [e2, show (1 : Int) = ((1 : Nat) : Int) from rfl, u64_and_nat _ _ (Nat.lt_of_le_of_lt (Nat.div_le_self _ _) (by omega)) (by omega), nat_mask1]
 simp only [Int.toNat_natCast] at h2
 rw [h2]
 cases x.getLsbD b.toNat <;> rfl
theorem zaQ (x : BitVec 256) (b : Int) (w : World) :
  Calls Tryz.prog 122 #[sv x, .int .i64 b] w fun e w' => e = .returned (.bool (zgN x b)) /\ Below w.heap.size w w' := by
 by_cases h0 : 0 <= b
 ·have d0 : decide (0 <= b) = true := by simpa using h0
  by_cases h1 : b <= 255
  ·have d1 : decide (b <= 255) = true := by simpa using h1
   have hy := hO (zcD x b h0 h1)
   have hr : IntKind.i64.wrap (b.tmod 64) = b % 64 := by rw [Int.tmod_eq_emod_of_nonneg h0, IntKind.wrap_i64]; omega
   have hq : b / 64 = 0 ∨ b / 64 = 1 ∨ b / 64 = 2 ∨ b / 64 = 3 := by omega
   rcases hq with hq | hq | hq | hq
   ·have t1 : IntKind.i64.wrap (b.tdiv 64) = 0 := by rw [zbo b h0 h1]; exact hq
    have hs := hO (zek x b h0 0 hq)
    go_enter Tryz.func122, Tryz.ntmps122
    go_wp2
    go_ret
    exact ⟨zaF (hs.out.trans hy.out.symm), (Below.refl _ _).alloc (Nat.le_refl _) _⟩
   ·have t1 : IntKind.i64.wrap (b.tdiv 64) = 1 := by rw [zbo b h0 h1]; exact hq
    have hs := hO (zek x b h0 1 hq)
    go_enter Tryz.func122, Tryz.ntmps122
    go_wp2
    go_ret
    exact ⟨zaF (hs.out.trans hy.out.symm), (Below.refl _ _).alloc (Nat.le_refl _) _⟩
   ·have t1 : IntKind.i64.wrap (b.tdiv 64) = 2 := by rw [zbo b h0 h1]; exact hq
    have hs := hO (zek x b h0 2 hq)
    go_enter Tryz.func122, Tryz.ntmps122
    go_wp2
    go_ret
    exact ⟨zaF (hs.out.trans hy.out.symm), (Below.refl _ _).alloc (Nat.le_refl _) _⟩
   ·have t1 : IntKind.i64.wrap (b.tdiv 64) = 3 := by rw [zbo b h0 h1]; exact hq
    have hs := hO (zek x b h0 3 hq)
    go_enter Tryz.func122, Tryz.ntmps122
    go_wp2
    go_ret
    exact ⟨zaF (hs.out.trans hy.out.symm), (Below.refl _ _).alloc (Nat.le_refl _) _⟩
  ·have d1 : decide (b <= 255) = false := by simpa using h1
   have hy := hO (zgT x b (fun h => h1 h.2))
   go_enter Tryz.func122, Tryz.ntmps122
   go_wp2
   go_ret
   exact ⟨zaF hy.out.symm, (Below.refl _ _).alloc (Nat.le_refl _) _⟩
 ·have d0 : decide (0 <= b) = false := by simpa using h0
  have hy := hO (zgT x b (fun h => h0 h.1))
  go_enter Tryz.func122, Tryz.ntmps122
  go_wp2
  go_ret
  exact ⟨zaF hy.out.symm, (Below.refl _ _).alloc (Nat.le_refl _) _⟩
def zbl (x : BitVec 256) : Nat -> List Int
 | 0 => []
 | n + 1 => if x.getLsbD n then zbl x n ++ [(n : Int)] else zbl x n
abbrev bys (x : BitVec 256) : List Int := zbl x 256
def zaj (l : List Int) : ByteArray := l.foldl (fun r n => r.push (UInt8.ofNat n.toNat)) ByteArray.empty
def cnt (x : BitVec 256) : Nat := zef x.getLsbD 256
theorem zbW (x : BitVec 256) (n : Nat) : zbl x (n + 1) = if x.getLsbD n then zbl x n ++ [(n : Int)] else zbl x n := rfl
theorem zet (x : BitVec 256) (k : Nat) : (zbl x k).length = zef x.getLsbD k := by
 induction k with
 | zero => rfl
 | succ n ih =>
  rw [zbW, zcl]
  cases h : x.getLsbD n <;> simp [ih]
theorem zjr (x : BitVec 256) : (bys x).length = cnt x := zet x 256
theorem cnt_le (x : BitVec 256) : cnt x <= 256 := zfC _ _
theorem zds (x : BitVec 256) (k : Nat) (b : Int) : b ∈ zbl x k ↔ 0 <= b /\ b < k /\ x.getLsbD b.toNat = true := by
 induction k with
 | zero => simp [zbl]; omega
 | succ n ih =>
  rw [zbW]
  cases h : x.getLsbD n
  ·simp only [Bool.false_eq_true, if_false, ih]
   constructor
   ·rintro ⟨a, b1, c⟩; exact ⟨a, by omega, c⟩
   ·rintro ⟨a, b1, c⟩
    refine ⟨a, ?_, c⟩
    have : b ≠ n := fun e => by rw [e, Int.toNat_natCast, h] at c; cases c
    omega
  ·simp only [if_true, List.mem_append, ih, List.mem_singleton]
   constructor
   ·rintro (⟨a, b1, c⟩ | e)
    ·exact ⟨a, by omega, c⟩
    ·subst e; exact ⟨by omega, by omega, by rw [Int.toNat_natCast]; exact h⟩
   ·rintro ⟨a, b1, c⟩
    by_cases e : b = n
    ·exact .inr e
    ·exact .inl ⟨a, by omega, c⟩
theorem zlW (x : BitVec 256) (k : Nat) (b : Int) (h : b ∈ zbl x k) : 0 <= b /\ b < k := ⟨((zds x k b).1 h).1, ((zds x k b).1 h).2.1⟩
theorem zbf (l : List Int) : (zaj l).data.toList = l.map (fun n => UInt8.ofNat n.toNat) := by
 have key : ∀ (l : List Int) (s : ByteArray), (l.foldl (fun r n => r.push (UInt8.ofNat n.toNat)) s).data.toList = s.data.toList ++ l.map (fun n => UInt8.ofNat n.toNat) := by
  intro l
  induction l with
  | nil => intro s; simp
  | cons b l ih => intro s; rw [List.foldl_cons, ih]; simp [ByteArray.push]
 have := key l ByteArray.empty
 simpa [zaj] using this
theorem zaw (l : List Int) : (zaj l).size = l.length := by
 have h := congrArg List.length (zbf l)
 simpa using h
def mixB (m : Nat) (a b : Bool) : Bool := (m == 0 && (a || b)) || ((m == 1 && a && b) || ((m == 2 && a && !b) || (m == 3 && !a)))
def zaO (m : Nat) (x y : BitVec 256) (k : Nat) : BitVec 256 := ofB (fun j => mixB m (x.getLsbD j) (y.getLsbD j)) k
def zjs (m : Nat) (x y : BitVec 256) : BitVec 256 := zaO m x y 256
theorem zdQ (m : Nat) (x y : BitVec 256) (k : Nat) (hk : k < 256) : zaO m x y (k + 1) = if mixB m (zgN x k) (zgN y k) then zaO m x y k ||| bt k else zaO m x y k := by
 rw [zcD x k (by omega) (by omega), zcD y k (by omega) (by omega), Int.toNat_natCast]; rfl
theorem zfD (m : Nat) (x y : BitVec 256) (j : Nat) (hj : j < 256) : (zjs m x y).getLsbD j = mixB m (x.getLsbD j) (y.getLsbD j) := by
 unfold zjs zaO; rw [zjp _ _ (by omega)]; simp [hj]
theorem ziz (x y : BitVec 256) : zjs 0 x y = x ||| y := zfg _ _ fun j hj => by rw [zfD _ _ _ _ hj, BitVec.getLsbD_or]; simp [mixB]
theorem zjt (x y : BitVec 256) : zjs 2 x y = x &&& ~~~ y := zfg _ _ fun j hj => by rw [zfD _ _ _ _ hj, BitVec.getLsbD_and, BitVec.getLsbD_not]; simp [mixB, hj]
theorem zlX (x y : BitVec 256) : zjs 3 x y = ~~~ x := zfg _ _ fun j hj => by rw [zfD _ _ _ _ hj, BitVec.getLsbD_not]; simp [mixB, hj]
abbrev c4 (x : BitVec 256) : Obj := .cells #[.int .u64 (wd x 0), .int .u64 (wd x 1), .int .u64 (wd x 2), .int .u64 (wd x 3)] 49
abbrev z4 : Obj := .cells #[.int .u64 0, .int .u64 0, .int .u64 0, .int .u64 0] 49
theorem zdR (w : World) (x y : BitVec 256) : Holds ((((w.alloc (c4 x)).alloc (c4 y)).alloc z4).alloc z4) w.heap.size x := (((Holds.new w x).alloc _).alloc _).alloc _
theorem zdS (w : World) (x y : BitVec 256) : Holds ((((w.alloc (c4 x)).alloc (c4 y)).alloc z4).alloc z4) (w.heap.size + 1) y := by
 have h := ((Holds.new (w.alloc (c4 x)) y).alloc z4).alloc z4
 rw [show (w.alloc (c4 x)).heap.size = w.heap.size + 1 from by simp] at h
 exact h
theorem zdT (w : World) (x y : BitVec 256) : Holds ((((w.alloc (c4 x)).alloc (c4 y)).alloc z4).alloc z4) (w.heap.size + 2) 0#256 := by
 have h := (Holds.zero ((w.alloc (c4 x)).alloc (c4 y))).alloc z4
 rw [show ((w.alloc (c4 x)).alloc (c4 y)).heap.size = w.heap.size + 2 from by simp] at h
 exact h
theorem zdU (w : World) (x y : BitVec 256) : Holds ((((w.alloc (c4 x)).alloc (c4 y)).alloc z4).alloc z4) (w.heap.size + 3) 0#256 := by
 have h := Holds.zero (((w.alloc (c4 x)).alloc (c4 y)).alloc z4)
 rw [show (((w.alloc (c4 x)).alloc (c4 y)).alloc z4).heap.size = w.heap.size + 3 from by simp] at h
 exact h
theorem zdV (w : World) (x y : BitVec 256) : Below w.heap.size w ((((w.alloc (c4 x)).alloc (c4 y)).alloc z4).alloc z4) :=
 (((((Below.refl _ _).alloc (Nat.le_refl _) _).alloc (by simp) _).alloc (by simp; omega) _).alloc (by simp; omega) _)
theorem Tryz.info5 : (Tryz.prog.info? 5).map (fun i => (i.zero, i.size, i.bytes)) = some (some (.int .u8 0), 1, 1) := by kernel_rfl
theorem za8 {w w' : World} {base e size : Nat} {v : Value} {n : Nat} {xs : List Value} (h : w.ownsRow base e size v n xs) (hb : Below w.heap.size w w') (_hB : base <= w.heap.size) : w'.ownsRow base e size v n xs := by
 refine h.kept (row := none) ⟨hb.os, hb.tape, hb.output, hb.size, fun k hk _ => hb.block k hk⟩ ?_
 cases h2 : v.ownBlock
 ·exact .inl rfl
 ·exact .inr (by simp)
theorem zdk {w w' : World} {b : Nat} {x : BitVec 256} {row : Option Nat} (h : Holds w b x) (hg : w.grownBy w' row) (hne : row = some b -> False) : Holds w' b x := by
 have e := hg.block b h.lt (fun e => hne e.symm)
 exact ⟨Nat.lt_of_lt_of_le h.lt hg.size, (World.cell?_of_block (a := ⟨b, 0, none⟩) e).trans h.c0, (World.cell?_of_block (a := ⟨b, 1, none⟩) e).trans h.c1, (World.cell?_of_block (a := ⟨b, 2, none⟩) e).trans h.c2, (World.cell?_of_block (a := ⟨b, 3, none⟩) e).trans h.c3,
  (World.frozen?_of_block (a := ⟨b, 0, none⟩) e).trans h.f0, (World.frozen?_of_block (a := ⟨b, 1, none⟩) e).trans h.f1, (World.frozen?_of_block (a := ⟨b, 2, none⟩) e).trans h.f2, (World.frozen?_of_block (a := ⟨b, 3, none⟩) e).trans h.f3⟩
theorem zc4 {w : World} {base : Nat} {v : Value} {l : List Int} (h : w.ownsRow base 5 1 v l.length (l.map (Value.int .u8))) :
  (convert 84 9 v).run Tryz.prog w = .ok (.string (zaj l)) w := by
 have hc := h
 obtain ⟨hlen, h2⟩ := h
 rcases h2 with ⟨rfl, hn⟩ | ⟨g, cap, cur, rfl, _⟩
 ·obtain rfl : l = [] := List.eq_nil_of_length_eq_zero hn
  rw [run_convert_bytes_string w 84 9 5 _ _ _ Tryz.underlying84 Tryz.underlying5 Tryz.underlying9]
  rfl
 ·rw [run_convert_bytes_string w 84 9 5 _ _ _ Tryz.underlying84 Tryz.underlying5 Tryz.underlying9]
  refine run_bytesToString w ⟨g, 0, none⟩ l.length cap l ?_
  have := run_loadCells_list (P := Tryz.prog) (w := w) ⟨g, 0, none⟩ (l.map (Value.int .u8)) (hc.cells rfl)
  rwa [List.length_map] at this
theorem ziA (x : BitVec 256) (w : World) :
  Calls Tryz.prog 121 #[sv x] w fun e w' => e = .returned (.string (zaj (bys x))) /\ Below w.heap.size w w' := by
 obtain ⟨i0, hi, hz0, hz1, hz2⟩ := info_parts Tryz.info5
 go_enter Tryz.func121, Tryz.ntmps121
 go_wp2
 go_loopw [3, 4] (fun v t wr => ∃ k : Nat, k <= 256 /\ t = .int .i64 k /\ wr.ownsRow (w.heap.size + 1) 5 1 v (zbl x k).length ((zbl x k).map (Value.int .u8)) /\ Holds wr w.heap.size x /\ Below w.heap.size w wr) (fun _ t _ => 256 - (intOf t).toNat)
 case atStart => exact ⟨0, by omega, rfl, World.ownsRow_nil _ _ _ _, Holds.new w x, (Below.refl _ _).alloc (Nat.le_refl _) _⟩
 case round =>
  obtain ⟨k, hk, rfl, hown, hx, hbel⟩ := hrel
  have hsz : w.heap.size < wr.heap.size := hx.lt
  have HX := hO hx
  have HO := hO hown
  have HB := hO hbel
  have hcl := zfC x.getLsbD k
  by_cases hlt : k < 256
  ·have HS := (show Hid _ from zbW x k)
   have HG := hO (zcD x k (by omega) (by omega))
   have hw8 : IntKind.u8.wrap (k : Int) = (k : Int) := by rw [IntKind.wrap_u8']; omega
   obtain ⟨l0, c0, c1, c2, c3, f0, f1, f2, f3⟩ := hx
   clear hown hbel
   cases hb : zgN x k
   ·have HE : Hid (zbl x (k + 1) = zbl x k) := (by
     have h := HS.out
     rw [HG.out, Int.toNat_natCast] at hb
     rw [hb] at h; exact h)
    go_wp2_with fail
    refine (zaQ x k _).mono ?_
    rintro e w1 ⟨rfl, hb1⟩
    have hO1 := hO (za8 HO.out hb1 (by omega))
    have hB1 := hO (HB.out.trans (hb1.mono (by omega)))
    have hX1 := hO (HX.out.below hb1 (by omega))
    clear hb1
    go_wp2
    go_roundw
    case rel => exact ⟨k + 1, by omega, by go_num, (by rw [HE.out]; exact hO1.out), hX1.out, hB1.out⟩
    case measure => simp [intOf]; omega
   ·have HE : Hid (zbl x (k + 1) = zbl x k ++ [(k : Int)]) := (by
     have h := HS.out
     rw [HG.out, Int.toNat_natCast] at hb
     rw [hb] at h; exact h)
    go_wp2_with fail
    refine (zaQ x k _).mono ?_
    rintro e w1 ⟨rfl, hb1⟩
    have hO1 := za8 HO.out hb1 (by omega)
    have hB1 := hO (HB.out.trans (hb1.mono (by omega)))
    have hX1 := hO (HX.out.below hb1 (by omega))
    have hsz1 : w.heap.size < w1.heap.size := hX1.out.lt
    have hlen : (zbl x k).length <= 256 := by rw [zet]; omega
    clear c0 c1 c2 c3 f0 f1 f2 f3 HO HX HB hb1
    go_wp2_with (at_builtin; refine wpList_append_own _ rfl _ _ 84 rfl (w.heap.size + 1) 5 i0 (.int .u8 0) 1 1 Tryz.underlying84 hi hz0 hz1 hz2 rfl (by decide) _ _ _ rfl (hO1.alloc _) ⟨w1.heap.size, 0, none⟩ 1 1 [.int .u8 k] rfl rfl (cell_one_new _ _ _) ?c2 ?c3 ?c4 ?c5 ?_)
    case c2 => intro u hu; simp at hu; subst hu; rfl
    case c3 => unfold maxLen; omega
    case c4 => omega
    case c5 => simp; omega
    intro v' w2 hown' hgrow _
    have hle := fun j e => (hO1.lt j e).1
    have hB2 := hO ((hB1.out.alloc (by omega) (.cells #[.int .u8 k] 5)).grown hgrow (by simp; omega) (fun j e => by have := hle j e; omega))
    have hX2 := hO (zdk (hX1.out.alloc (.cells #[.int .u8 k] 5)) hgrow (fun e => by have := hle _ e; omega))
    have hO2 := hO hown'
    clear hO1 hown' hgrow hle
    go_wp2
    go_roundw
    case rel =>
     refine ⟨k + 1, by omega, by go_num, ?_, hX2.out, hB2.out⟩
     rw [HE.out, List.length_append, List.map_append]
     exact hO2.out
    case measure => simp [intOf]; omega
  ·obtain rfl : k = 256 := by omega
   have HT := hO (zc4 HO.out)
   clear hown hx hbel
   have ht := HT.out
   go_wp2
   go_ret
   exact ⟨rfl, HB.out⟩
theorem zbw (x : BitVec 256) (b : Int) (w : World) (h0 : 0 <= b) (h1 : b <= 255) :
  Calls Tryz.prog 116 #[sv x, .int .i64 b] w fun e w' => e = .returned (sv (x ||| bt b.toNat)) /\ Below w.heap.size w w' := by
 have hq : b / 64 = 0 ∨ b / 64 = 1 ∨ b / 64 = 2 ∨ b / 64 = 3 := by omega
 have hr : IntKind.i64.wrap (b.tmod 64) = b % 64 := by rw [Int.tmod_eq_emod_of_nonneg h0, IntKind.wrap_i64]; omega
 have hr0 : 0 <= b % 64 := by omega
 have hr1 : b % 64 < 64 := by omega
 have hp := pw_of b h0
 rcases hq with hq | hq | hq | hq
 ·have hs := hO (zcb x b h0 h1 0 hq)
  have t1 : IntKind.i64.wrap (b.tdiv 64) = 0 := by rw [zbo b h0 h1]; exact hq
  go_enter Tryz.func116, Tryz.ntmps116
  go_wp2
  go_region
  all_goals
   go_wp2
   replace hs := hs.out
   exact bodyPost_ret (v := .agg #[.int .u64 (bits BinOp.or IntKind.u64 (wd x 0) (pw b.toNat)), .int .u64 (wd x 1), .int .u64 (wd x 2), .int .u64 (wd x 3)]) (by simp [results, Tryz.results116, go_sem]) rfl ⟨zcO hs.1 (hs.2 1 (by omega)) (hs.2 2 (by omega)) (hs.2 3 (by omega)), (((Below.refl _ _).alloc (Nat.le_refl _) _).alloc (by simp) _).drew⟩
 ·have hs := hO (zcb x b h0 h1 1 hq)
  have t1 : IntKind.i64.wrap (b.tdiv 64) = 1 := by rw [zbo b h0 h1]; exact hq
  go_enter Tryz.func116, Tryz.ntmps116
  go_wp2
  go_region
  all_goals
   go_wp2
   replace hs := hs.out
   exact bodyPost_ret (v := .agg #[.int .u64 (wd x 0), .int .u64 (bits BinOp.or IntKind.u64 (wd x 1) (pw b.toNat)), .int .u64 (wd x 2), .int .u64 (wd x 3)]) (by simp [results, Tryz.results116, go_sem]) rfl ⟨zcO (hs.2 0 (by omega)) hs.1 (hs.2 2 (by omega)) (hs.2 3 (by omega)), (((Below.refl _ _).alloc (Nat.le_refl _) _).alloc (by simp) _).drew⟩
 ·have hs := hO (zcb x b h0 h1 2 hq)
  have t1 : IntKind.i64.wrap (b.tdiv 64) = 2 := by rw [zbo b h0 h1]; exact hq
  go_enter Tryz.func116, Tryz.ntmps116
  go_wp2
  go_region
  all_goals
   go_wp2
   replace hs := hs.out
   exact bodyPost_ret (v := .agg #[.int .u64 (wd x 0), .int .u64 (wd x 1), .int .u64 (bits BinOp.or IntKind.u64 (wd x 2) (pw b.toNat)), .int .u64 (wd x 3)]) (by simp [results, Tryz.results116, go_sem]) rfl ⟨zcO (hs.2 0 (by omega)) (hs.2 1 (by omega)) hs.1 (hs.2 3 (by omega)), (((Below.refl _ _).alloc (Nat.le_refl _) _).alloc (by simp) _).drew⟩
 ·have hs := hO (zcb x b h0 h1 3 hq)
  have t1 : IntKind.i64.wrap (b.tdiv 64) = 3 := by rw [zbo b h0 h1]; exact hq
  go_enter Tryz.func116, Tryz.ntmps116
  go_wp2
  go_region
  all_goals
   go_wp2
   replace hs := hs.out
   exact bodyPost_ret (v := .agg #[.int .u64 (wd x 0), .int .u64 (wd x 1), .int .u64 (wd x 2), .int .u64 (bits BinOp.or IntKind.u64 (wd x 3) (pw b.toNat))]) (by simp [results, Tryz.results116, go_sem]) rfl ⟨zcO (hs.2 0 (by omega)) (hs.2 1 (by omega)) (hs.2 2 (by omega)) hs.1, (((Below.refl _ _).alloc (Nat.le_refl _) _).alloc (by simp) _).drew⟩
theorem zlY (x y : BitVec 256) (w : World) :
  Calls Tryz.prog 118 #[.int .i64 0, sv x, sv y] w fun e w' => e = .returned (sv (zjs 0 x y)) /\ Below w.heap.size w w' := by
 go_enter Tryz.func118, Tryz.ntmps118
 go_wp2
 go_loopw [8] (fun t wr => ∃ k : Nat, k <= 256 /\ t = .int .i64 k /\ Holds wr w.heap.size x /\ Holds wr (w.heap.size + 1) y /\ Holds wr (w.heap.size + 1 + 1 + 1) (zaO 0 x y k) /\ (∃ z, Holds wr (w.heap.size + 1 + 1) z) /\ Below w.heap.size w wr) (fun t _ => 256 - (intOf t).toNat)
 case atStart =>
  exact ⟨0, by omega, rfl, zdR w x y, zdS w x y, zdU w x y, ⟨0#256, zdT w x y⟩, zdV w x y⟩
 case round =>
  obtain ⟨k, hk, rfl, hx, hy, hm, ⟨z, hz⟩, hbel⟩ := hrel
  have hsz : w.heap.size + 1 + 1 + 1 < wr.heap.size := hm.lt
  have HX := hO hx
  have HY := hO hy
  have HM := hO hm
  have HZ := hO hz
  have HB := hO hbel
  by_cases hlt : k < 256
  ·have HS := hO (zdQ 0 x y k hlt)
   clear hm hz hbel
   obtain ⟨l0, c0, c1, c2, c3, f0, f1, f2, f3⟩ := hx
   obtain ⟨l1, d0, d1, d2, d3, g0, g1, g2, g3⟩ := hy
   have HR : Hid (Below wr.heap.size wr wr) := Below.refl _ _
   have hk0 : (0 : Int) <= (k : Int) := by omega
   have hk1 : (k : Int) <= 255 := by omega
   cases hxb : zgN x k <;> cases hyb : zgN y k
   ·have HE : Hid (zaO 0 x y (k + 1) = zaO 0 x y k) := (by have h := HS.out; rw [hxb, hyb, if_neg (by decide)] at h; exact h)
    clear HS
    go_wp2
    go_region_held3 (fun w' => w'.cell? ⟨w.heap.size, 0, none⟩ = some (.int .u64 (wd x 0)) /\ w'.cell? ⟨w.heap.size, 1, none⟩ = some (.int .u64 (wd x 1)) /\ w'.cell? ⟨w.heap.size, 2, none⟩ = some (.int .u64 (wd x 2)) /\ w'.cell? ⟨w.heap.size, 3, none⟩ = some (.int .u64 (wd x 3)) /\ w'.cell? ⟨w.heap.size + 1, 0, none⟩ = some (.int .u64 (wd y 0)) /\ w'.cell? ⟨w.heap.size + 1, 1, none⟩ = some (.int .u64 (wd y 1)) /\ w'.cell? ⟨w.heap.size + 1, 2, none⟩ = some (.int .u64 (wd y 2)) /\ w'.cell? ⟨w.heap.size + 1, 3, none⟩ = some (.int .u64 (wd y 3))) (first | go_keep | (go_split_ands; refine ⟨?_, ?_, ?_, ?_, ?_, ?_, ?_, ?_⟩ <;> (rw [hb.cell (by simp; omega)]; first | assumption | simp [*]))) ((go_at_call 122; refine (zaQ _ _ _).mono ?_; rintro e w1 ⟨rfl, hb⟩; have hz1 := hb.size; (try simp at hz1); replace HR : Hid (Below wr.heap.size wr w1) := (by first | exact HR.out.trans (hb.mono (by omega)) | exact HR.out.drew.trans (hb.mono (by simp)))))
    clear c0 c1 c2 c3 f0 f1 f2 f3 d0 d1 d2 d3 g0 g1 g2 g3
    have hM1 := HM.out.below HR.out (by omega)
    have hX1 := hO (HX.out.below HR.out (by omega))
    have hY1 := hO (HY.out.below HR.out (by omega))
    have hZ1 := hO (HZ.out.below HR.out (by omega))
    have hB1 := hO (HB.out.trans (HR.out.mono (by omega)))
    clear HM HX HY HZ HB
    generalize zaO 0 x y k = mm at *
    have HM1 := hO hM1
    clear hM1
    go_wp2
    go_roundw
    case rel => exact ⟨k + 1, by omega, by go_num, hX1.out, hY1.out, (by rw [HE.out]; exact HM1.out), ⟨z, hZ1.out⟩, hB1.out⟩
    case measure => simp [intOf]; omega
   ·have HE : Hid (zaO 0 x y (k + 1) = zaO 0 x y k ||| bt k) := (by have h := HS.out; rw [hxb, hyb, if_pos (by decide)] at h; exact h)
    clear HS
    go_wp2
    go_region_held3 (fun w' => w'.cell? ⟨w.heap.size, 0, none⟩ = some (.int .u64 (wd x 0)) /\ w'.cell? ⟨w.heap.size, 1, none⟩ = some (.int .u64 (wd x 1)) /\ w'.cell? ⟨w.heap.size, 2, none⟩ = some (.int .u64 (wd x 2)) /\ w'.cell? ⟨w.heap.size, 3, none⟩ = some (.int .u64 (wd x 3)) /\ w'.cell? ⟨w.heap.size + 1, 0, none⟩ = some (.int .u64 (wd y 0)) /\ w'.cell? ⟨w.heap.size + 1, 1, none⟩ = some (.int .u64 (wd y 1)) /\ w'.cell? ⟨w.heap.size + 1, 2, none⟩ = some (.int .u64 (wd y 2)) /\ w'.cell? ⟨w.heap.size + 1, 3, none⟩ = some (.int .u64 (wd y 3))) (first | go_keep | (go_split_ands; refine ⟨?_, ?_, ?_, ?_, ?_, ?_, ?_, ?_⟩ <;> (rw [hb.cell (by simp; omega)]; first | assumption | simp [*]))) ((go_at_call 122; refine (zaQ _ _ _).mono ?_; rintro e w1 ⟨rfl, hb⟩; have hz1 := hb.size; (try simp at hz1); replace HR : Hid (Below wr.heap.size wr w1) := (by first | exact HR.out.trans (hb.mono (by omega)) | exact HR.out.drew.trans (hb.mono (by simp)))))
    clear c0 c1 c2 c3 f0 f1 f2 f3 d0 d1 d2 d3 g0 g1 g2 g3
    have hM1 := HM.out.below HR.out (by omega)
    have hX1 := hO (HX.out.below HR.out (by omega))
    have hY1 := hO (HY.out.below HR.out (by omega))
    have hZ1 := hO (HZ.out.below HR.out (by omega))
    have hB1 := hO (HB.out.trans (HR.out.mono (by omega)))
    clear HM HX HY HZ HB
    generalize zaO 0 x y k = mm at *
    have HM1 := hO hM1
    obtain ⟨l5, c0, c1, c2, c3, f0, f1, f2, f3⟩ := hM1
    go_wp2_with fail
    refine (zbw mm k _ (by omega) (by omega)).mono ?_
    rintro e w2 ⟨rfl, hb2⟩
    clear c0 c1 c2 c3 f0 f1 f2 f3
    obtain ⟨l5, c0, c1, c2, c3, f0, f1, f2, f3⟩ := HM1.out.below hb2 l5
    go_wp2
    go_roundw
    case rel =>
     refine ⟨k + 1, by omega, by go_num, (hX1.out.below hb2 (by omega)).put_other (by omega) _, (hY1.out.below hb2 (by omega)).put_other (by omega) _, ?_, ⟨z, (hZ1.out.below hb2 (by omega)).put_other (by omega) _⟩, ?_⟩
     ·rw [HE.out]; exact (HM1.out.below hb2 (by omega)).put _
     ·exact ((((hB1.out.trans (hb2.mono (by omega))).setCell (by simp; omega) _).setCell (by simp; omega) _).setCell (by simp; omega) _).setCell (by simp; omega) _
    case measure => simp [intOf]; omega
   ·have HE : Hid (zaO 0 x y (k + 1) = zaO 0 x y k ||| bt k) := (by have h := HS.out; rw [hxb, hyb, if_pos (by decide)] at h; exact h)
    clear HS
    go_wp2
    go_region_held3 (fun w' => w'.cell? ⟨w.heap.size, 0, none⟩ = some (.int .u64 (wd x 0)) /\ w'.cell? ⟨w.heap.size, 1, none⟩ = some (.int .u64 (wd x 1)) /\ w'.cell? ⟨w.heap.size, 2, none⟩ = some (.int .u64 (wd x 2)) /\ w'.cell? ⟨w.heap.size, 3, none⟩ = some (.int .u64 (wd x 3)) /\ w'.cell? ⟨w.heap.size + 1, 0, none⟩ = some (.int .u64 (wd y 0)) /\ w'.cell? ⟨w.heap.size + 1, 1, none⟩ = some (.int .u64 (wd y 1)) /\ w'.cell? ⟨w.heap.size + 1, 2, none⟩ = some (.int .u64 (wd y 2)) /\ w'.cell? ⟨w.heap.size + 1, 3, none⟩ = some (.int .u64 (wd y 3))) (first | go_keep | (go_split_ands; refine ⟨?_, ?_, ?_, ?_, ?_, ?_, ?_, ?_⟩ <;> (rw [hb.cell (by simp; omega)]; first | assumption | simp [*]))) ((go_at_call 122; refine (zaQ _ _ _).mono ?_; rintro e w1 ⟨rfl, hb⟩; have hz1 := hb.size; (try simp at hz1); replace HR : Hid (Below wr.heap.size wr w1) := (by first | exact HR.out.trans (hb.mono (by omega)) | exact HR.out.drew.trans (hb.mono (by simp)))))
    clear c0 c1 c2 c3 f0 f1 f2 f3 d0 d1 d2 d3 g0 g1 g2 g3
    have hM1 := HM.out.below HR.out (by omega)
    have hX1 := hO (HX.out.below HR.out (by omega))
    have hY1 := hO (HY.out.below HR.out (by omega))
    have hZ1 := hO (HZ.out.below HR.out (by omega))
    have hB1 := hO (HB.out.trans (HR.out.mono (by omega)))
    clear HM HX HY HZ HB
    generalize zaO 0 x y k = mm at *
    have HM1 := hO hM1
    obtain ⟨l5, c0, c1, c2, c3, f0, f1, f2, f3⟩ := hM1
    go_wp2_with fail
    refine (zbw mm k _ (by omega) (by omega)).mono ?_
    rintro e w2 ⟨rfl, hb2⟩
    clear c0 c1 c2 c3 f0 f1 f2 f3
    obtain ⟨l5, c0, c1, c2, c3, f0, f1, f2, f3⟩ := HM1.out.below hb2 l5
    go_wp2
    go_roundw
    case rel =>
     refine ⟨k + 1, by omega, by go_num, (hX1.out.below hb2 (by omega)).put_other (by omega) _, (hY1.out.below hb2 (by omega)).put_other (by omega) _, ?_, ⟨z, (hZ1.out.below hb2 (by omega)).put_other (by omega) _⟩, ?_⟩
     ·rw [HE.out]; exact (HM1.out.below hb2 (by omega)).put _
     ·exact ((((hB1.out.trans (hb2.mono (by omega))).setCell (by simp; omega) _).setCell (by simp; omega) _).setCell (by simp; omega) _).setCell (by simp; omega) _
    case measure => simp [intOf]; omega
   ·have HE : Hid (zaO 0 x y (k + 1) = zaO 0 x y k ||| bt k) := (by have h := HS.out; rw [hxb, hyb, if_pos (by decide)] at h; exact h)
    clear HS
    go_wp2
    go_region_held3 (fun w' => w'.cell? ⟨w.heap.size, 0, none⟩ = some (.int .u64 (wd x 0)) /\ w'.cell? ⟨w.heap.size, 1, none⟩ = some (.int .u64 (wd x 1)) /\ w'.cell? ⟨w.heap.size, 2, none⟩ = some (.int .u64 (wd x 2)) /\ w'.cell? ⟨w.heap.size, 3, none⟩ = some (.int .u64 (wd x 3)) /\ w'.cell? ⟨w.heap.size + 1, 0, none⟩ = some (.int .u64 (wd y 0)) /\ w'.cell? ⟨w.heap.size + 1, 1, none⟩ = some (.int .u64 (wd y 1)) /\ w'.cell? ⟨w.heap.size + 1, 2, none⟩ = some (.int .u64 (wd y 2)) /\ w'.cell? ⟨w.heap.size + 1, 3, none⟩ = some (.int .u64 (wd y 3))) (first | go_keep | (go_split_ands; refine ⟨?_, ?_, ?_, ?_, ?_, ?_, ?_, ?_⟩ <;> (rw [hb.cell (by simp; omega)]; first | assumption | simp [*]))) ((go_at_call 122; refine (zaQ _ _ _).mono ?_; rintro e w1 ⟨rfl, hb⟩; have hz1 := hb.size; (try simp at hz1); replace HR : Hid (Below wr.heap.size wr w1) := (by first | exact HR.out.trans (hb.mono (by omega)) | exact HR.out.drew.trans (hb.mono (by simp)))))
    clear c0 c1 c2 c3 f0 f1 f2 f3 d0 d1 d2 d3 g0 g1 g2 g3
    have hM1 := HM.out.below HR.out (by omega)
    have hX1 := hO (HX.out.below HR.out (by omega))
    have hY1 := hO (HY.out.below HR.out (by omega))
    have hZ1 := hO (HZ.out.below HR.out (by omega))
    have hB1 := hO (HB.out.trans (HR.out.mono (by omega)))
    clear HM HX HY HZ HB
    generalize zaO 0 x y k = mm at *
    have HM1 := hO hM1
    obtain ⟨l5, c0, c1, c2, c3, f0, f1, f2, f3⟩ := hM1
    go_wp2_with fail
    refine (zbw mm k _ (by omega) (by omega)).mono ?_
    rintro e w2 ⟨rfl, hb2⟩
    clear c0 c1 c2 c3 f0 f1 f2 f3
    obtain ⟨l5, c0, c1, c2, c3, f0, f1, f2, f3⟩ := HM1.out.below hb2 l5
    go_wp2
    go_roundw
    case rel =>
     refine ⟨k + 1, by omega, by go_num, (hX1.out.below hb2 (by omega)).put_other (by omega) _, (hY1.out.below hb2 (by omega)).put_other (by omega) _, ?_, ⟨z, (hZ1.out.below hb2 (by omega)).put_other (by omega) _⟩, ?_⟩
     ·rw [HE.out]; exact (HM1.out.below hb2 (by omega)).put _
     ·exact ((((hB1.out.trans (hb2.mono (by omega))).setCell (by simp; omega) _).setCell (by simp; omega) _).setCell (by simp; omega) _).setCell (by simp; omega) _
    case measure => simp [intOf]; omega
  ·have hke : k = 256 := by omega
   subst hke
   clear hx hy hbel
   have HQ : Hid (zaO 0 x y 256 = zjs 0 x y) := rfl
   generalize zaO 0 x y 256 = mm at *
   obtain ⟨l0, c0, c1, c2, c3, f0, f1, f2, f3⟩ := hm
   obtain ⟨l1, d0, d1, d2, d3, g0, g1, g2, g3⟩ := hz
   go_wp2
   rw [<- HQ.out]
   refine bodyPost_ret (v := sv mm) (by simp [results, Tryz.results118, go_sem, *]) rfl ⟨rfl, ?_⟩
   exact (((HB.out.setCell (by simp; omega) _).setCell (by simp; omega) _).setCell (by simp; omega) _).setCell (by simp; omega) _
theorem zlZ (x y : BitVec 256) (w : World) :
  Calls Tryz.prog 118 #[.int .i64 2, sv x, sv y] w fun e w' => e = .returned (sv (zjs 2 x y)) /\ Below w.heap.size w w' := by
 go_enter Tryz.func118, Tryz.ntmps118
 go_wp2
 go_loopw [8] (fun t wr => ∃ k : Nat, k <= 256 /\ t = .int .i64 k /\ Holds wr w.heap.size x /\ Holds wr (w.heap.size + 1) y /\ Holds wr (w.heap.size + 1 + 1 + 1) (zaO 2 x y k) /\ (∃ z, Holds wr (w.heap.size + 1 + 1) z) /\ Below w.heap.size w wr) (fun t _ => 256 - (intOf t).toNat)
 case atStart =>
  exact ⟨0, by omega, rfl, zdR w x y, zdS w x y, zdU w x y, ⟨0#256, zdT w x y⟩, zdV w x y⟩
 case round =>
  obtain ⟨k, hk, rfl, hx, hy, hm, ⟨z, hz⟩, hbel⟩ := hrel
  have hsz : w.heap.size + 1 + 1 + 1 < wr.heap.size := hm.lt
  have HX := hO hx
  have HY := hO hy
  have HM := hO hm
  have HZ := hO hz
  have HB := hO hbel
  by_cases hlt : k < 256
  ·have HS := hO (zdQ 2 x y k hlt)
   clear hm hz hbel
   obtain ⟨l0, c0, c1, c2, c3, f0, f1, f2, f3⟩ := hx
   obtain ⟨l1, d0, d1, d2, d3, g0, g1, g2, g3⟩ := hy
   have HR : Hid (Below wr.heap.size wr wr) := Below.refl _ _
   have hk0 : (0 : Int) <= (k : Int) := by omega
   have hk1 : (k : Int) <= 255 := by omega
   cases hxb : zgN x k <;> cases hyb : zgN y k
   ·have HE : Hid (zaO 2 x y (k + 1) = zaO 2 x y k) := (by have h := HS.out; rw [hxb, hyb, if_neg (by decide)] at h; exact h)
    clear HS
    go_wp2
    go_region_held3 (fun w' => w'.cell? ⟨w.heap.size, 0, none⟩ = some (.int .u64 (wd x 0)) /\ w'.cell? ⟨w.heap.size, 1, none⟩ = some (.int .u64 (wd x 1)) /\ w'.cell? ⟨w.heap.size, 2, none⟩ = some (.int .u64 (wd x 2)) /\ w'.cell? ⟨w.heap.size, 3, none⟩ = some (.int .u64 (wd x 3)) /\ w'.cell? ⟨w.heap.size + 1, 0, none⟩ = some (.int .u64 (wd y 0)) /\ w'.cell? ⟨w.heap.size + 1, 1, none⟩ = some (.int .u64 (wd y 1)) /\ w'.cell? ⟨w.heap.size + 1, 2, none⟩ = some (.int .u64 (wd y 2)) /\ w'.cell? ⟨w.heap.size + 1, 3, none⟩ = some (.int .u64 (wd y 3))) (first | go_keep | (go_split_ands; refine ⟨?_, ?_, ?_, ?_, ?_, ?_, ?_, ?_⟩ <;> (rw [hb.cell (by simp; omega)]; first | assumption | simp [*]))) ((go_at_call 122; refine (zaQ _ _ _).mono ?_; rintro e w1 ⟨rfl, hb⟩; have hz1 := hb.size; (try simp at hz1); replace HR : Hid (Below wr.heap.size wr w1) := (by first | exact HR.out.trans (hb.mono (by omega)) | exact HR.out.drew.trans (hb.mono (by simp)))))
    clear c0 c1 c2 c3 f0 f1 f2 f3 d0 d1 d2 d3 g0 g1 g2 g3
    have hM1 := HM.out.below HR.out (by omega)
    have hX1 := hO (HX.out.below HR.out (by omega))
    have hY1 := hO (HY.out.below HR.out (by omega))
    have hZ1 := hO (HZ.out.below HR.out (by omega))
    have hB1 := hO (HB.out.trans (HR.out.mono (by omega)))
    clear HM HX HY HZ HB
    generalize zaO 2 x y k = mm at *
    have HM1 := hO hM1
    clear hM1
    go_wp2
    go_roundw
    case rel => exact ⟨k + 1, by omega, by go_num, hX1.out, hY1.out, (by rw [HE.out]; exact HM1.out), ⟨z, hZ1.out⟩, hB1.out⟩
    case measure => simp [intOf]; omega
   ·have HE : Hid (zaO 2 x y (k + 1) = zaO 2 x y k) := (by have h := HS.out; rw [hxb, hyb, if_neg (by decide)] at h; exact h)
    clear HS
    go_wp2
    go_region_held3 (fun w' => w'.cell? ⟨w.heap.size, 0, none⟩ = some (.int .u64 (wd x 0)) /\ w'.cell? ⟨w.heap.size, 1, none⟩ = some (.int .u64 (wd x 1)) /\ w'.cell? ⟨w.heap.size, 2, none⟩ = some (.int .u64 (wd x 2)) /\ w'.cell? ⟨w.heap.size, 3, none⟩ = some (.int .u64 (wd x 3)) /\ w'.cell? ⟨w.heap.size + 1, 0, none⟩ = some (.int .u64 (wd y 0)) /\ w'.cell? ⟨w.heap.size + 1, 1, none⟩ = some (.int .u64 (wd y 1)) /\ w'.cell? ⟨w.heap.size + 1, 2, none⟩ = some (.int .u64 (wd y 2)) /\ w'.cell? ⟨w.heap.size + 1, 3, none⟩ = some (.int .u64 (wd y 3))) (first | go_keep | (go_split_ands; refine ⟨?_, ?_, ?_, ?_, ?_, ?_, ?_, ?_⟩ <;> (rw [hb.cell (by simp; omega)]; first | assumption | simp [*]))) ((go_at_call 122; refine (zaQ _ _ _).mono ?_; rintro e w1 ⟨rfl, hb⟩; have hz1 := hb.size; (try simp at hz1); replace HR : Hid (Below wr.heap.size wr w1) := (by first | exact HR.out.trans (hb.mono (by omega)) | exact HR.out.drew.trans (hb.mono (by simp)))))
    clear c0 c1 c2 c3 f0 f1 f2 f3 d0 d1 d2 d3 g0 g1 g2 g3
    have hM1 := HM.out.below HR.out (by omega)
    have hX1 := hO (HX.out.below HR.out (by omega))
    have hY1 := hO (HY.out.below HR.out (by omega))
    have hZ1 := hO (HZ.out.below HR.out (by omega))
    have hB1 := hO (HB.out.trans (HR.out.mono (by omega)))
    clear HM HX HY HZ HB
    generalize zaO 2 x y k = mm at *
    have HM1 := hO hM1
    clear hM1
    go_wp2
    go_roundw
    case rel => exact ⟨k + 1, by omega, by go_num, hX1.out, hY1.out, (by rw [HE.out]; exact HM1.out), ⟨z, hZ1.out⟩, hB1.out⟩
    case measure => simp [intOf]; omega
   ·have HE : Hid (zaO 2 x y (k + 1) = zaO 2 x y k ||| bt k) := (by have h := HS.out; rw [hxb, hyb, if_pos (by decide)] at h; exact h)
    clear HS
    go_wp2
    go_region_held3 (fun w' => w'.cell? ⟨w.heap.size, 0, none⟩ = some (.int .u64 (wd x 0)) /\ w'.cell? ⟨w.heap.size, 1, none⟩ = some (.int .u64 (wd x 1)) /\ w'.cell? ⟨w.heap.size, 2, none⟩ = some (.int .u64 (wd x 2)) /\ w'.cell? ⟨w.heap.size, 3, none⟩ = some (.int .u64 (wd x 3)) /\ w'.cell? ⟨w.heap.size + 1, 0, none⟩ = some (.int .u64 (wd y 0)) /\ w'.cell? ⟨w.heap.size + 1, 1, none⟩ = some (.int .u64 (wd y 1)) /\ w'.cell? ⟨w.heap.size + 1, 2, none⟩ = some (.int .u64 (wd y 2)) /\ w'.cell? ⟨w.heap.size + 1, 3, none⟩ = some (.int .u64 (wd y 3))) (first | go_keep | (go_split_ands; refine ⟨?_, ?_, ?_, ?_, ?_, ?_, ?_, ?_⟩ <;> (rw [hb.cell (by simp; omega)]; first | assumption | simp [*]))) ((go_at_call 122; refine (zaQ _ _ _).mono ?_; rintro e w1 ⟨rfl, hb⟩; have hz1 := hb.size; (try simp at hz1); replace HR : Hid (Below wr.heap.size wr w1) := (by first | exact HR.out.trans (hb.mono (by omega)) | exact HR.out.drew.trans (hb.mono (by simp)))))
    clear c0 c1 c2 c3 f0 f1 f2 f3 d0 d1 d2 d3 g0 g1 g2 g3
    have hM1 := HM.out.below HR.out (by omega)
    have hX1 := hO (HX.out.below HR.out (by omega))
    have hY1 := hO (HY.out.below HR.out (by omega))
    have hZ1 := hO (HZ.out.below HR.out (by omega))
    have hB1 := hO (HB.out.trans (HR.out.mono (by omega)))
    clear HM HX HY HZ HB
    generalize zaO 2 x y k = mm at *
    have HM1 := hO hM1
    obtain ⟨l5, c0, c1, c2, c3, f0, f1, f2, f3⟩ := hM1
    go_wp2_with fail
    refine (zbw mm k _ (by omega) (by omega)).mono ?_
    rintro e w2 ⟨rfl, hb2⟩
    clear c0 c1 c2 c3 f0 f1 f2 f3
    obtain ⟨l5, c0, c1, c2, c3, f0, f1, f2, f3⟩ := HM1.out.below hb2 l5
    go_wp2
    go_roundw
    case rel =>
     refine ⟨k + 1, by omega, by go_num, (hX1.out.below hb2 (by omega)).put_other (by omega) _, (hY1.out.below hb2 (by omega)).put_other (by omega) _, ?_, ⟨z, (hZ1.out.below hb2 (by omega)).put_other (by omega) _⟩, ?_⟩
     ·rw [HE.out]; exact (HM1.out.below hb2 (by omega)).put _
     ·exact ((((hB1.out.trans (hb2.mono (by omega))).setCell (by simp; omega) _).setCell (by simp; omega) _).setCell (by simp; omega) _).setCell (by simp; omega) _
    case measure => simp [intOf]; omega
   ·have HE : Hid (zaO 2 x y (k + 1) = zaO 2 x y k) := (by have h := HS.out; rw [hxb, hyb, if_neg (by decide)] at h; exact h)
    clear HS
    go_wp2
    go_region_held3 (fun w' => w'.cell? ⟨w.heap.size, 0, none⟩ = some (.int .u64 (wd x 0)) /\ w'.cell? ⟨w.heap.size, 1, none⟩ = some (.int .u64 (wd x 1)) /\ w'.cell? ⟨w.heap.size, 2, none⟩ = some (.int .u64 (wd x 2)) /\ w'.cell? ⟨w.heap.size, 3, none⟩ = some (.int .u64 (wd x 3)) /\ w'.cell? ⟨w.heap.size + 1, 0, none⟩ = some (.int .u64 (wd y 0)) /\ w'.cell? ⟨w.heap.size + 1, 1, none⟩ = some (.int .u64 (wd y 1)) /\ w'.cell? ⟨w.heap.size + 1, 2, none⟩ = some (.int .u64 (wd y 2)) /\ w'.cell? ⟨w.heap.size + 1, 3, none⟩ = some (.int .u64 (wd y 3))) (first | go_keep | (go_split_ands; refine ⟨?_, ?_, ?_, ?_, ?_, ?_, ?_, ?_⟩ <;> (rw [hb.cell (by simp; omega)]; first | assumption | simp [*]))) ((go_at_call 122; refine (zaQ _ _ _).mono ?_; rintro e w1 ⟨rfl, hb⟩; have hz1 := hb.size; (try simp at hz1); replace HR : Hid (Below wr.heap.size wr w1) := (by first | exact HR.out.trans (hb.mono (by omega)) | exact HR.out.drew.trans (hb.mono (by simp)))))
    clear c0 c1 c2 c3 f0 f1 f2 f3 d0 d1 d2 d3 g0 g1 g2 g3
    have hM1 := HM.out.below HR.out (by omega)
    have hX1 := hO (HX.out.below HR.out (by omega))
    have hY1 := hO (HY.out.below HR.out (by omega))
    have hZ1 := hO (HZ.out.below HR.out (by omega))
    have hB1 := hO (HB.out.trans (HR.out.mono (by omega)))
    clear HM HX HY HZ HB
    generalize zaO 2 x y k = mm at *
    have HM1 := hO hM1
    clear hM1
    go_wp2
    go_roundw
    case rel => exact ⟨k + 1, by omega, by go_num, hX1.out, hY1.out, (by rw [HE.out]; exact HM1.out), ⟨z, hZ1.out⟩, hB1.out⟩
    case measure => simp [intOf]; omega
  ·have hke : k = 256 := by omega
   subst hke
   clear hx hy hbel
   have HQ : Hid (zaO 2 x y 256 = zjs 2 x y) := rfl
   generalize zaO 2 x y 256 = mm at *
   obtain ⟨l0, c0, c1, c2, c3, f0, f1, f2, f3⟩ := hm
   obtain ⟨l1, d0, d1, d2, d3, g0, g1, g2, g3⟩ := hz
   go_wp2
   rw [<- HQ.out]
   refine bodyPost_ret (v := sv mm) (by simp [results, Tryz.results118, go_sem, *]) rfl ⟨rfl, ?_⟩
   exact (((HB.out.setCell (by simp; omega) _).setCell (by simp; omega) _).setCell (by simp; omega) _).setCell (by simp; omega) _
theorem zl0 (x y : BitVec 256) (w : World) :
  Calls Tryz.prog 118 #[.int .i64 3, sv x, sv y] w fun e w' => e = .returned (sv (zjs 3 x y)) /\ Below w.heap.size w w' := by
 go_enter Tryz.func118, Tryz.ntmps118
 go_wp2
 go_loopw [8] (fun t wr => ∃ k : Nat, k <= 256 /\ t = .int .i64 k /\ Holds wr w.heap.size x /\ Holds wr (w.heap.size + 1) y /\ Holds wr (w.heap.size + 1 + 1 + 1) (zaO 3 x y k) /\ (∃ z, Holds wr (w.heap.size + 1 + 1) z) /\ Below w.heap.size w wr) (fun t _ => 256 - (intOf t).toNat)
 case atStart =>
  exact ⟨0, by omega, rfl, zdR w x y, zdS w x y, zdU w x y, ⟨0#256, zdT w x y⟩, zdV w x y⟩
 case round =>
  obtain ⟨k, hk, rfl, hx, hy, hm, ⟨z, hz⟩, hbel⟩ := hrel
  have hsz : w.heap.size + 1 + 1 + 1 < wr.heap.size := hm.lt
  have HX := hO hx
  have HY := hO hy
  have HM := hO hm
  have HZ := hO hz
  have HB := hO hbel
  by_cases hlt : k < 256
  ·have HS := hO (zdQ 3 x y k hlt)
   clear hm hz hbel
   obtain ⟨l0, c0, c1, c2, c3, f0, f1, f2, f3⟩ := hx
   obtain ⟨l1, d0, d1, d2, d3, g0, g1, g2, g3⟩ := hy
   have HR : Hid (Below wr.heap.size wr wr) := Below.refl _ _
   have hk0 : (0 : Int) <= (k : Int) := by omega
   have hk1 : (k : Int) <= 255 := by omega
   cases hxb : zgN x k <;> cases hyb : zgN y k
   ·have HE : Hid (zaO 3 x y (k + 1) = zaO 3 x y k ||| bt k) := (by have h := HS.out; rw [hxb, hyb, if_pos (by decide)] at h; exact h)
    clear HS
    go_wp2
    go_region_held3 (fun w' => w'.cell? ⟨w.heap.size, 0, none⟩ = some (.int .u64 (wd x 0)) /\ w'.cell? ⟨w.heap.size, 1, none⟩ = some (.int .u64 (wd x 1)) /\ w'.cell? ⟨w.heap.size, 2, none⟩ = some (.int .u64 (wd x 2)) /\ w'.cell? ⟨w.heap.size, 3, none⟩ = some (.int .u64 (wd x 3)) /\ w'.cell? ⟨w.heap.size + 1, 0, none⟩ = some (.int .u64 (wd y 0)) /\ w'.cell? ⟨w.heap.size + 1, 1, none⟩ = some (.int .u64 (wd y 1)) /\ w'.cell? ⟨w.heap.size + 1, 2, none⟩ = some (.int .u64 (wd y 2)) /\ w'.cell? ⟨w.heap.size + 1, 3, none⟩ = some (.int .u64 (wd y 3))) (first | go_keep | (go_split_ands; refine ⟨?_, ?_, ?_, ?_, ?_, ?_, ?_, ?_⟩ <;> (rw [hb.cell (by simp; omega)]; first | assumption | simp [*]))) ((go_at_call 122; refine (zaQ _ _ _).mono ?_; rintro e w1 ⟨rfl, hb⟩; have hz1 := hb.size; (try simp at hz1); replace HR : Hid (Below wr.heap.size wr w1) := (by first | exact HR.out.trans (hb.mono (by omega)) | exact HR.out.drew.trans (hb.mono (by simp)))))
    clear c0 c1 c2 c3 f0 f1 f2 f3 d0 d1 d2 d3 g0 g1 g2 g3
    have hM1 := HM.out.below HR.out (by omega)
    have hX1 := hO (HX.out.below HR.out (by omega))
    have hY1 := hO (HY.out.below HR.out (by omega))
    have hZ1 := hO (HZ.out.below HR.out (by omega))
    have hB1 := hO (HB.out.trans (HR.out.mono (by omega)))
    clear HM HX HY HZ HB
    generalize zaO 3 x y k = mm at *
    have HM1 := hO hM1
    obtain ⟨l5, c0, c1, c2, c3, f0, f1, f2, f3⟩ := hM1
    go_wp2_with fail
    refine (zbw mm k _ (by omega) (by omega)).mono ?_
    rintro e w2 ⟨rfl, hb2⟩
    clear c0 c1 c2 c3 f0 f1 f2 f3
    obtain ⟨l5, c0, c1, c2, c3, f0, f1, f2, f3⟩ := HM1.out.below hb2 l5
    go_wp2
    go_roundw
    case rel =>
     refine ⟨k + 1, by omega, by go_num, (hX1.out.below hb2 (by omega)).put_other (by omega) _, (hY1.out.below hb2 (by omega)).put_other (by omega) _, ?_, ⟨z, (hZ1.out.below hb2 (by omega)).put_other (by omega) _⟩, ?_⟩
     ·rw [HE.out]; exact (HM1.out.below hb2 (by omega)).put _
     ·exact ((((hB1.out.trans (hb2.mono (by omega))).setCell (by simp; omega) _).setCell (by simp; omega) _).setCell (by simp; omega) _).setCell (by simp; omega) _
    case measure => simp [intOf]; omega
   ·have HE : Hid (zaO 3 x y (k + 1) = zaO 3 x y k ||| bt k) := (by have h := HS.out; rw [hxb, hyb, if_pos (by decide)] at h; exact h)
    clear HS
    go_wp2
    go_region_held3 (fun w' => w'.cell? ⟨w.heap.size, 0, none⟩ = some (.int .u64 (wd x 0)) /\ w'.cell? ⟨w.heap.size, 1, none⟩ = some (.int .u64 (wd x 1)) /\ w'.cell? ⟨w.heap.size, 2, none⟩ = some (.int .u64 (wd x 2)) /\ w'.cell? ⟨w.heap.size, 3, none⟩ = some (.int .u64 (wd x 3)) /\ w'.cell? ⟨w.heap.size + 1, 0, none⟩ = some (.int .u64 (wd y 0)) /\ w'.cell? ⟨w.heap.size + 1, 1, none⟩ = some (.int .u64 (wd y 1)) /\ w'.cell? ⟨w.heap.size + 1, 2, none⟩ = some (.int .u64 (wd y 2)) /\ w'.cell? ⟨w.heap.size + 1, 3, none⟩ = some (.int .u64 (wd y 3))) (first | go_keep | (go_split_ands; refine ⟨?_, ?_, ?_, ?_, ?_, ?_, ?_, ?_⟩ <;> (rw [hb.cell (by simp; omega)]; first | assumption | simp [*]))) ((go_at_call 122; refine (zaQ _ _ _).mono ?_; rintro e w1 ⟨rfl, hb⟩; have hz1 := hb.size; (try simp at hz1); replace HR : Hid (Below wr.heap.size wr w1) := (by first | exact HR.out.trans (hb.mono (by omega)) | exact HR.out.drew.trans (hb.mono (by simp)))))
    clear c0 c1 c2 c3 f0 f1 f2 f3 d0 d1 d2 d3 g0 g1 g2 g3
    have hM1 := HM.out.below HR.out (by omega)
    have hX1 := hO (HX.out.below HR.out (by omega))
    have hY1 := hO (HY.out.below HR.out (by omega))
    have hZ1 := hO (HZ.out.below HR.out (by omega))
    have hB1 := hO (HB.out.trans (HR.out.mono (by omega)))
    clear HM HX HY HZ HB
    generalize zaO 3 x y k = mm at *
    have HM1 := hO hM1
    obtain ⟨l5, c0, c1, c2, c3, f0, f1, f2, f3⟩ := hM1
    go_wp2_with fail
    refine (zbw mm k _ (by omega) (by omega)).mono ?_
    rintro e w2 ⟨rfl, hb2⟩
    clear c0 c1 c2 c3 f0 f1 f2 f3
    obtain ⟨l5, c0, c1, c2, c3, f0, f1, f2, f3⟩ := HM1.out.below hb2 l5
    go_wp2
    go_roundw
    case rel =>
     refine ⟨k + 1, by omega, by go_num, (hX1.out.below hb2 (by omega)).put_other (by omega) _, (hY1.out.below hb2 (by omega)).put_other (by omega) _, ?_, ⟨z, (hZ1.out.below hb2 (by omega)).put_other (by omega) _⟩, ?_⟩
     ·rw [HE.out]; exact (HM1.out.below hb2 (by omega)).put _
     ·exact ((((hB1.out.trans (hb2.mono (by omega))).setCell (by simp; omega) _).setCell (by simp; omega) _).setCell (by simp; omega) _).setCell (by simp; omega) _
    case measure => simp [intOf]; omega
   ·have HE : Hid (zaO 3 x y (k + 1) = zaO 3 x y k) := (by have h := HS.out; rw [hxb, hyb, if_neg (by decide)] at h; exact h)
    clear HS
    go_wp2
    go_region_held3 (fun w' => w'.cell? ⟨w.heap.size, 0, none⟩ = some (.int .u64 (wd x 0)) /\ w'.cell? ⟨w.heap.size, 1, none⟩ = some (.int .u64 (wd x 1)) /\ w'.cell? ⟨w.heap.size, 2, none⟩ = some (.int .u64 (wd x 2)) /\ w'.cell? ⟨w.heap.size, 3, none⟩ = some (.int .u64 (wd x 3)) /\ w'.cell? ⟨w.heap.size + 1, 0, none⟩ = some (.int .u64 (wd y 0)) /\ w'.cell? ⟨w.heap.size + 1, 1, none⟩ = some (.int .u64 (wd y 1)) /\ w'.cell? ⟨w.heap.size + 1, 2, none⟩ = some (.int .u64 (wd y 2)) /\ w'.cell? ⟨w.heap.size + 1, 3, none⟩ = some (.int .u64 (wd y 3))) (first | go_keep | (go_split_ands; refine ⟨?_, ?_, ?_, ?_, ?_, ?_, ?_, ?_⟩ <;> (rw [hb.cell (by simp; omega)]; first | assumption | simp [*]))) ((go_at_call 122; refine (zaQ _ _ _).mono ?_; rintro e w1 ⟨rfl, hb⟩; have hz1 := hb.size; (try simp at hz1); replace HR : Hid (Below wr.heap.size wr w1) := (by first | exact HR.out.trans (hb.mono (by omega)) | exact HR.out.drew.trans (hb.mono (by simp)))))
    clear c0 c1 c2 c3 f0 f1 f2 f3 d0 d1 d2 d3 g0 g1 g2 g3
    have hM1 := HM.out.below HR.out (by omega)
    have hX1 := hO (HX.out.below HR.out (by omega))
    have hY1 := hO (HY.out.below HR.out (by omega))
    have hZ1 := hO (HZ.out.below HR.out (by omega))
    have hB1 := hO (HB.out.trans (HR.out.mono (by omega)))
    clear HM HX HY HZ HB
    generalize zaO 3 x y k = mm at *
    have HM1 := hO hM1
    clear hM1
    go_wp2
    go_roundw
    case rel => exact ⟨k + 1, by omega, by go_num, hX1.out, hY1.out, (by rw [HE.out]; exact HM1.out), ⟨z, hZ1.out⟩, hB1.out⟩
    case measure => simp [intOf]; omega
   ·have HE : Hid (zaO 3 x y (k + 1) = zaO 3 x y k) := (by have h := HS.out; rw [hxb, hyb, if_neg (by decide)] at h; exact h)
    clear HS
    go_wp2
    go_region_held3 (fun w' => w'.cell? ⟨w.heap.size, 0, none⟩ = some (.int .u64 (wd x 0)) /\ w'.cell? ⟨w.heap.size, 1, none⟩ = some (.int .u64 (wd x 1)) /\ w'.cell? ⟨w.heap.size, 2, none⟩ = some (.int .u64 (wd x 2)) /\ w'.cell? ⟨w.heap.size, 3, none⟩ = some (.int .u64 (wd x 3)) /\ w'.cell? ⟨w.heap.size + 1, 0, none⟩ = some (.int .u64 (wd y 0)) /\ w'.cell? ⟨w.heap.size + 1, 1, none⟩ = some (.int .u64 (wd y 1)) /\ w'.cell? ⟨w.heap.size + 1, 2, none⟩ = some (.int .u64 (wd y 2)) /\ w'.cell? ⟨w.heap.size + 1, 3, none⟩ = some (.int .u64 (wd y 3))) (first | go_keep | (go_split_ands; refine ⟨?_, ?_, ?_, ?_, ?_, ?_, ?_, ?_⟩ <;> (rw [hb.cell (by simp; omega)]; first | assumption | simp [*]))) ((go_at_call 122; refine (zaQ _ _ _).mono ?_; rintro e w1 ⟨rfl, hb⟩; have hz1 := hb.size; (try simp at hz1); replace HR : Hid (Below wr.heap.size wr w1) := (by first | exact HR.out.trans (hb.mono (by omega)) | exact HR.out.drew.trans (hb.mono (by simp)))))
    clear c0 c1 c2 c3 f0 f1 f2 f3 d0 d1 d2 d3 g0 g1 g2 g3
    have hM1 := HM.out.below HR.out (by omega)
    have hX1 := hO (HX.out.below HR.out (by omega))
    have hY1 := hO (HY.out.below HR.out (by omega))
    have hZ1 := hO (HZ.out.below HR.out (by omega))
    have hB1 := hO (HB.out.trans (HR.out.mono (by omega)))
    clear HM HX HY HZ HB
    generalize zaO 3 x y k = mm at *
    have HM1 := hO hM1
    clear hM1
    go_wp2
    go_roundw
    case rel => exact ⟨k + 1, by omega, by go_num, hX1.out, hY1.out, (by rw [HE.out]; exact HM1.out), ⟨z, hZ1.out⟩, hB1.out⟩
    case measure => simp [intOf]; omega
  ·have hke : k = 256 := by omega
   subst hke
   clear hx hy hbel
   have HQ : Hid (zaO 3 x y 256 = zjs 3 x y) := rfl
   generalize zaO 3 x y 256 = mm at *
   obtain ⟨l0, c0, c1, c2, c3, f0, f1, f2, f3⟩ := hm
   obtain ⟨l1, d0, d1, d2, d3, g0, g1, g2, g3⟩ := hz
   go_wp2
   rw [<- HQ.out]
   refine bodyPost_ret (v := sv mm) (by simp [results, Tryz.results118, go_sem, *]) rfl ⟨rfl, ?_⟩
   exact (((HB.out.setCell (by simp; omega) _).setCell (by simp; omega) _).setCell (by simp; omega) _).setCell (by simp; omega) _
theorem zhL (x : BitVec 256) (i : Nat) (hi : i < 4) : bits .xor .u64 IntKind.u64.max (wd x i) = wd (~~~ x) i := by
 have hm : IntKind.u64.max = 18446744073709551615 := rfl
 rw [hm, u64_xor _ _ (by omega) (by omega) (zfy _ _) (zgQ _ _)]
 refine zbv _ _ _ (Int.natCast_nonneg _) fun j => ?_
 rw [Int.toNat_natCast, Nat.testBit_xor, zbE, BitVec.getLsbD_not]
 have e : (18446744073709551615 : Int).toNat = 2 ^ 64 - 1 := rfl
 rw [e, Nat.testBit_two_pow_sub_one]
 by_cases h : j < 64
 ·have : 64 * i + j < 256 := by omega
  simp [h, this]
 ·simp [h]
theorem zgU (x : BitVec 256) (w : World) :
  Calls Tryz.prog 150 #[sv x] w fun e w' => e = .returned (sv (~~~ x)) /\ Below w.heap.size w w' := by
 have hsg : IntKind.u64.signed = false := rfl
 go_enter Tryz.func150, Tryz.ntmps150
 go_wp2
 refine wp_loop_rounds 5 ?_
 iterate 5
  rw [rounds_succ]
  go_wp2
 exact bodyPost_ret (v := .agg #[.int .u64 (bits BinOp.xor IntKind.u64 IntKind.u64.max (wd x 0)), .int .u64 (bits BinOp.xor IntKind.u64 IntKind.u64.max (wd x 1)), .int .u64 (bits BinOp.xor IntKind.u64 IntKind.u64.max (wd x 2)), .int .u64 (bits BinOp.xor IntKind.u64 IntKind.u64.max (wd x 3))]) (by simp [results, Tryz.results150, go_sem]) rfl ⟨zcO (zhL x 0 (by omega)) (zhL x 1 (by omega)) (zhL x 2 (by omega)) (zhL x 3 (by omega)), (((Below.refl _ _).alloc (Nat.le_refl _) _).alloc (by simp) _)⟩
theorem zju (x y : BitVec 256) (w : World) :
  Calls Tryz.prog 161 #[sv x, sv y] w fun e w' => e = .returned (sv (x ||| y)) /\ Below w.heap.size w w' := by
 go_enter Tryz.func161, Tryz.ntmps161
 go_wp2
 refine wp_loop_rounds 5 ?_
 iterate 4
  rw [rounds_succ]
  go_wp2
  go_region
  go_wp2
 rw [rounds_succ]
 go_wp2
 exact bodyPost_ret (v := .agg #[.int .u64 (bits BinOp.or IntKind.u64 (wd x 0) (wd y 0)), .int .u64 (bits BinOp.or IntKind.u64 (wd x 1) (wd y 1)), .int .u64 (bits BinOp.or IntKind.u64 (wd x 2) (wd y 2)), .int .u64 (bits BinOp.or IntKind.u64 (wd x 3) (wd y 3))]) (by simp [results, Tryz.results161, go_sem]) rfl ⟨zcO (zix x y 0) (zix x y 1) (zix x y 2) (zix x y 3), (Below.drew (Below.drew (Below.drew (Below.drew ((((Below.refl _ _).alloc (Nat.le_refl _) _).alloc (by simp) _).alloc (by simp; omega) _)))))⟩
theorem zl1 (x y : BitVec 256) (w : World) :
  Calls Tryz.prog 181 #[sv x, sv y] w fun e w' => e = .returned (sv (x &&& y)) /\ Below w.heap.size w w' := by
 go_enter Tryz.func181, Tryz.ntmps181
 go_wp2
 refine wp_loop_rounds 5 ?_
 iterate 4
  rw [rounds_succ]
  go_wp2
  go_region
  go_wp2
 rw [rounds_succ]
 go_wp2
 exact bodyPost_ret (v := .agg #[.int .u64 (bits BinOp.and IntKind.u64 (wd x 0) (wd y 0)), .int .u64 (bits BinOp.and IntKind.u64 (wd x 1) (wd y 1)), .int .u64 (bits BinOp.and IntKind.u64 (wd x 2) (wd y 2)), .int .u64 (bits BinOp.and IntKind.u64 (wd x 3) (wd y 3))]) (by simp [results, Tryz.results181, go_sem]) rfl ⟨zcO (zhI x y 0) (zhI x y 1) (zhI x y 2) (zhI x y 3), (Below.drew (Below.drew (Below.drew (Below.drew ((((Below.refl _ _).alloc (Nat.le_refl _) _).alloc (by simp) _).alloc (by simp; omega) _)))))⟩
theorem zn9 (w : World) (a : Obj) : (w.alloc a).heap.size = w.heap.size + 1 := by simp
theorem zoa (w : World) (a b : Obj) : ((w.alloc a).alloc b).heap.size = w.heap.size + 1 + 1 := by simp
theorem zl2 (w : World) (a b c : Obj) : (((w.alloc a).alloc b).alloc c).heap.size = w.heap.size + 1 + 1 + 1 := by simp
theorem zjv (w : World) (a b : Obj) : Holds (((w.alloc a).alloc b).alloc z4) (w.heap.size + 1 + 1) 0#256 := by
 have h := Holds.zero ((w.alloc a).alloc b)
 rw [zoa] at h
 exact h
theorem zcm (w : World) (a b c : Obj) : Below w.heap.size w (((w.alloc a).alloc b).alloc c) :=
 (((Below.refl _ _).alloc (Nat.le_refl _) _).alloc (by simp) _).alloc (by simp; omega) _
theorem below2 (w : World) (a b : Obj) : Below w.heap.size w ((w.alloc a).alloc b) :=
 ((Below.refl _ _).alloc (Nat.le_refl _) _).alloc (by simp) _
theorem zas (x y : BitVec 256) (w : World) :
  Calls Tryz.prog 88 #[sv x, sv y] w fun e w' => e = .returned (sv (x ||| y)) /\ Below w.heap.size w w' := by
 have hsz := zl2 w (c4 x) (c4 y) z4
 have HH := hO (zjv w (c4 x) (c4 y))
 have HB := hO (zcm w (c4 x) (c4 y) z4)
 go_enter Tryz.func88, Tryz.ntmps88
 go_wp2_with fail
 refine (zlY x y _).mono ?_
 rintro e w1 ⟨rfl, hb⟩
 have hl := hb.size
 have HR := hO (HB.out.trans (hb.mono (by rw [hsz]; omega)))
 obtain ⟨l0, c0, c1, c2, c3, f0, f1, f2, f3⟩ := HH.out.below hb (by rw [hsz]; omega)
 rw [ziz]
 generalize hr : x ||| y = r
 have Hr := hO hr
 clear hr
 clear hsz hl
 go_wp2
 exact bodyPost_ret (v := sv r) (by simp [results, Tryz.results88, go_sem, *]) rfl ⟨by rw [Hr.out], (((HR.out.setCell (by simp; omega) _).setCell (by simp; omega) _).setCell (by simp; omega) _).setCell (by simp; omega) _⟩
theorem zjw (x y : BitVec 256) (w : World) :
  Calls Tryz.prog 117 #[sv x, sv y] w fun e w' => e = .returned (sv (x &&& ~~~ y)) /\ Below w.heap.size w w' := by
 have hsz := zl2 w (c4 x) (c4 y) z4
 have HH := hO (zjv w (c4 x) (c4 y))
 have HB := hO (zcm w (c4 x) (c4 y) z4)
 go_enter Tryz.func117, Tryz.ntmps117
 go_wp2_with fail
 refine (zlZ x y _).mono ?_
 rintro e w1 ⟨rfl, hb⟩
 have hl := hb.size
 have HR := hO (HB.out.trans (hb.mono (by rw [hsz]; omega)))
 obtain ⟨l0, c0, c1, c2, c3, f0, f1, f2, f3⟩ := HH.out.below hb (by rw [hsz]; omega)
 rw [zjt]
 generalize hr : x &&& ~~~ y = r
 have Hr := hO hr
 clear hr
 clear hsz hl
 go_wp2
 exact bodyPost_ret (v := sv r) (by simp [results, Tryz.results117, go_sem, *]) rfl ⟨by rw [Hr.out], (((HR.out.setCell (by simp; omega) _).setCell (by simp; omega) _).setCell (by simp; omega) _).setCell (by simp; omega) _⟩
theorem zhM (x : BitVec 256) (w : World) :
  Calls Tryz.prog 91 #[sv x] w fun e w' => e = .returned (sv (~~~ x)) /\ Below w.heap.size w w' := by
 have hsz := zoa w (c4 x) z4
 have HH := hO (Holds.zero' w (c4 x))
 have HB := hO (below2 w (c4 x) z4)
 go_enter Tryz.func91, Tryz.ntmps91
 go_wp2_with fail
 refine (zl0 x x _).mono ?_
 rintro e w1 ⟨rfl, hb⟩
 have hl := hb.size
 have HR := hO (HB.out.trans (hb.mono (by rw [hsz]; omega)))
 obtain ⟨l0, c0, c1, c2, c3, f0, f1, f2, f3⟩ := HH.out.below hb (by rw [hsz]; omega)
 rw [zlX]
 generalize hr : ~~~ x = r
 have Hr := hO hr
 clear hr
 clear hsz hl
 go_wp2
 exact bodyPost_ret (v := sv r) (by simp [results, Tryz.results91, go_sem, *]) rfl ⟨by rw [Hr.out], (((HR.out.setCell (by simp) _).setCell (by simp) _).setCell (by simp) _).setCell (by simp) _⟩
theorem zl3 (x y : BitVec 256) (w : World) :
  Calls Tryz.prog 166 #[sv x, sv y] w fun e w' => e = .returned (sv (x &&& ~~~ y)) /\ Below w.heap.size w w' := by
 have hsz := zl2 w (c4 x) (c4 y) z4
 have HX := hO (((Holds.new w x).alloc (c4 y)).alloc z4)
 have HH := hO (zjv w (c4 x) (c4 y))
 have HB := hO (zcm w (c4 x) (c4 y) z4)
 have HR : Hid (Below (w.heap.size + 1 + 1 + 1) (((w.alloc (c4 x)).alloc (c4 y)).alloc z4) (((w.alloc (c4 x)).alloc (c4 y)).alloc z4)) := Below.refl _ _
 go_enter Tryz.func166, Tryz.ntmps166
 go_wp2
 go_region_with (first | (go_at_call 150; refine (zgU _ _).mono ?_; rintro e w1 ⟨rfl, hb⟩; have hz1 := hb.size; (try simp at hz1); replace HR : Hid (Below (w.heap.size + 1 + 1 + 1) (((w.alloc (c4 x)).alloc (c4 y)).alloc z4) w1) := (by first | exact HR.out.trans (hb.mono (by omega)) | exact HR.out.drew.trans (hb.mono (by simp))); obtain ⟨l5, p0, p1, p2, p3, q0, q1, q2, q3⟩ := HH.out.below HR.out (by omega); obtain ⟨l0, c0, c1, c2, c3, f0, f1, f2, f3⟩ := HX.out.below HR.out (by omega)) | (go_at_call 181; refine (zl1 _ _ _).mono ?_; rintro e w1 ⟨rfl, hb⟩; have hz1 := hb.size; (try simp at hz1); replace HR : Hid (Below (w.heap.size + 1 + 1 + 1) (((w.alloc (c4 x)).alloc (c4 y)).alloc z4) w1) := (by first | exact HR.out.trans (hb.mono (by omega)) | exact HR.out.drew.trans (hb.mono (by simp))); obtain ⟨l5, p0, p1, p2, p3, q0, q1, q2, q3⟩ := HH.out.below HR.out (by omega); obtain ⟨l0, c0, c1, c2, c3, f0, f1, f2, f3⟩ := HX.out.below HR.out (by omega)))
 all_goals
  go_wp2
  exact bodyPost_ret (v := sv (x &&& ~~~ y)) (by simp [results, Tryz.results166, go_sem, *]) rfl ⟨rfl, ((((HB.out.trans (HR.out.mono (by omega))).setCell (by simp; omega) _).setCell (by simp; omega) _).setCell (by simp; omega) _).setCell (by simp; omega) _⟩
open Go.RowKit Go.Shelf
attribute [local go_sem] Oper.semAt_some
theorem zbI {w : World} {base base' e size : Nat} {v : Value} {n : Nat} {xs : List Value} (h : w.ownsRow base e size v n xs) (hb : base' <= base) : w.ownsRow base' e size v n xs := by
 refine ⟨h.1, h.2.imp id ?_⟩
 rintro ⟨g, cap, cur, h1, h2, h3⟩
 exact ⟨g, cap, cur, h1, by omega, h3⟩
def zcn (l : List (Int × Int)) (b : Int) : List (Int × Int) := match l.getLast? with
 | some p => if p.2 + 1 = b then l.dropLast ++ [(p.1, b)] else l ++ [(b, b)]
 | none => [(b, b)]
def spL (bs : List Int) : List (Int × Int) := bs.foldl zcn []
theorem zc5 (bs : List Int) (b : Int) : spL (bs ++ [b]) = zcn (spL bs) b := by unfold spL; rw [List.foldl_append]; rfl
theorem zbX (l : List (Int × Int)) (lo hi b : Int) (h : hi + 1 = b) : zcn (l ++ [(lo, hi)]) b = l ++ [(lo, b)] := by
 unfold zcn; simp [h]
theorem zbF (l : List (Int × Int)) (lo hi b : Int) (h : hi + 1 ≠ b) : zcn (l ++ [(lo, hi)]) b = l ++ [(lo, hi)] ++ [(b, b)] := by
 unfold zcn; simp [h]
theorem zbb {α : Type} (l : List α) : l = [] ∨ ∃ m a, l = m ++ [a] := by
 rcases List.eq_nil_or_concat l with h | ⟨m, a, h⟩
 ·exact .inl h
 ·exact .inr ⟨m, a, by rw [h, List.concat_eq_append]⟩
theorem ziB (l : List (Int × Int)) (b : Int) : (zcn l b).length <= l.length + 1 := by
 rcases zbb l with rfl | ⟨m, ⟨lo, hi⟩, rfl⟩
 ·simp [zcn]
 ·by_cases h : hi + 1 = b
  ·rw [zbX _ _ _ _ h]; simp
  ·rw [zbF _ _ _ _ h]; simp
theorem zjx (bs : List Int) : (spL bs).length <= bs.length := by
 have key : ∀ n (bs : List Int), bs.length = n -> (spL bs).length <= n := fun n => by
  induction n with
  | zero => intro bs h; rw [List.eq_nil_of_length_eq_zero h]; exact Nat.le_refl _
  | succ n ih =>
   intro bs h
   rcases zbb bs with rfl | ⟨m, b, rfl⟩
   ·simp at h
   ·rw [zc5]
    have h1 := ih m (by simp at h; exact h)
    have h2 := ziB (spL m) b
    omega
 exact key _ bs rfl
theorem zhN (m : List Int) (b : Int) : ∃ l lo, spL (m ++ [b]) = l ++ [(lo, b)] := by
 rw [zc5]
 rcases zbb (spL m) with h | ⟨l, ⟨lo, hi⟩, h⟩
 ·rw [h]; exact ⟨[], b, rfl⟩
 ·rw [h]
  by_cases e : hi + 1 = b
  ·rw [zbX _ _ _ _ e]; exact ⟨l, lo, rfl⟩
  ·rw [zbF _ _ _ _ e]; exact ⟨_, b, rfl⟩
def spc (l : List (Int × Int)) : List Value := l.flatMap fun p => [.int .i64 p.1, .int .i64 p.2]
theorem zbY (a b : List (Int × Int)) : spc (a ++ b) = spc a ++ spc b := by unfold spc; rw [List.flatMap_append]
theorem zfE (l : List (Int × Int)) : (spc l).length = l.length * 2 := by
 induction l with
 | nil => rfl
 | cons p l ih => unfold spc at *; rw [List.flatMap_cons, List.length_append, ih]; simp; omega
theorem spc_lo (l : List (Int × Int)) (i : Nat) (h : i < l.length) : (spc l)[i * 2]? = some (.int .i64 (l[i]).1) := by
 induction l generalizing i with
 | nil => simp at h
 | cons p l ih =>
  have e : spc (p :: l) = .int .i64 p.1 :: .int .i64 p.2 :: spc l := by unfold spc; rfl
  rw [e]
  cases i with
  | zero => rfl
  | succ i => rw [show (i + 1) * 2 = i * 2 + 1 + 1 from by omega]; simp only [List.getElem?_cons_succ, List.getElem_cons_succ]; exact ih i (by simpa using h)
theorem spc_hi (l : List (Int × Int)) (i : Nat) (h : i < l.length) : (spc l)[i * 2 + 1]? = some (.int .i64 (l[i]).2) := by
 induction l generalizing i with
 | nil => simp at h
 | cons p l ih =>
  have e : spc (p :: l) = .int .i64 p.1 :: .int .i64 p.2 :: spc l := by unfold spc; rfl
  rw [e]
  cases i with
  | zero => rfl
  | succ i => rw [show (i + 1) * 2 + 1 = i * 2 + 1 + 1 + 1 from by omega]; simp only [List.getElem?_cons_succ, List.getElem_cons_succ]; exact ih i (by simpa using h)
theorem zob (l : List (Int × Int)) (lo hi b : Int) : (spc (l ++ [(lo, hi)])).set (l.length * 2 + 1) (.int .i64 b) = spc (l ++ [(lo, b)]) := by
 rw [zbY, zbY, List.set_append_right _ _ (by rw [zfE]; omega), zfE]
 rw [show l.length * 2 + 1 - l.length * 2 = 1 from by omega]
 rfl
theorem zc6 (x : BitVec 256) (lo hi : Int) (w : World) (h0 : 0 <= lo) (hle : lo <= hi) (h1 : hi <= 255) :
  Calls Tryz.prog 168 #[sv x, .int .i64 lo, .int .i64 hi] w fun e w' => e = .returned (sv (x ||| spn lo hi)) /\ Below w.heap.size w w' := by
 go_enter Tryz.func168, Tryz.ntmps168
 go_wp2
 go_loopw [7] (fun t wr => ∃ b : Int, lo <= b /\ b <= hi + 1 /\ t = .int .i64 b /\ Holds wr w.heap.size (x ||| spn lo (b - 1)) /\ (∃ z, Holds wr (w.heap.size + 1) z) /\ Below w.heap.size w wr) (fun t _ => (hi + 1 - intOf t).toNat)
 case atStart =>
  refine ⟨lo, by omega, by omega, rfl, ?_, ⟨0#256, Holds.zero' w _⟩, ?_⟩
  ·rw [zjq lo h0 (by omega), BitVec.or_zero]; exact (Holds.new w x).alloc _
  ·exact ((Below.refl _ _).alloc (Nat.le_refl _) _).alloc (by simp) _
 case round =>
  obtain ⟨b, hb0, hb1, rfl, hx, ⟨z, hz⟩, hbel⟩ := hrel
  have hsz : w.heap.size + 1 < wr.heap.size := hz.lt
  by_cases hlt : b <= hi
  ·have HS := hO (zhK lo b h0 hb0 (by omega))
   generalize hy : x ||| spn lo (b - 1) = y at hx
   have HY := hO hy
   clear hy
   have HX := hO hx
   have HZ := hO hz
   have HB := hO hbel
   obtain ⟨l0, c0, c1, c2, c3, f0, f1, f2, f3⟩ := hx
   clear hz hbel
   go_wp2_with fail
   refine (zfB y b _ (by omega) (by omega)).mono ?_
   rintro e w1 ⟨rfl, hb⟩
   obtain ⟨l0, c0, c1, c2, c3, f0, f1, f2, f3⟩ := HX.out.below hb l0
   go_wp2
   go_roundw
   case rel =>
    refine ⟨b + 1, by omega, by omega, rfl, ?_, ⟨z, ?_⟩, ?_⟩
    ·rw [show b + 1 - 1 = b from by omega, HS.out, <- BitVec.or_assoc, HY.out]
     exact (HX.out.below hb (by omega)).put _
    ·exact (HZ.out.below hb (by omega)).put_other (by omega) _
    ·exact ((((HB.out.trans (hb.mono (by omega))).setCell (Nat.le_refl _) _).setCell (Nat.le_refl _) _).setCell (Nat.le_refl _) _).setCell (Nat.le_refl _) _
   case measure => simp [intOf]; omega
  ·have hbe : b - 1 = hi := by omega
   rw [hbe] at hx
   generalize hy : x ||| spn lo hi = y at hx
   have HY := hO hy
   clear hy
   have HZ := hO hz
   have HB := hO hbel
   obtain ⟨l0, c0, c1, c2, c3, f0, f1, f2, f3⟩ := hx
   obtain ⟨l1, d0, d1, d2, d3, g0, g1, g2, g3⟩ := hz
   clear hbel
   go_wp2
   rw [HY.out]
   refine bodyPost_ret (v := sv y) (by simp [results, Tryz.results168, go_sem, *]) rfl ⟨rfl, ?_⟩
   exact (((HB.out.setCell (by simp) _).setCell (by simp) _).setCell (by simp) _).setCell (by simp) _
theorem zaD (w : World) (a : Obj) : Below w.heap.size w (w.alloc a) := (Below.refl _ _).alloc (Nat.le_refl _) _
theorem zeu (lo hi : Int) (w : World) (h0 : 0 <= lo) (hle : lo <= hi) (h1 : hi <= 255) :
  Calls Tryz.prog 168 #[.agg #[.int .u64 0, .int .u64 0, .int .u64 0, .int .u64 0], .int .i64 lo, .int .i64 hi] w fun e w' => e = .returned (sv (spn lo hi)) /\ Below w.heap.size w w' := by
 have h := zc6 0#256 lo hi w h0 hle h1
 rw [BitVec.zero_or, sv, zak, zak, zak, zak] at h
 exact h
def zoc (b : Int) : Bool := decide (65 <= b) && decide (b <= 90)
theorem zcE (b : Int) (w : World) :
  Calls Tryz.prog 152 #[.int .i64 b] w fun e w' => e = .returned (.bool (zoc b)) /\ w' = w := by
 by_cases h0 : 65 <= b
 ·have hd : decide (65 <= b) = true := by simpa using h0
  go_enter Tryz.func152, Tryz.ntmps152
  go_wp2
  go_ret
  exact ⟨by simp [zoc, h0], rfl⟩
 ·have hd : decide (65 <= b) = false := by simpa using h0
  go_enter Tryz.func152, Tryz.ntmps152
  go_wp2
  go_ret
  exact ⟨by unfold zoc; rw [hd]; rfl, rfl⟩
theorem zaG (lo hi : Int) (w : World) (h0 : 0 <= lo) (hle : lo <= hi) (h1 : hi <= 255) :
  Calls Tryz.prog 165 #[.int .i64 lo, .int .i64 hi] w fun e w' => e = .returned (sv (spn lo hi)) /\ Below w.heap.size w w' := by
 have HH := hO (Holds.zero w)
 have HR := hO (zaD w z4)
 have HQ : Hid (Below (w.heap.size + 1) (w.alloc z4) (w.alloc z4)) := Below.refl _ _
 go_enter Tryz.func165, Tryz.ntmps165
 go_wp2_with fail
 refine (zeu lo hi _ h0 hle h1).mono ?_
 rintro e w1 ⟨rfl, hb⟩
 replace HQ := (show Hid _ from HQ.out.trans (hb.mono (by first | exact HQ.out.size | (have h := HQ.out.size; simp at h; omega) | simp)))
 have HR1 := hO (HR.out.trans (HQ.out.mono (by omega)))
 obtain ⟨l0, c0, c1, c2, c3, f0, f1, f2, f3⟩ := HH.out.below HQ.out (by omega)
 generalize hr : spn lo hi = r
 have Hr := hO hr
 clear hr
 go_wp2
 exact bodyPost_ret (v := sv r) (by simp [results, Tryz.results165, go_sem, *]) rfl ⟨by rw [Hr.out], (((HR1.out.setCell (by simp) _).setCell (by simp) _).setCell (by simp) _).setCell (by simp) _⟩
theorem zev (w : World) :
  Calls Tryz.prog 163 #[] w fun e w' => e = .returned (sv (spn 65 90 ||| spn 97 122)) /\ Below w.heap.size w w' := by
 have HH := hO (Holds.zero w)
 have HR := hO (zaD w z4)
 have HQ : Hid (Below (w.heap.size + 1) (w.alloc z4) (w.alloc z4)) := Below.refl _ _
 go_enter Tryz.func163, Tryz.ntmps163
 go_wp2_with fail
 refine (zaG 65 90 _ (by omega) (by omega) (by omega)).mono ?_
 rintro e w1 ⟨rfl, hb⟩
 replace HQ := (show Hid _ from HQ.out.trans (hb.mono (by first | exact HQ.out.size | (have h := HQ.out.size; simp at h; omega) | simp)))
 go_wp2_with fail
 refine (zc6 _ 97 122 _ (by omega) (by omega) (by omega)).mono ?_
 rintro e w1 ⟨rfl, hb⟩
 replace HQ := (show Hid _ from HQ.out.trans (hb.mono (by first | exact HQ.out.size | (have h := HQ.out.size; simp at h; omega) | simp)))
 have HR1 := hO (HR.out.trans (HQ.out.mono (by omega)))
 obtain ⟨l0, c0, c1, c2, c3, f0, f1, f2, f3⟩ := HH.out.below HQ.out (by omega)
 generalize hr : spn 65 90 ||| spn 97 122 = r
 have Hr := hO hr
 clear hr
 go_wp2
 exact bodyPost_ret (v := sv r) (by simp [results, Tryz.results163, go_sem, *]) rfl ⟨by rw [Hr.out], (((HR1.out.setCell (by simp) _).setCell (by simp) _).setCell (by simp) _).setCell (by simp) _⟩
theorem zco (w : World) :
  Calls Tryz.prog 167 #[] w fun e w' => e = .returned (sv (spn 65 90 ||| spn 97 122 ||| spn 48 57)) /\ Below w.heap.size w w' := by
 have HH := hO (Holds.zero w)
 have HR := hO (zaD w z4)
 have HQ : Hid (Below (w.heap.size + 1) (w.alloc z4) (w.alloc z4)) := Below.refl _ _
 go_enter Tryz.func167, Tryz.ntmps167
 go_wp2_with fail
 refine (zev _).mono ?_
 rintro e w1 ⟨rfl, hb⟩
 replace HQ := (show Hid _ from HQ.out.trans (hb.mono (by first | exact HQ.out.size | (have h := HQ.out.size; simp at h; omega) | simp)))
 go_wp2_with fail
 refine (zc6 _ 48 57 _ (by omega) (by omega) (by omega)).mono ?_
 rintro e w1 ⟨rfl, hb⟩
 replace HQ := (show Hid _ from HQ.out.trans (hb.mono (by first | exact HQ.out.size | (have h := HQ.out.size; simp at h; omega) | simp)))
 have HR1 := hO (HR.out.trans (HQ.out.mono (by omega)))
 obtain ⟨l0, c0, c1, c2, c3, f0, f1, f2, f3⟩ := HH.out.below HQ.out (by omega)
 generalize hr : spn 65 90 ||| spn 97 122 ||| spn 48 57 = r
 have Hr := hO hr
 clear hr
 go_wp2
 exact bodyPost_ret (v := sv r) (by simp [results, Tryz.results167, go_sem, *]) rfl ⟨by rw [Hr.out], (((HR1.out.setCell (by simp) _).setCell (by simp) _).setCell (by simp) _).setCell (by simp) _⟩
open Go.RowKit Go.Shelf
attribute [local go_sem] Oper.semAt_some
theorem Tryz.info52 : (Tryz.prog.info? 133).map (fun i => (i.zero, i.size, i.bytes)) = some (some (.agg #[.int .i64 0, .int .i64 0]), 2, 16) := by kernel_rfl
def zaC (b : Int) : Bool := (b == 92) || ((b == 93) || ((b == 91) || ((b == 94) || ((b == 45) || (b == 37)))))
def ze2 (b : Int) : Bool := decide (32 <= b) && decide (b <= 126)
theorem zcP (b : Int) (w : World) :
  Calls Tryz.prog 190 #[.int .i64 b] w fun e w' => e = .returned (.bool (ze2 b)) /\ w' = w := by
 by_cases h0 : 32 <= b
 ·have hd : decide (32 <= b) = true := by simpa using h0
  go_enter Tryz.func190, Tryz.ntmps190
  go_wp2
  go_ret
  exact ⟨by simp [ze2, h0], rfl⟩
 ·have hd : decide (32 <= b) = false := by simpa using h0
  go_enter Tryz.func190, Tryz.ntmps190
  go_wp2
  go_ret
  exact ⟨by unfold ze2; rw [hd]; rfl, rfl⟩
theorem zfh (b : Int) (w : World) :
  Calls Tryz.prog 194 #[.int .i64 b] w fun e w' => e = .returned (.bool (zaC b)) /\ w' = w := by
 cases h1 : (b == 92)
 ·cases h2 : (b == 93)
  ·cases h3 : (b == 91)
   ·cases h4 : (b == 94)
    ·cases h5 : (b == 45)
     ·cases h6 : (b == 37)
      ·have HE : Hid (zaC b = false) := (by show zaC b = false; unfold zaC; rw [h1, h2, h3, h4, h5, h6]; rfl)
       go_enter Tryz.func194, Tryz.ntmps194
       go_wp2
       go_ret
       exact ⟨zaF HE.out.symm, rfl⟩
      ·have HE : Hid (zaC b = true) := (by show zaC b = true; unfold zaC; rw [h1, h2, h3, h4, h5, h6]; rfl)
       go_enter Tryz.func194, Tryz.ntmps194
       go_wp2
       go_ret
       exact ⟨zaF HE.out.symm, rfl⟩
     ·have HE : Hid (zaC b = true) := (by show zaC b = true; unfold zaC; rw [h5]; simp)
      go_enter Tryz.func194, Tryz.ntmps194
      go_wp2
      go_ret
      exact ⟨zaF HE.out.symm, rfl⟩
    ·have HE : Hid (zaC b = true) := (by show zaC b = true; unfold zaC; rw [h4]; simp)
     go_enter Tryz.func194, Tryz.ntmps194
     go_wp2
     go_ret
     exact ⟨zaF HE.out.symm, rfl⟩
   ·have HE : Hid (zaC b = true) := (by show zaC b = true; unfold zaC; rw [h3]; simp)
    go_enter Tryz.func194, Tryz.ntmps194
    go_wp2
    go_ret
    exact ⟨zaF HE.out.symm, rfl⟩
  ·have HE : Hid (zaC b = true) := (by show zaC b = true; unfold zaC; rw [h2]; simp)
   go_enter Tryz.func194, Tryz.ntmps194
   go_wp2
   go_ret
   exact ⟨zaF HE.out.symm, rfl⟩
 ·have HE : Hid (zaC b = true) := (by show zaC b = true; unfold zaC; rw [h1]; simp)
  go_enter Tryz.func194, Tryz.ntmps194
  go_wp2
  go_ret
  exact ⟨zaF HE.out.symm, rfl⟩
def zbp (n : Nat) : UInt8 := (#[48, 49, 50, 51, 52, 53, 54, 55, 56, 57, 97, 98, 99, 100, 101, 102] : Array UInt8).getD n 0
def itm (b : Nat) : List UInt8 :=
 if b = 10 then [92, 110] else if b = 13 then [92, 114] else if b = 9 then [92, 116] else
 if zaC b then [92, UInt8.ofNat b] else if ze2 b then [UInt8.ofNat b] else [92, 120, zbp (b / 16), zbp (b % 16)]
theorem zce {a b : ByteArray} (h : a = b) : Ending.returned (.string a) = .returned (.string b) := by rw [h]
theorem cat11 (a b : UInt8) : (⟨#[a]⟩ : ByteArray) ++ ⟨#[b]⟩ = ⟨#[a, b]⟩ := by apply ByteArray.ext; simp
theorem zod (a b c d : UInt8) : (⟨#[a, b]⟩ : ByteArray) ++ ⟨#[c, d]⟩ = ⟨#[a, b, c, d]⟩ := by apply ByteArray.ext; simp
theorem conv1 (c : Int) (w : World) : (convert 84 9 (.slice (some ⟨w.heap.size, 0, none⟩) 1 1)).run Tryz.prog (w.alloc (.cells #[.int .u8 c] 5)) = .ok (.string ⟨#[UInt8.ofNat c.toNat]⟩) (w.alloc (.cells #[.int .u8 c] 5)) := by
 rw [run_convert_bytes_string _ 84 9 5 _ _ _ Tryz.underlying84 Tryz.underlying5 Tryz.underlying9]
 exact run_bytesToString _ ⟨w.heap.size, 0, none⟩ 1 1 [c] (run_loadCells_list (P := Tryz.prog) _ ⟨w.heap.size, 0, none⟩ [.int .u8 c] (cell_one_new _ _ _))
end Go.Proofs.YtkihfkcmcdiajaaGreatDoor
