import Derived.Shelf.Small.Utf8
import Derived.Shelf.Small.Strs
import Derived.Shelf.Strings.Search1
import Derived.Shelf.Strings.Prefix
import Derived.Test.YtkihfkcmcdiajabGreatDoorProg
import Derived.WalkKit
import Derived.Test.YtkihfkcmcdiajabGreatDoorRows
import Derived.WalkSpells
import Derived.WalkLawsBesides
import Derived.Deep.QuietTactic
import Derived.BigQuiet
import Derived.Deep.RegionHeld3
import Derived.Maps.AppendAt
import Derived.LoopN
import Derived.RangeFuncBox
set_option maxRecDepth 100000
set_option maxHeartbeats 8000000
namespace Go.Proofs.YtkihfkcmcdiajabGreatDoor
open Go.RowKit
abbrev rB (W:Go.World) (v:Go.Value):Go.Ending->Go.World->Prop:=fun e W'=>e = .returned v/\Below W.heap.size W W'
abbrev rU (W:Go.World) (v:Go.Value):Go.Ending->Go.World->Prop:=fun e W'=>e = .returned v/\W' = W
abbrev Cl:=Go.Calls Tryz.prog
abbrev bW (W W':Go.World):=Below W.heap.size W W'
abbrev nL:=@Nat.le_refl
abbrev iN:=@if_neg
abbrev iP:=@if_pos
abbrev sA:=@World.size_alloc
abbrev lA:=@List.length_append
abbrev bR:=@Below.refl
abbrev bS:=@Below.heap_setCell
abbrev wI:=@IntKind.wrap_i64
abbrev dF:=@decide_eq_false
abbrev gE:=@List.getElem?_eq_getElem
abbrev nM:=@Nat.lt_of_lt_of_le
end Go.Proofs.YtkihfkcmcdiajabGreatDoor
namespace Go.Proofs.YtkihfkcmcdiajabGreatDoor
open Go.RowKit
theorem hO {p:Prop} (h:p):Hid p:=h
theorem bF {α:Type} [BEq α] [LawfulBEq α] {a b:α} (h:a≠b):(a==b)=false:=beq_eq_false_iff_ne.2 h
end Go.Proofs.YtkihfkcmcdiajabGreatDoor
namespace Go.Proofs
open Go.Shelf
def Tryz.lays118_ren : Go.Shelf.Ren := ⟨fun | 118 => 185 | n => n, fun | 21 => 21 | 3 => 3 | 4 => 4 | n => n, fun | n => n⟩
theorem Tryz.lays118 : Go.Proofs.Lays.n118 Tryz.prog Tryz.lays118_ren := {
 mixed := by kernel_rfl
 f118 := Tryz.func185.trans (congrArg some (by kernel_rfl))
 t3 := Tryz.underlying3
 a3 := Tryz.isAgg3
 z3 := Tryz.sizeOf3
 v3 := Tryz.zeroValue3
 t4 := Tryz.underlying4
 a4 := Tryz.isAgg4
 z4 := Tryz.sizeOf4
 v4 := Tryz.zeroValue4
 t21 := Tryz.underlying21
 a21 := Tryz.isAgg21
 z21 := Tryz.sizeOf21
 v21 := Tryz.zeroValue21 }
theorem Tryz.utf8_RuneLen (r : Int) (w : World) :
  Calls Tryz.prog 185 #[.int .i32 r] w fun e w' => e = .returned (.int .i64 (Lib.runeLen r)) /\ w' = w := Any.utf8_RuneLen Tryz.lays118 r w
def Tryz.lays137_ren : Go.Shelf.Ren := ⟨fun | 137 => 121 | 217 => 138 | 266 => 158 | n => n, fun | 9 => 9 | 5 => 5 | 3 => 3 | n => n, fun | n => n⟩
theorem Tryz.lays137 : Go.Proofs.Lays.n137 Tryz.prog Tryz.lays137_ren := {
 mixed := by kernel_rfl
 f137 := Tryz.func121.trans (congrArg some (by kernel_rfl))
 f217 := Tryz.func138.trans (congrArg some (by kernel_rfl))
 f266 := Tryz.func158.trans (congrArg some (by kernel_rfl))
 t3 := Tryz.underlying3
 a3 := Tryz.isAgg3
 z3 := Tryz.sizeOf3
 v3 := Tryz.zeroValue3
 t5 := Tryz.underlying5
 a5 := Tryz.isAgg5
 z5 := Tryz.sizeOf5
 v5 := Tryz.zeroValue5
 t9 := Tryz.underlying9
 a9 := Tryz.isAgg9
 z9 := Tryz.sizeOf9
 v9 := Tryz.zeroValue9 }
open Go.RowKit in
theorem Tryz.strings_IndexByte (s : ByteArray) (c : Int) (w : World) :
  Calls Tryz.prog 121 #[.string s, .int .u8 c] w fun e w' => e = .returned (.int .i64 (Lib.indexByte s.data.toList c.toNat.toUInt8)) /\ w' = w := Any.strings_IndexByte Tryz.lays137 s c w
def Tryz.lays99_ren : Go.Shelf.Ren := ⟨fun | 99 => 77 | 206 => 101 | n => n, fun | 9 => 9 | 4 => 4 | 3 => 3 | n => n, fun | n => n⟩
theorem Tryz.lays99 : Go.Proofs.Lays.n99 Tryz.prog Tryz.lays99_ren := {
 mixed := by kernel_rfl
 f99 := Tryz.func77.trans (congrArg some (by kernel_rfl))
 f206 := Tryz.func101.trans (congrArg some (by kernel_rfl))
 t3 := Tryz.underlying3
 a3 := Tryz.isAgg3
 z3 := Tryz.sizeOf3
 v3 := Tryz.zeroValue3
 t4 := Tryz.underlying4
 a4 := Tryz.isAgg4
 z4 := Tryz.sizeOf4
 v4 := Tryz.zeroValue4
 t9 := Tryz.underlying9
 a9 := Tryz.isAgg9
 z9 := Tryz.sizeOf9
 v9 := Tryz.zeroValue9 }
open Go.RowKit Go.Lib in
theorem Tryz.strings_HasPrefix (s p : ByteArray) (w : World) :
  Calls Tryz.prog 77 #[.string s, .string p] w fun e w' => e = .returned (.bool (Lib.hasPrefix s.data.toList p.data.toList)) /\ w' = w := Any.strings_HasPrefix Tryz.lays99 s p w
end Go.Proofs
namespace Go.Proofs.YtkihfkcmcdiajabGreatDoor
open Go.RowKit
def wd (x:BitVec 256) (i:Nat):Int:=((x.extractLsb' (64 * i) 64).toNat:Int)
def bt (b:Nat):BitVec 256:=1#256<<<b
theorem zfo (x:BitVec 256) (i:Nat):0<=wd x i:=by unfold wd;omega
theorem zgA (x:BitVec 256) (i:Nat):wd x i<18446744073709551616:=by
 unfold wd;have:=(x.extractLsb' (64 * i) 64).isLt;omega
theorem zls (x:BitVec 256) (i:Nat):(wd x i).toNat=(x.extractLsb' (64 * i) 64).toNat:=by unfold wd;omega
theorem zbH (x:BitVec 256) (i j:Nat):(wd x i).toNat.testBit j=(decide (j<64)&&x.getLsbD (64 * i+j)):=by
 rw [zls,BitVec.testBit_toNat,BitVec.getLsbD_extractLsb']
theorem zbx (x:BitVec 256) (i:Nat) (n:Int) (h0:0<=n) (h:∀j,n.toNat.testBit j=(decide (j<64)&&x.getLsbD (64 * i+j))):n=wd x i:=by
 have:n.toNat=(wd x i).toNat:=Nat.eq_of_testBit_eq fun j=>by rw [h j,zbH]
 have:=zfo x i;omega
theorem zh5 (x y:BitVec 256) (i:Nat):bits .or .u64 (wd x i) (wd y i)=wd (x ||| y) i:=by
 rw [u64_or _ _ (zfo _ _) (zgA _ _) (zfo _ _) (zgA _ _)];refine zbx _ _ _ (by omega) fun j=>?_
 rw [Int.toNat_natCast,Nat.testBit_or,zbH,zbH,BitVec.getLsbD_or]
 cases decide (j<64) <;> simp
theorem zhr (x y:BitVec 256) (i:Nat):bits .and .u64 (wd x i) (wd y i)=wd (x &&& y) i:=by
 rw [u64_and _ _ (zfo _ _) (zgA _ _) (zfo _ _) (zgA _ _)];refine zbx _ _ _ (by omega) fun j=>?_
 rw [Int.toNat_natCast,Nat.testBit_and,zbH,zbH,BitVec.getLsbD_and]
 cases decide (j<64) <;> simp
theorem zhs (b j:Nat) (hb:b<256):(bt b).getLsbD j=decide (j=b):=by
 unfold bt;rw [BitVec.getLsbD_shiftLeft];by_cases h:j=b
 ·subst h;simp [hb]
 ·by_cases h1:j<b
  ·simp [h1,h]
  ·by_cases h2:j<256
   ·have:j - b≠0:=by omega
    simp [h,h2,BitVec.getLsbD_one,this]
   ·simp [h,h2]
theorem zlt (k:Nat) (h:k<64):IntKind.u64.wrap (2 ^ k)=((2 ^ k:Nat):Int):=by
 rw [IntKind.wrap_u64];have h1:2 ^ k<2 ^ 64:=Nat.pow_lt_pow_right (by omega) h;have h2:((2 ^ k:Nat):Int)=(2:Int) ^ k:=by simp
 rw [<-h2];generalize 2 ^ k=n at *;omega
theorem zh6 (b i:Nat) (hb:b<256) (hi:b / 64=i):wd (bt b) i=((2 ^ (b%64):Nat):Int):=by
 refine (zbx _ _ _ (Int.natCast_nonneg _) fun j=>?_).symm;rw [Int.toNat_natCast,Nat.testBit_two_pow,zhs _ _ hb];by_cases h:b%64=j
 ·have:j<64:=by omega
  have h2:64 * i+j=b:=by omega
  simp [h,this,h2]
 ·by_cases h3:j<64
  ·have h2:¬64 * i+j=b:=by omega
   simp [h,h2]
  ·simp [h,h3]
theorem zgB (b i:Nat) (hb:b<256) (hi:b / 64≠i):wd (bt b) i=0:=by
 refine (zbx _ _ _ (by omega) fun j=>?_).symm;rw [zhs _ _ hb];by_cases h3:j<64
 ·have h2:¬64 * i+j=b:=by omega
  simp [h2]
 ·simp [h3]
theorem zfX (x:BitVec 256) (i:Nat):bits .or .u64 (wd x i) 0=wd x i:=by
 rw [u64_or _ _ (zfo _ _) (zgA _ _) (by omega) (by omega)];have:=zfo x i;simp;omega
theorem zfY (x:BitVec 256) (b i:Nat) (hb:b<256) (hi:b / 64=i):bits .or .u64 (wd x i) (((2 ^ (b%64):Nat):Int))=wd (x ||| bt b) i:=by
 rw [<-zh6 b i hb hi,zh5]
theorem zfp (x:BitVec 256) (b i:Nat) (hb:b<256) (hi:b / 64≠i):wd (x ||| bt b) i=wd x i:=by
 rw [<-zh5,zgB b i hb hi,zfX]
theorem znE (x:BitVec 256) (b i:Nat) (hi:b / 64=i):(wd x i).toNat / 2 ^ (b%64)%2=(x.getLsbD b).toNat:=by
 have h:=zbH x i (b%64);have h2:64 * i+b%64=b:=by omega
 have h3:b%64<64:=by omega
 rw [h2] at h;simp only [h3,decide_true,Bool.true_and] at h;rw [<-h,Nat.testBit_eq_decide_div_mod_eq];have:=Nat.mod_two_eq_zero_or_one ((wd x i).toNat / 2 ^ (b%64))
 rcases this with e | e <;> simp [e]
def pw (n:Nat):Int:=((2 ^ (n%64):Nat):Int)
theorem pw_of (b:Int) (h0:0<=b):IntKind.u64.wrap (2 ^ (b%64).toNat)=pw b.toNat:=by
 rw [zlt _ (by omega),show (b%64).toNat=b.toNat%64 from by omega];rfl
theorem zb7 (x:BitVec 256) (b:Int) (h0:0<=b) (h1:b<=255) (i:Nat) (hi:b / 64=(i:Int)) :
  bits .or .u64 (wd x i) (pw b.toNat)=wd (x ||| bt b.toNat) i/\∀j,j≠i->wd x j=wd (x ||| bt b.toNat) j :=
 ⟨zfY x _ i (by omega) (by omega),fun j hj=>(zfp x _ j (by omega) (by omega)).symm⟩
theorem zbm (b:Int) (h0:0<=b) (h1:b<=255):IntKind.i64.wrap (b.tdiv 64)=b / 64:=by
 rw [Int.tdiv_eq_ediv_of_nonneg h0,wI];omega
theorem ze6 (b:Int) (w:World) :
  Cl 186 #[.int .i64 b] w (rU w (.bool (decide (0<=b)&&decide (b<=255)))):=by
 by_cases h0:0<=b
 ·have hd:decide (0<=b)=true:=by simpa using h0
  go_enter Tryz.func186,Tryz.ntmps186;go_wp2
  go_ret
  exact ⟨by simp [h0],rfl⟩
 ·have hd:decide (0<=b)=false:=by simpa using h0
  go_enter Tryz.func186,Tryz.ntmps186;go_wp2
  go_ret
  exact ⟨by simp,rfl⟩
abbrev sv (x:BitVec 256):Value:=.agg #[.int .u64 (wd x 0),.int .u64 (wd x 1),.int .u64 (wd x 2),.int .u64 (wd x 3)]
theorem ziS {k:IntKind} {a b:Int} (h:a=b):Ending.returned (.int k a)=.returned (.int k b):=by rw [h]
theorem zfq (b:Int) (w:World) (h0:0<=b) (h1:b<=255) :
  Cl 162 #[.int .i64 b] w (rU w (.int .u64 (pw b.toNat))):=by
 go_enter Tryz.func162,Tryz.ntmps162;go_wp2
 go_ret
 exact ⟨ziS (pw_of b h0),rfl⟩
theorem zcG {a b c d:Int} {y:BitVec 256} (h0:a=wd y 0) (h1:b=wd y 1) (h2:c=wd y 2) (h3:d=wd y 3):Ending.returned (.agg #[.int .u64 a,.int .u64 b,.int .u64 c,.int .u64 d])=.returned (sv y):=by
 rw [h0,h1,h2,h3]
theorem zfr (x:BitVec 256) (b:Int) (w:World) (h0:0<=b) (h1:b<=255) :
  Cl 144 #[sv x,.int .i64 b] w (rB w (sv (x ||| bt b.toNat))):=by
 have hq:b / 64=0∨b / 64=1∨b / 64=2∨b / 64=3:=by omega
 rcases hq with hq | hq | hq | hq
 ·have hs:=hO (zb7 x b h0 h1 0 hq)
  have t1:IntKind.i64.wrap (b.tdiv 64)=0:=by rw [zbm b h0 h1];exact hq
  go_enter Tryz.func144,Tryz.ntmps144;go_wp2
  go_region_with ((go_at_call 162;refine (zfq _ _ (by omega) (by omega)).mono ?_;rintro e w' ⟨rfl,rfl⟩))
  all_goals
   go_wp2
   replace hs:=hs.out
   exact bodyPost_ret (v:=.agg #[.int .u64 (bits BinOp.or IntKind.u64 (wd x 0) (pw b.toNat)),.int .u64 (wd x 1),.int .u64 (wd x 2),.int .u64 (wd x 3)]) (by simp [results,Tryz.results144,go_sem]) rfl ⟨zcG hs.1 (hs.2 1 (by omega)) (hs.2 2 (by omega)) (hs.2 3 (by omega)),(((bR _ _).alloc (nL _) _).alloc (by simp) _).drew⟩
 ·have hs:=hO (zb7 x b h0 h1 1 hq)
  have t1:IntKind.i64.wrap (b.tdiv 64)=1:=by rw [zbm b h0 h1];exact hq
  go_enter Tryz.func144,Tryz.ntmps144;go_wp2
  go_region_with ((go_at_call 162;refine (zfq _ _ (by omega) (by omega)).mono ?_;rintro e w' ⟨rfl,rfl⟩))
  all_goals
   go_wp2
   replace hs:=hs.out
   exact bodyPost_ret (v:=.agg #[.int .u64 (wd x 0),.int .u64 (bits BinOp.or IntKind.u64 (wd x 1) (pw b.toNat)),.int .u64 (wd x 2),.int .u64 (wd x 3)]) (by simp [results,Tryz.results144,go_sem]) rfl ⟨zcG (hs.2 0 (by omega)) hs.1 (hs.2 2 (by omega)) (hs.2 3 (by omega)),(((bR _ _).alloc (nL _) _).alloc (by simp) _).drew⟩
 ·have hs:=hO (zb7 x b h0 h1 2 hq)
  have t1:IntKind.i64.wrap (b.tdiv 64)=2:=by rw [zbm b h0 h1];exact hq
  go_enter Tryz.func144,Tryz.ntmps144;go_wp2
  go_region_with ((go_at_call 162;refine (zfq _ _ (by omega) (by omega)).mono ?_;rintro e w' ⟨rfl,rfl⟩))
  all_goals
   go_wp2
   replace hs:=hs.out
   exact bodyPost_ret (v:=.agg #[.int .u64 (wd x 0),.int .u64 (wd x 1),.int .u64 (bits BinOp.or IntKind.u64 (wd x 2) (pw b.toNat)),.int .u64 (wd x 3)]) (by simp [results,Tryz.results144,go_sem]) rfl ⟨zcG (hs.2 0 (by omega)) (hs.2 1 (by omega)) hs.1 (hs.2 3 (by omega)),(((bR _ _).alloc (nL _) _).alloc (by simp) _).drew⟩
 ·have hs:=hO (zb7 x b h0 h1 3 hq)
  have t1:IntKind.i64.wrap (b.tdiv 64)=3:=by rw [zbm b h0 h1];exact hq
  go_enter Tryz.func144,Tryz.ntmps144;go_wp2
  go_region_with ((go_at_call 162;refine (zfq _ _ (by omega) (by omega)).mono ?_;rintro e w' ⟨rfl,rfl⟩))
  all_goals
   go_wp2
   replace hs:=hs.out
   exact bodyPost_ret (v:=.agg #[.int .u64 (wd x 0),.int .u64 (wd x 1),.int .u64 (wd x 2),.int .u64 (bits BinOp.or IntKind.u64 (wd x 3) (pw b.toNat))]) (by simp [results,Tryz.results144,go_sem]) rfl ⟨zcG (hs.2 0 (by omega)) (hs.2 1 (by omega)) (hs.2 2 (by omega)) hs.1,(((bR _ _).alloc (nL _) _).alloc (by simp) _).drew⟩
structure Holds (w:World) (b:Nat) (x:BitVec 256):Prop where
 lt:b<w.heap.size
 c0:w.cell? ⟨b,0,none⟩=some (.int .u64 (wd x 0))
 c1:w.cell? ⟨b,1,none⟩=some (.int .u64 (wd x 1))
 c2:w.cell? ⟨b,2,none⟩=some (.int .u64 (wd x 2))
 c3:w.cell? ⟨b,3,none⟩=some (.int .u64 (wd x 3))
 f0:w.frozen? ⟨b,0,none⟩=false
 f1:w.frozen? ⟨b,1,none⟩=false
 f2:w.frozen? ⟨b,2,none⟩=false
 f3:w.frozen? ⟨b,3,none⟩=false
theorem Holds.below {B:Nat} {w w':World} {b:Nat} {x:BitVec 256} (h:Holds w b x) (hb:Below B w w') (hB:b<B):Holds w' b x :=
 ⟨nM h.lt hb.size,(hb.cell (p:=⟨b,0,none⟩) hB).trans h.c0,(hb.cell (p:=⟨b,1,none⟩) hB).trans h.c1,(hb.cell (p:=⟨b,2,none⟩) hB).trans h.c2,(hb.cell (p:=⟨b,3,none⟩) hB).trans h.c3,(hb.frozen (p:=⟨b,0,none⟩) hB).trans h.f0,(hb.frozen (p:=⟨b,1,none⟩) hB).trans h.f1,(hb.frozen (p:=⟨b,2,none⟩) hB).trans h.f2,(hb.frozen (p:=⟨b,3,none⟩) hB).trans h.f3⟩
theorem Holds.alloc {w:World} {b:Nat} {x:BitVec 256} (h:Holds w b x) (o:Obj):Holds (w.alloc o) b x:=h.below ((bR w.heap.size w).alloc (nL _) o) h.lt
theorem Holds.new (w:World) (x:BitVec 256):Holds (w.alloc (.cells #[.int .u64 (wd x 0),.int .u64 (wd x 1),.int .u64 (wd x 2),.int .u64 (wd x 3)] 63)) w.heap.size x:=by
 constructor <;> simp [go_sem]
theorem zal (i:Nat):wd 0#256 i=0:=by unfold wd;simp
theorem Holds.zero (w:World):Holds (w.alloc (.cells #[.int .u64 0,.int .u64 0,.int .u64 0,.int .u64 0] 63)) w.heap.size 0#256:=by
 have h:=Holds.new w 0#256;rw [zal,zal,zal,zal] at h;exact h
theorem Holds.zero' (w:World) (o:Obj):Holds ((w.alloc o).alloc (.cells #[.int .u64 0,.int .u64 0,.int .u64 0,.int .u64 0] 63)) (w.heap.size+1) 0#256:=by
 have h:=Holds.zero (w.alloc o);rw [show (w.alloc o).heap.size=w.heap.size+1 from by simp] at h;exact h
abbrev znF (w:World) (b:Nat) (y:BitVec 256):World:=(((w.setCell ⟨b,0,none⟩ (.int .u64 (wd y 0))).setCell ⟨b,1,none⟩ (.int .u64 (wd y 1))).setCell ⟨b,2,none⟩ (.int .u64 (wd y 2))).setCell ⟨b,3,none⟩ (.int .u64 (wd y 3))
theorem Holds.put {w:World} {b:Nat} {x:BitVec 256} (h:Holds w b x) (y:BitVec 256):Holds (znF w b y) b y:=by
 obtain ⟨lt,c0,c1,c2,c3,f0,f1,f2,f3⟩:=h
 constructor <;> simp [go_sem, *]
theorem Holds.put_other {w:World} {b c:Nat} {x:BitVec 256} (h:Holds w c x) (hne:c≠b) (y:BitVec 256):Holds (znF w b y) c x:=by
 obtain ⟨lt,c0,c1,c2,c3,f0,f1,f2,f3⟩:=h
 constructor <;> simp [go_sem, *]
def ofB (f:Nat->Bool):Nat->BitVec 256
 | 0=>0#256
 | n+1=>if f n then ofB f n ||| bt n else ofB f n
theorem ziT (f:Nat->Bool) (n:Nat) (hn:n<=256) (j:Nat):(ofB f n).getLsbD j=(decide (j<n)&&f j):=by
 induction n with
 | zero=>simp [ofB]
 | succ n ih =>
  have ih:=ih (by omega);unfold ofB;by_cases h:f n=true
  ·rw [iP h,BitVec.getLsbD_or,ih,zhs _ _ (by omega)]
   by_cases e:j=n
   ·subst e;simp [h]
   ·have:decide (j<n+1)=decide (j<n):=decide_eq_decide.2 (by omega)
    simp [e,this]
  ·rw [iN h,ih]
   by_cases e:j=n
   ·subst e;simp [h]
   ·have:decide (j<n+1)=decide (j<n):=decide_eq_decide.2 (by omega)
    simp [this]
theorem zfZ (x y:BitVec 256) (h:∀j,j<256->x.getLsbD j=y.getLsbD j):x=y:=BitVec.eq_of_getLsbD_eq h
def spn (lo hi:Int):BitVec 256:=ofB (fun j=>decide (lo<=(j:Int))) (hi+1).toNat
theorem zgC (lo hi:Int) (h1:hi<=255) (j:Nat):(spn lo hi).getLsbD j=(decide (lo<=(j:Int))&&decide ((j:Int)<=hi)):=by
 unfold spn;rw [ziT _ _ (by omega)];have:decide (j<(hi+1).toNat)=decide ((j:Int)<=hi):=decide_eq_decide.2 (by omega);rw [this,Bool.and_comm]
theorem ziU (lo:Int) (h0:0<=lo) (h1:lo<=256):spn lo (lo - 1)=0#256:=by
 refine zfZ _ _ fun j hj=>?_
 rw [zgC _ _ (by omega)];by_cases h:lo<=(j:Int)
 ·have:¬(j:Int)<=lo - 1:=by omega
  simp [this]
 ·simp [h]
theorem zht (lo b:Int) (h0:0<=lo) (hb:lo<=b) (h1:b<=255):spn lo b=spn lo (b - 1) ||| bt b.toNat:=by
 refine zfZ _ _ fun j hj=>?_
 rw [zgC _ _ (by omega),BitVec.getLsbD_or,zgC _ _ (by omega),zhs _ _ (by omega)];by_cases e:j=b.toNat
 ·have a1:lo<=(j:Int):=by omega
  have a2:(j:Int)<=b:=by omega
  rw [decide_eq_true a1,decide_eq_true a2,decide_eq_true e];simp
 ·have:decide ((j:Int)<=b)=decide ((j:Int)<=b - 1):=decide_eq_decide.2 (by omega)
  simp [e,this]
def zh7 (x:BitVec 256) (b:Int):Bool:=decide (0<=b)&&(decide (b<=255)&&x.getLsbD b.toNat)
theorem ziV (x:BitVec 256) (b:Int) (h:¬(0<=b/\b<=255)):zh7 x b=false:=by
 unfold zh7;by_cases h0:0<=b
 ·have:¬b<=255:=fun h1=>h ⟨h0,h1⟩
  simp [this]
 ·simp [h0]
theorem zfs (x:BitVec 256) (b:Int) (h0:0<=b) (h1:b<=255):zh7 x b=x.getLsbD b.toNat:=by
 unfold zh7;simp [h0,h1]
theorem zaD {a b:Bool} (h:a=b):Ending.returned (.bool a)=.returned (.bool b):=by rw [h]
theorem zef (x:BitVec 256) (b:Int) (h0:0<=b) (i:Nat) (hi:b / 64=(i:Int)):(bits .and .u64 (wd x i / 2 ^ (b%64).toNat) 1==1)=x.getLsbD b.toNat:=by
 have h2:=znE x b.toNat i (by omega);obtain ⟨n,hn⟩:=Int.eq_ofNat_of_zero_le (zfo x i);have hlt:=zgA x i;rw [hn] at h2 hlt ⊢;have e1:(b%64).toNat=b.toNat%64:=by omega
 have e2:(n:Int) / 2 ^ (b%64).toNat=((n / 2 ^ (b.toNat%64):Nat):Int):=by rw [e1];simp
 rw [e2,show (1:Int)=((1:Nat):Int) from rfl,u64_and_nat _ _ (Nat.lt_of_le_of_lt (Nat.div_le_self _ _) (by omega)) (by omega),nat_mask1];simp only [Int.toNat_natCast] at h2;rw [h2]
 cases x.getLsbD b.toNat <;> rfl
theorem zbn (x:BitVec 256) (b:Int) (w:World) :
  Cl 119 #[sv x,.int .i64 b] w (rB w (.bool (zh7 x b))):=by
 by_cases h0:0<=b
 ·have d0:decide (0<=b)=true:=by simpa using h0
  by_cases h1:b<=255
  ·have d1:decide (b<=255)=true:=by simpa using h1
   have hy:=hO (zfs x b h0 h1);have hr:IntKind.i64.wrap (b.tmod 64)=b%64:=by rw [Int.tmod_eq_emod_of_nonneg h0,wI];omega
   have hq:b / 64=0∨b / 64=1∨b / 64=2∨b / 64=3:=by omega
   rcases hq with hq | hq | hq | hq
   ·have t1:IntKind.i64.wrap (b.tdiv 64)=0:=by rw [zbm b h0 h1];exact hq
    have hs:=hO (zef x b h0 0 hq);go_enter Tryz.func119,Tryz.ntmps119;go_wp2
    go_ret
    exact ⟨zaD (hs.out.trans hy.out.symm),(bR _ _).alloc (nL _) _⟩
   ·have t1:IntKind.i64.wrap (b.tdiv 64)=1:=by rw [zbm b h0 h1];exact hq
    have hs:=hO (zef x b h0 1 hq);go_enter Tryz.func119,Tryz.ntmps119;go_wp2
    go_ret
    exact ⟨zaD (hs.out.trans hy.out.symm),(bR _ _).alloc (nL _) _⟩
   ·have t1:IntKind.i64.wrap (b.tdiv 64)=2:=by rw [zbm b h0 h1];exact hq
    have hs:=hO (zef x b h0 2 hq);go_enter Tryz.func119,Tryz.ntmps119;go_wp2
    go_ret
    exact ⟨zaD (hs.out.trans hy.out.symm),(bR _ _).alloc (nL _) _⟩
   ·have t1:IntKind.i64.wrap (b.tdiv 64)=3:=by rw [zbm b h0 h1];exact hq
    have hs:=hO (zef x b h0 3 hq);go_enter Tryz.func119,Tryz.ntmps119;go_wp2
    go_ret
    exact ⟨zaD (hs.out.trans hy.out.symm),(bR _ _).alloc (nL _) _⟩
  ·have d1:decide (b<=255)=false:=by simpa using h1
   have hy:=hO (ziV x b (fun h=>h1 h.2));go_enter Tryz.func119,Tryz.ntmps119;go_wp2
   go_ret
   exact ⟨zaD hy.out.symm,(bR _ _).alloc (nL _) _⟩
 ·have d0:decide (0<=b)=false:=by simpa using h0
  have hy:=hO (ziV x b (fun h=>h0 h.1));go_enter Tryz.func119,Tryz.ntmps119;go_wp2
  go_ret
  exact ⟨zaD hy.out.symm,(bR _ _).alloc (nL _) _⟩
def zat (l:List Int):ByteArray:=l.foldl (fun r n=>r.push (UInt8.ofNat n.toNat)) ByteArray.empty
theorem zbp (l:List Int):(zat l).data.toList=l.map (fun n=>UInt8.ofNat n.toNat):=by
 have key:∀(l:List Int) (s:ByteArray),(l.foldl (fun r n=>r.push (UInt8.ofNat n.toNat)) s).data.toList=s.data.toList++l.map (fun n=>UInt8.ofNat n.toNat):=by
  intro l
  induction l with
  | nil=>intro s;simp
  | cons b l ih=>intro s;rw [List.foldl_cons,ih];simp [ByteArray.push]
 have:=key l ByteArray.empty
 simpa [zat] using this
theorem zbq (l:List Int):(zat l).size=l.length:=by
 have h:=congrArg List.length (zbp l)
 simpa using h
def mixB (m:Nat) (a b:Bool):Bool:=(m==0&&(a||b))||((m==1&&a&&b)||((m==2&&a&&!b)||(m==3&&!a)))
def zaS (m:Nat) (x y:BitVec 256) (k:Nat):BitVec 256:=ofB (fun j=>mixB m (x.getLsbD j) (y.getLsbD j)) k
def ziW (m:Nat) (x y:BitVec 256):BitVec 256:=zaS m x y 256
theorem zdH (m:Nat) (x y:BitVec 256) (k:Nat) (hk:k<256):zaS m x y (k+1)=if mixB m (zh7 x k) (zh7 y k) then zaS m x y k ||| bt k else zaS m x y k:=by
 rw [zfs x k (by omega) (by omega),zfs y k (by omega) (by omega),Int.toNat_natCast];rfl
theorem zft (m:Nat) (x y:BitVec 256) (j:Nat) (hj:j<256):(ziW m x y).getLsbD j=mixB m (x.getLsbD j) (y.getLsbD j):=by
 unfold ziW zaS;rw [ziT _ _ (by omega)];simp [hj]
theorem zh8 (x y:BitVec 256):ziW 0 x y=x ||| y:=zfZ _ _ fun j hj=>by rw [zft _ _ _ _ hj,BitVec.getLsbD_or];simp [mixB]
theorem ziX (x y:BitVec 256):ziW 2 x y=x &&& ~~~ y:=zfZ _ _ fun j hj=>by rw [zft _ _ _ _ hj,BitVec.getLsbD_and,BitVec.getLsbD_not];simp [mixB,hj]
theorem zlu (x y:BitVec 256):ziW 3 x y = ~~~ x:=zfZ _ _ fun j hj=>by rw [zft _ _ _ _ hj,BitVec.getLsbD_not];simp [mixB,hj]
abbrev c4 (x:BitVec 256):Obj:=.cells #[.int .u64 (wd x 0),.int .u64 (wd x 1),.int .u64 (wd x 2),.int .u64 (wd x 3)] 63
abbrev z4:Obj:=.cells #[.int .u64 0,.int .u64 0,.int .u64 0,.int .u64 0] 63
theorem zdI (w:World) (x y:BitVec 256):Holds ((((w.alloc (c4 x)).alloc (c4 y)).alloc z4).alloc z4) w.heap.size x:=(((Holds.new w x).alloc _).alloc _).alloc _
theorem zdJ (w:World) (x y:BitVec 256):Holds ((((w.alloc (c4 x)).alloc (c4 y)).alloc z4).alloc z4) (w.heap.size+1) y:=by
 have h:=((Holds.new (w.alloc (c4 x)) y).alloc z4).alloc z4;rw [show (w.alloc (c4 x)).heap.size=w.heap.size+1 from by simp] at h;exact h
theorem zdK (w:World) (x y:BitVec 256):Holds ((((w.alloc (c4 x)).alloc (c4 y)).alloc z4).alloc z4) (w.heap.size+2) 0#256:=by
 have h:=(Holds.zero ((w.alloc (c4 x)).alloc (c4 y))).alloc z4;rw [show ((w.alloc (c4 x)).alloc (c4 y)).heap.size=w.heap.size+2 from by simp] at h;exact h
theorem zdL (w:World) (x y:BitVec 256):Holds ((((w.alloc (c4 x)).alloc (c4 y)).alloc z4).alloc z4) (w.heap.size+3) 0#256:=by
 have h:=Holds.zero (((w.alloc (c4 x)).alloc (c4 y)).alloc z4);rw [show (((w.alloc (c4 x)).alloc (c4 y)).alloc z4).heap.size=w.heap.size+3 from by simp] at h;exact h
theorem zdM (w:World) (x y:BitVec 256):bW w ((((w.alloc (c4 x)).alloc (c4 y)).alloc z4).alloc z4) :=
 (((((bR _ _).alloc (nL _) _).alloc (by simp) _).alloc (by simp;omega) _).alloc (by simp;omega) _)
theorem Tryz.info5:(Tryz.prog.info? 5).map (fun i=>(i.zero,i.size,i.bytes))=some (some (.int .u8 0),1,1):=by kernel_rfl
theorem zfu {w:World} {base:Nat} {v:Value} {l:List Int} (h:w.ownsRow base 5 1 v l.length (l.map (Value.int .u8))) :
  (convert 104 9 v).run Tryz.prog w=.ok (.string (zat l)) w:=by
 have hc:=h;obtain ⟨hlen,h2⟩:=h
 rcases h2 with ⟨rfl,hn⟩ | ⟨g,cap,cur,rfl,_⟩
 ·obtain rfl:l=[]:=List.eq_nil_of_length_eq_zero hn
  rw [run_convert_bytes_string w 104 9 5 _ _ _ Tryz.underlying104 Tryz.underlying5 Tryz.underlying9];rfl
 ·rw [run_convert_bytes_string w 104 9 5 _ _ _ Tryz.underlying104 Tryz.underlying5 Tryz.underlying9]
  refine run_bytesToString w ⟨g,0,none⟩ l.length cap l ?_;have:=run_loadCells_list (P:=Tryz.prog) (w:=w) ⟨g,0,none⟩ (l.map (Value.int .u8)) (hc.cells rfl)
  rwa [List.length_map] at this
theorem zby (x:BitVec 256) (b:Int) (w:World) (h0:0<=b) (h1:b<=255) :
  Cl 92 #[sv x,.int .i64 b] w (rB w (sv (x ||| bt b.toNat))):=by
 have hq:b / 64=0∨b / 64=1∨b / 64=2∨b / 64=3:=by omega
 have hr:IntKind.i64.wrap (b.tmod 64)=b%64:=by rw [Int.tmod_eq_emod_of_nonneg h0,wI];omega
 have hr0:0<=b%64:=by omega
 have hr1:b%64<64:=by omega
 have hp:=pw_of b h0
 rcases hq with hq | hq | hq | hq
 ·have hs:=hO (zb7 x b h0 h1 0 hq)
  have t1:IntKind.i64.wrap (b.tdiv 64)=0:=by rw [zbm b h0 h1];exact hq
  go_enter Tryz.func92,Tryz.ntmps92;go_wp2
  go_region
  all_goals
   go_wp2
   replace hs:=hs.out
   exact bodyPost_ret (v:=.agg #[.int .u64 (bits BinOp.or IntKind.u64 (wd x 0) (pw b.toNat)),.int .u64 (wd x 1),.int .u64 (wd x 2),.int .u64 (wd x 3)]) (by simp [results,Tryz.results92,go_sem]) rfl ⟨zcG hs.1 (hs.2 1 (by omega)) (hs.2 2 (by omega)) (hs.2 3 (by omega)),(((bR _ _).alloc (nL _) _).alloc (by simp) _).drew⟩
 ·have hs:=hO (zb7 x b h0 h1 1 hq)
  have t1:IntKind.i64.wrap (b.tdiv 64)=1:=by rw [zbm b h0 h1];exact hq
  go_enter Tryz.func92,Tryz.ntmps92;go_wp2
  go_region
  all_goals
   go_wp2
   replace hs:=hs.out
   exact bodyPost_ret (v:=.agg #[.int .u64 (wd x 0),.int .u64 (bits BinOp.or IntKind.u64 (wd x 1) (pw b.toNat)),.int .u64 (wd x 2),.int .u64 (wd x 3)]) (by simp [results,Tryz.results92,go_sem]) rfl ⟨zcG (hs.2 0 (by omega)) hs.1 (hs.2 2 (by omega)) (hs.2 3 (by omega)),(((bR _ _).alloc (nL _) _).alloc (by simp) _).drew⟩
 ·have hs:=hO (zb7 x b h0 h1 2 hq)
  have t1:IntKind.i64.wrap (b.tdiv 64)=2:=by rw [zbm b h0 h1];exact hq
  go_enter Tryz.func92,Tryz.ntmps92;go_wp2
  go_region
  all_goals
   go_wp2
   replace hs:=hs.out
   exact bodyPost_ret (v:=.agg #[.int .u64 (wd x 0),.int .u64 (wd x 1),.int .u64 (bits BinOp.or IntKind.u64 (wd x 2) (pw b.toNat)),.int .u64 (wd x 3)]) (by simp [results,Tryz.results92,go_sem]) rfl ⟨zcG (hs.2 0 (by omega)) (hs.2 1 (by omega)) hs.1 (hs.2 3 (by omega)),(((bR _ _).alloc (nL _) _).alloc (by simp) _).drew⟩
 ·have hs:=hO (zb7 x b h0 h1 3 hq)
  have t1:IntKind.i64.wrap (b.tdiv 64)=3:=by rw [zbm b h0 h1];exact hq
  go_enter Tryz.func92,Tryz.ntmps92;go_wp2
  go_region
  all_goals
   go_wp2
   replace hs:=hs.out
   exact bodyPost_ret (v:=.agg #[.int .u64 (wd x 0),.int .u64 (wd x 1),.int .u64 (wd x 2),.int .u64 (bits BinOp.or IntKind.u64 (wd x 3) (pw b.toNat))]) (by simp [results,Tryz.results92,go_sem]) rfl ⟨zcG (hs.2 0 (by omega)) (hs.2 1 (by omega)) (hs.2 2 (by omega)) hs.1,(((bR _ _).alloc (nL _) _).alloc (by simp) _).drew⟩
theorem zlv (x y:BitVec 256) (w:World) :
  Cl 94 #[.int .i64 0,sv x,sv y] w (rB w (sv (ziW 0 x y))):=by
 go_enter Tryz.func94,Tryz.ntmps94;go_wp2
 go_loopw [8] (fun t wr=>∃k:Nat,k<=256/\t=.int .i64 k/\Holds wr w.heap.size x/\Holds wr (w.heap.size+1) y/\Holds wr (w.heap.size+1+1+1) (zaS 0 x y k)/\(∃z,Holds wr (w.heap.size+1+1) z)/\bW w wr) (fun t _=>256 - (intOf t).toNat)
 case atStart =>
  exact ⟨0,by omega,rfl,zdI w x y,zdJ w x y,zdL w x y,⟨0#256,zdK w x y⟩,zdM w x y⟩
 case round =>
  obtain ⟨k,hk,rfl,hx,hy,hm,⟨z,hz⟩,hbel⟩:=hrel;have hsz:w.heap.size+1+1+1<wr.heap.size:=hm.lt;have HX:=hO hx;have HY:=hO hy;have HM:=hO hm;have HZ:=hO hz;have HB:=hO hbel;by_cases hlt:k<256
  ·have HS:=hO (zdH 0 x y k hlt)
   clear hm hz hbel;obtain ⟨l0,c0,c1,c2,c3,f0,f1,f2,f3⟩:=hx;obtain ⟨l1,d0,d1,d2,d3,g0,g1,g2,g3⟩:=hy;have HR:Hid (bW wr wr):=bR _ _;have hk0:(0:Int)<=(k:Int):=by omega
   have hk1:(k:Int)<=255:=by omega
   cases hxb:zh7 x k <;> cases hyb:zh7 y k
   ·have HE:Hid (zaS 0 x y (k+1)=zaS 0 x y k):=(by have h:=HS.out;rw [hxb,hyb,iN (by decide)] at h;exact h)
    clear HS;go_wp2
    go_region_held3 (fun w'=>w'.cell? ⟨w.heap.size,0,none⟩=some (.int .u64 (wd x 0))/\w'.cell? ⟨w.heap.size,1,none⟩=some (.int .u64 (wd x 1))/\w'.cell? ⟨w.heap.size,2,none⟩=some (.int .u64 (wd x 2))/\w'.cell? ⟨w.heap.size,3,none⟩=some (.int .u64 (wd x 3))/\w'.cell? ⟨w.heap.size+1,0,none⟩=some (.int .u64 (wd y 0))/\w'.cell? ⟨w.heap.size+1,1,none⟩=some (.int .u64 (wd y 1))/\w'.cell? ⟨w.heap.size+1,2,none⟩=some (.int .u64 (wd y 2))/\w'.cell? ⟨w.heap.size+1,3,none⟩=some (.int .u64 (wd y 3))) (first | go_keep | (go_split_ands;refine ⟨?_,?_,?_,?_,?_,?_,?_,?_⟩ <;> (rw [hb.cell (by simp;omega)];first | assumption | simp [*]))) ((go_at_call 119;refine (zbn _ _ _).mono ?_;rintro e w1 ⟨rfl,hb⟩;have hz1:=hb.size;(try simp at hz1);replace HR:Hid (bW wr w1):=(by first | exact HR.out.trans (hb.mono (by omega)) | exact HR.out.drew.trans (hb.mono (by simp)))))
    clear c0 c1 c2 c3 f0 f1 f2 f3 d0 d1 d2 d3 g0 g1 g2 g3;have hM1:=HM.below HR (by omega);have hX1:=hO (HX.below HR (by omega));have hY1:=hO (HY.below HR (by omega));have hZ1:=hO (HZ.below HR (by omega));have hB1:=hO (HB.trans (HR.mono (by omega)));clear HM HX HY HZ HB;generalize zaS 0 x y k=mm at *;have HM1:=hO hM1;clear hM1;go_wp2
    go_roundw
    case rel=>exact ⟨k+1,by omega,by go_num,hX1.out,hY1.out,(by rw [HE.out];exact HM1.out),⟨z,hZ1.out⟩,hB1.out⟩
    case measure=>simp [intOf];omega
   ·have HE:Hid (zaS 0 x y (k+1)=zaS 0 x y k ||| bt k):=(by have h:=HS.out;rw [hxb,hyb,iP (by decide)] at h;exact h)
    clear HS;go_wp2
    go_region_held3 (fun w'=>w'.cell? ⟨w.heap.size,0,none⟩=some (.int .u64 (wd x 0))/\w'.cell? ⟨w.heap.size,1,none⟩=some (.int .u64 (wd x 1))/\w'.cell? ⟨w.heap.size,2,none⟩=some (.int .u64 (wd x 2))/\w'.cell? ⟨w.heap.size,3,none⟩=some (.int .u64 (wd x 3))/\w'.cell? ⟨w.heap.size+1,0,none⟩=some (.int .u64 (wd y 0))/\w'.cell? ⟨w.heap.size+1,1,none⟩=some (.int .u64 (wd y 1))/\w'.cell? ⟨w.heap.size+1,2,none⟩=some (.int .u64 (wd y 2))/\w'.cell? ⟨w.heap.size+1,3,none⟩=some (.int .u64 (wd y 3))) (first | go_keep | (go_split_ands;refine ⟨?_,?_,?_,?_,?_,?_,?_,?_⟩ <;> (rw [hb.cell (by simp;omega)];first | assumption | simp [*]))) ((go_at_call 119;refine (zbn _ _ _).mono ?_;rintro e w1 ⟨rfl,hb⟩;have hz1:=hb.size;(try simp at hz1);replace HR:Hid (bW wr w1):=(by first | exact HR.out.trans (hb.mono (by omega)) | exact HR.out.drew.trans (hb.mono (by simp)))))
    clear c0 c1 c2 c3 f0 f1 f2 f3 d0 d1 d2 d3 g0 g1 g2 g3;have hM1:=HM.below HR (by omega);have hX1:=hO (HX.below HR (by omega));have hY1:=hO (HY.below HR (by omega));have hZ1:=hO (HZ.below HR (by omega));have hB1:=hO (HB.trans (HR.mono (by omega)));clear HM HX HY HZ HB;generalize zaS 0 x y k=mm at *;have HM1:=hO hM1;obtain ⟨l5,c0,c1,c2,c3,f0,f1,f2,f3⟩:=hM1;go_wp2_with fail;refine (zby mm k _ (by omega) (by omega)).mono ?_;rintro e w2 ⟨rfl,hb2⟩;clear c0 c1 c2 c3 f0 f1 f2 f3;obtain ⟨l5,c0,c1,c2,c3,f0,f1,f2,f3⟩:=HM1.below hb2 l5;go_wp2
    go_roundw
    case rel =>
     refine ⟨k+1,by omega,by go_num,(hX1.out.below hb2 (by omega)).put_other (by omega) _,(hY1.out.below hb2 (by omega)).put_other (by omega) _,?_,⟨z,(hZ1.out.below hb2 (by omega)).put_other (by omega) _⟩,?_⟩
     ·rw [HE.out];exact (HM1.below hb2 (by omega)).put _
     ·exact ((((hB1.out.trans (hb2.mono (by omega))).setCell (by simp;omega) _).setCell (by simp;omega) _).setCell (by simp;omega) _).setCell (by simp;omega) _
    case measure=>simp [intOf];omega
   ·have HE:Hid (zaS 0 x y (k+1)=zaS 0 x y k ||| bt k):=(by have h:=HS.out;rw [hxb,hyb,iP (by decide)] at h;exact h)
    clear HS;go_wp2
    go_region_held3 (fun w'=>w'.cell? ⟨w.heap.size,0,none⟩=some (.int .u64 (wd x 0))/\w'.cell? ⟨w.heap.size,1,none⟩=some (.int .u64 (wd x 1))/\w'.cell? ⟨w.heap.size,2,none⟩=some (.int .u64 (wd x 2))/\w'.cell? ⟨w.heap.size,3,none⟩=some (.int .u64 (wd x 3))/\w'.cell? ⟨w.heap.size+1,0,none⟩=some (.int .u64 (wd y 0))/\w'.cell? ⟨w.heap.size+1,1,none⟩=some (.int .u64 (wd y 1))/\w'.cell? ⟨w.heap.size+1,2,none⟩=some (.int .u64 (wd y 2))/\w'.cell? ⟨w.heap.size+1,3,none⟩=some (.int .u64 (wd y 3))) (first | go_keep | (go_split_ands;refine ⟨?_,?_,?_,?_,?_,?_,?_,?_⟩ <;> (rw [hb.cell (by simp;omega)];first | assumption | simp [*]))) ((go_at_call 119;refine (zbn _ _ _).mono ?_;rintro e w1 ⟨rfl,hb⟩;have hz1:=hb.size;(try simp at hz1);replace HR:Hid (bW wr w1):=(by first | exact HR.out.trans (hb.mono (by omega)) | exact HR.out.drew.trans (hb.mono (by simp)))))
    clear c0 c1 c2 c3 f0 f1 f2 f3 d0 d1 d2 d3 g0 g1 g2 g3;have hM1:=HM.below HR (by omega);have hX1:=hO (HX.below HR (by omega));have hY1:=hO (HY.below HR (by omega));have hZ1:=hO (HZ.below HR (by omega));have hB1:=hO (HB.trans (HR.mono (by omega)));clear HM HX HY HZ HB;generalize zaS 0 x y k=mm at *;have HM1:=hO hM1;obtain ⟨l5,c0,c1,c2,c3,f0,f1,f2,f3⟩:=hM1;go_wp2_with fail;refine (zby mm k _ (by omega) (by omega)).mono ?_;rintro e w2 ⟨rfl,hb2⟩;clear c0 c1 c2 c3 f0 f1 f2 f3;obtain ⟨l5,c0,c1,c2,c3,f0,f1,f2,f3⟩:=HM1.below hb2 l5;go_wp2
    go_roundw
    case rel =>
     refine ⟨k+1,by omega,by go_num,(hX1.out.below hb2 (by omega)).put_other (by omega) _,(hY1.out.below hb2 (by omega)).put_other (by omega) _,?_,⟨z,(hZ1.out.below hb2 (by omega)).put_other (by omega) _⟩,?_⟩
     ·rw [HE.out];exact (HM1.below hb2 (by omega)).put _
     ·exact ((((hB1.out.trans (hb2.mono (by omega))).setCell (by simp;omega) _).setCell (by simp;omega) _).setCell (by simp;omega) _).setCell (by simp;omega) _
    case measure=>simp [intOf];omega
   ·have HE:Hid (zaS 0 x y (k+1)=zaS 0 x y k ||| bt k):=(by have h:=HS.out;rw [hxb,hyb,iP (by decide)] at h;exact h)
    clear HS;go_wp2
    go_region_held3 (fun w'=>w'.cell? ⟨w.heap.size,0,none⟩=some (.int .u64 (wd x 0))/\w'.cell? ⟨w.heap.size,1,none⟩=some (.int .u64 (wd x 1))/\w'.cell? ⟨w.heap.size,2,none⟩=some (.int .u64 (wd x 2))/\w'.cell? ⟨w.heap.size,3,none⟩=some (.int .u64 (wd x 3))/\w'.cell? ⟨w.heap.size+1,0,none⟩=some (.int .u64 (wd y 0))/\w'.cell? ⟨w.heap.size+1,1,none⟩=some (.int .u64 (wd y 1))/\w'.cell? ⟨w.heap.size+1,2,none⟩=some (.int .u64 (wd y 2))/\w'.cell? ⟨w.heap.size+1,3,none⟩=some (.int .u64 (wd y 3))) (first | go_keep | (go_split_ands;refine ⟨?_,?_,?_,?_,?_,?_,?_,?_⟩ <;> (rw [hb.cell (by simp;omega)];first | assumption | simp [*]))) ((go_at_call 119;refine (zbn _ _ _).mono ?_;rintro e w1 ⟨rfl,hb⟩;have hz1:=hb.size;(try simp at hz1);replace HR:Hid (bW wr w1):=(by first | exact HR.out.trans (hb.mono (by omega)) | exact HR.out.drew.trans (hb.mono (by simp)))))
    clear c0 c1 c2 c3 f0 f1 f2 f3 d0 d1 d2 d3 g0 g1 g2 g3;have hM1:=HM.below HR (by omega);have hX1:=hO (HX.below HR (by omega));have hY1:=hO (HY.below HR (by omega));have hZ1:=hO (HZ.below HR (by omega));have hB1:=hO (HB.trans (HR.mono (by omega)));clear HM HX HY HZ HB;generalize zaS 0 x y k=mm at *;have HM1:=hO hM1;obtain ⟨l5,c0,c1,c2,c3,f0,f1,f2,f3⟩:=hM1;go_wp2_with fail;refine (zby mm k _ (by omega) (by omega)).mono ?_;rintro e w2 ⟨rfl,hb2⟩;clear c0 c1 c2 c3 f0 f1 f2 f3;obtain ⟨l5,c0,c1,c2,c3,f0,f1,f2,f3⟩:=HM1.below hb2 l5;go_wp2
    go_roundw
    case rel =>
     refine ⟨k+1,by omega,by go_num,(hX1.out.below hb2 (by omega)).put_other (by omega) _,(hY1.out.below hb2 (by omega)).put_other (by omega) _,?_,⟨z,(hZ1.out.below hb2 (by omega)).put_other (by omega) _⟩,?_⟩
     ·rw [HE.out];exact (HM1.below hb2 (by omega)).put _
     ·exact ((((hB1.out.trans (hb2.mono (by omega))).setCell (by simp;omega) _).setCell (by simp;omega) _).setCell (by simp;omega) _).setCell (by simp;omega) _
    case measure=>simp [intOf];omega
  ·have hke:k=256:=by omega
   subst hke;clear hx hy hbel;have HQ:Hid (zaS 0 x y 256=ziW 0 x y):=rfl;generalize zaS 0 x y 256=mm at *;obtain ⟨l0,c0,c1,c2,c3,f0,f1,f2,f3⟩:=hm;obtain ⟨l1,d0,d1,d2,d3,g0,g1,g2,g3⟩:=hz;go_wp2
   rw [<-HQ.out];refine bodyPost_ret (v:=sv mm) (by simp [results,Tryz.results94,go_sem, *]) rfl ⟨rfl,?_⟩;exact (((HB.setCell (by simp;omega) _).setCell (by simp;omega) _).setCell (by simp;omega) _).setCell (by simp;omega) _
theorem zlw (x y:BitVec 256) (w:World) :
  Cl 94 #[.int .i64 2,sv x,sv y] w (rB w (sv (ziW 2 x y))):=by
 go_enter Tryz.func94,Tryz.ntmps94;go_wp2
 go_loopw [8] (fun t wr=>∃k:Nat,k<=256/\t=.int .i64 k/\Holds wr w.heap.size x/\Holds wr (w.heap.size+1) y/\Holds wr (w.heap.size+1+1+1) (zaS 2 x y k)/\(∃z,Holds wr (w.heap.size+1+1) z)/\bW w wr) (fun t _=>256 - (intOf t).toNat)
 case atStart =>
  exact ⟨0,by omega,rfl,zdI w x y,zdJ w x y,zdL w x y,⟨0#256,zdK w x y⟩,zdM w x y⟩
 case round =>
  obtain ⟨k,hk,rfl,hx,hy,hm,⟨z,hz⟩,hbel⟩:=hrel;have hsz:w.heap.size+1+1+1<wr.heap.size:=hm.lt;have HX:=hO hx;have HY:=hO hy;have HM:=hO hm;have HZ:=hO hz;have HB:=hO hbel;by_cases hlt:k<256
  ·have HS:=hO (zdH 2 x y k hlt)
   clear hm hz hbel;obtain ⟨l0,c0,c1,c2,c3,f0,f1,f2,f3⟩:=hx;obtain ⟨l1,d0,d1,d2,d3,g0,g1,g2,g3⟩:=hy;have HR:Hid (bW wr wr):=bR _ _;have hk0:(0:Int)<=(k:Int):=by omega
   have hk1:(k:Int)<=255:=by omega
   cases hxb:zh7 x k <;> cases hyb:zh7 y k
   ·have HE:Hid (zaS 2 x y (k+1)=zaS 2 x y k):=(by have h:=HS.out;rw [hxb,hyb,iN (by decide)] at h;exact h)
    clear HS;go_wp2
    go_region_held3 (fun w'=>w'.cell? ⟨w.heap.size,0,none⟩=some (.int .u64 (wd x 0))/\w'.cell? ⟨w.heap.size,1,none⟩=some (.int .u64 (wd x 1))/\w'.cell? ⟨w.heap.size,2,none⟩=some (.int .u64 (wd x 2))/\w'.cell? ⟨w.heap.size,3,none⟩=some (.int .u64 (wd x 3))/\w'.cell? ⟨w.heap.size+1,0,none⟩=some (.int .u64 (wd y 0))/\w'.cell? ⟨w.heap.size+1,1,none⟩=some (.int .u64 (wd y 1))/\w'.cell? ⟨w.heap.size+1,2,none⟩=some (.int .u64 (wd y 2))/\w'.cell? ⟨w.heap.size+1,3,none⟩=some (.int .u64 (wd y 3))) (first | go_keep | (go_split_ands;refine ⟨?_,?_,?_,?_,?_,?_,?_,?_⟩ <;> (rw [hb.cell (by simp;omega)];first | assumption | simp [*]))) ((go_at_call 119;refine (zbn _ _ _).mono ?_;rintro e w1 ⟨rfl,hb⟩;have hz1:=hb.size;(try simp at hz1);replace HR:Hid (bW wr w1):=(by first | exact HR.out.trans (hb.mono (by omega)) | exact HR.out.drew.trans (hb.mono (by simp)))))
    clear c0 c1 c2 c3 f0 f1 f2 f3 d0 d1 d2 d3 g0 g1 g2 g3;have hM1:=HM.below HR (by omega);have hX1:=hO (HX.below HR (by omega));have hY1:=hO (HY.below HR (by omega));have hZ1:=hO (HZ.below HR (by omega));have hB1:=hO (HB.trans (HR.mono (by omega)));clear HM HX HY HZ HB;generalize zaS 2 x y k=mm at *;have HM1:=hO hM1;clear hM1;go_wp2
    go_roundw
    case rel=>exact ⟨k+1,by omega,by go_num,hX1.out,hY1.out,(by rw [HE.out];exact HM1.out),⟨z,hZ1.out⟩,hB1.out⟩
    case measure=>simp [intOf];omega
   ·have HE:Hid (zaS 2 x y (k+1)=zaS 2 x y k):=(by have h:=HS.out;rw [hxb,hyb,iN (by decide)] at h;exact h)
    clear HS;go_wp2
    go_region_held3 (fun w'=>w'.cell? ⟨w.heap.size,0,none⟩=some (.int .u64 (wd x 0))/\w'.cell? ⟨w.heap.size,1,none⟩=some (.int .u64 (wd x 1))/\w'.cell? ⟨w.heap.size,2,none⟩=some (.int .u64 (wd x 2))/\w'.cell? ⟨w.heap.size,3,none⟩=some (.int .u64 (wd x 3))/\w'.cell? ⟨w.heap.size+1,0,none⟩=some (.int .u64 (wd y 0))/\w'.cell? ⟨w.heap.size+1,1,none⟩=some (.int .u64 (wd y 1))/\w'.cell? ⟨w.heap.size+1,2,none⟩=some (.int .u64 (wd y 2))/\w'.cell? ⟨w.heap.size+1,3,none⟩=some (.int .u64 (wd y 3))) (first | go_keep | (go_split_ands;refine ⟨?_,?_,?_,?_,?_,?_,?_,?_⟩ <;> (rw [hb.cell (by simp;omega)];first | assumption | simp [*]))) ((go_at_call 119;refine (zbn _ _ _).mono ?_;rintro e w1 ⟨rfl,hb⟩;have hz1:=hb.size;(try simp at hz1);replace HR:Hid (bW wr w1):=(by first | exact HR.out.trans (hb.mono (by omega)) | exact HR.out.drew.trans (hb.mono (by simp)))))
    clear c0 c1 c2 c3 f0 f1 f2 f3 d0 d1 d2 d3 g0 g1 g2 g3;have hM1:=HM.below HR (by omega);have hX1:=hO (HX.below HR (by omega));have hY1:=hO (HY.below HR (by omega));have hZ1:=hO (HZ.below HR (by omega));have hB1:=hO (HB.trans (HR.mono (by omega)));clear HM HX HY HZ HB;generalize zaS 2 x y k=mm at *;have HM1:=hO hM1;clear hM1;go_wp2
    go_roundw
    case rel=>exact ⟨k+1,by omega,by go_num,hX1.out,hY1.out,(by rw [HE.out];exact HM1.out),⟨z,hZ1.out⟩,hB1.out⟩
    case measure=>simp [intOf];omega
   ·have HE:Hid (zaS 2 x y (k+1)=zaS 2 x y k ||| bt k):=(by have h:=HS.out;rw [hxb,hyb,iP (by decide)] at h;exact h)
    clear HS;go_wp2
    go_region_held3 (fun w'=>w'.cell? ⟨w.heap.size,0,none⟩=some (.int .u64 (wd x 0))/\w'.cell? ⟨w.heap.size,1,none⟩=some (.int .u64 (wd x 1))/\w'.cell? ⟨w.heap.size,2,none⟩=some (.int .u64 (wd x 2))/\w'.cell? ⟨w.heap.size,3,none⟩=some (.int .u64 (wd x 3))/\w'.cell? ⟨w.heap.size+1,0,none⟩=some (.int .u64 (wd y 0))/\w'.cell? ⟨w.heap.size+1,1,none⟩=some (.int .u64 (wd y 1))/\w'.cell? ⟨w.heap.size+1,2,none⟩=some (.int .u64 (wd y 2))/\w'.cell? ⟨w.heap.size+1,3,none⟩=some (.int .u64 (wd y 3))) (first | go_keep | (go_split_ands;refine ⟨?_,?_,?_,?_,?_,?_,?_,?_⟩ <;> (rw [hb.cell (by simp;omega)];first | assumption | simp [*]))) ((go_at_call 119;refine (zbn _ _ _).mono ?_;rintro e w1 ⟨rfl,hb⟩;have hz1:=hb.size;(try simp at hz1);replace HR:Hid (bW wr w1):=(by first | exact HR.out.trans (hb.mono (by omega)) | exact HR.out.drew.trans (hb.mono (by simp)))))
    clear c0 c1 c2 c3 f0 f1 f2 f3 d0 d1 d2 d3 g0 g1 g2 g3;have hM1:=HM.below HR (by omega);have hX1:=hO (HX.below HR (by omega));have hY1:=hO (HY.below HR (by omega));have hZ1:=hO (HZ.below HR (by omega));have hB1:=hO (HB.trans (HR.mono (by omega)));clear HM HX HY HZ HB;generalize zaS 2 x y k=mm at *;have HM1:=hO hM1;obtain ⟨l5,c0,c1,c2,c3,f0,f1,f2,f3⟩:=hM1;go_wp2_with fail;refine (zby mm k _ (by omega) (by omega)).mono ?_;rintro e w2 ⟨rfl,hb2⟩;clear c0 c1 c2 c3 f0 f1 f2 f3;obtain ⟨l5,c0,c1,c2,c3,f0,f1,f2,f3⟩:=HM1.below hb2 l5;go_wp2
    go_roundw
    case rel =>
     refine ⟨k+1,by omega,by go_num,(hX1.out.below hb2 (by omega)).put_other (by omega) _,(hY1.out.below hb2 (by omega)).put_other (by omega) _,?_,⟨z,(hZ1.out.below hb2 (by omega)).put_other (by omega) _⟩,?_⟩
     ·rw [HE.out];exact (HM1.below hb2 (by omega)).put _
     ·exact ((((hB1.out.trans (hb2.mono (by omega))).setCell (by simp;omega) _).setCell (by simp;omega) _).setCell (by simp;omega) _).setCell (by simp;omega) _
    case measure=>simp [intOf];omega
   ·have HE:Hid (zaS 2 x y (k+1)=zaS 2 x y k):=(by have h:=HS.out;rw [hxb,hyb,iN (by decide)] at h;exact h)
    clear HS;go_wp2
    go_region_held3 (fun w'=>w'.cell? ⟨w.heap.size,0,none⟩=some (.int .u64 (wd x 0))/\w'.cell? ⟨w.heap.size,1,none⟩=some (.int .u64 (wd x 1))/\w'.cell? ⟨w.heap.size,2,none⟩=some (.int .u64 (wd x 2))/\w'.cell? ⟨w.heap.size,3,none⟩=some (.int .u64 (wd x 3))/\w'.cell? ⟨w.heap.size+1,0,none⟩=some (.int .u64 (wd y 0))/\w'.cell? ⟨w.heap.size+1,1,none⟩=some (.int .u64 (wd y 1))/\w'.cell? ⟨w.heap.size+1,2,none⟩=some (.int .u64 (wd y 2))/\w'.cell? ⟨w.heap.size+1,3,none⟩=some (.int .u64 (wd y 3))) (first | go_keep | (go_split_ands;refine ⟨?_,?_,?_,?_,?_,?_,?_,?_⟩ <;> (rw [hb.cell (by simp;omega)];first | assumption | simp [*]))) ((go_at_call 119;refine (zbn _ _ _).mono ?_;rintro e w1 ⟨rfl,hb⟩;have hz1:=hb.size;(try simp at hz1);replace HR:Hid (bW wr w1):=(by first | exact HR.out.trans (hb.mono (by omega)) | exact HR.out.drew.trans (hb.mono (by simp)))))
    clear c0 c1 c2 c3 f0 f1 f2 f3 d0 d1 d2 d3 g0 g1 g2 g3;have hM1:=HM.below HR (by omega);have hX1:=hO (HX.below HR (by omega));have hY1:=hO (HY.below HR (by omega));have hZ1:=hO (HZ.below HR (by omega));have hB1:=hO (HB.trans (HR.mono (by omega)));clear HM HX HY HZ HB;generalize zaS 2 x y k=mm at *;have HM1:=hO hM1;clear hM1;go_wp2
    go_roundw
    case rel=>exact ⟨k+1,by omega,by go_num,hX1.out,hY1.out,(by rw [HE.out];exact HM1.out),⟨z,hZ1.out⟩,hB1.out⟩
    case measure=>simp [intOf];omega
  ·have hke:k=256:=by omega
   subst hke;clear hx hy hbel;have HQ:Hid (zaS 2 x y 256=ziW 2 x y):=rfl;generalize zaS 2 x y 256=mm at *;obtain ⟨l0,c0,c1,c2,c3,f0,f1,f2,f3⟩:=hm;obtain ⟨l1,d0,d1,d2,d3,g0,g1,g2,g3⟩:=hz;go_wp2
   rw [<-HQ.out];refine bodyPost_ret (v:=sv mm) (by simp [results,Tryz.results94,go_sem, *]) rfl ⟨rfl,?_⟩;exact (((HB.setCell (by simp;omega) _).setCell (by simp;omega) _).setCell (by simp;omega) _).setCell (by simp;omega) _
theorem zlx (x y:BitVec 256) (w:World) :
  Cl 94 #[.int .i64 3,sv x,sv y] w (rB w (sv (ziW 3 x y))):=by
 go_enter Tryz.func94,Tryz.ntmps94;go_wp2
 go_loopw [8] (fun t wr=>∃k:Nat,k<=256/\t=.int .i64 k/\Holds wr w.heap.size x/\Holds wr (w.heap.size+1) y/\Holds wr (w.heap.size+1+1+1) (zaS 3 x y k)/\(∃z,Holds wr (w.heap.size+1+1) z)/\bW w wr) (fun t _=>256 - (intOf t).toNat)
 case atStart =>
  exact ⟨0,by omega,rfl,zdI w x y,zdJ w x y,zdL w x y,⟨0#256,zdK w x y⟩,zdM w x y⟩
 case round =>
  obtain ⟨k,hk,rfl,hx,hy,hm,⟨z,hz⟩,hbel⟩:=hrel;have hsz:w.heap.size+1+1+1<wr.heap.size:=hm.lt;have HX:=hO hx;have HY:=hO hy;have HM:=hO hm;have HZ:=hO hz;have HB:=hO hbel;by_cases hlt:k<256
  ·have HS:=hO (zdH 3 x y k hlt)
   clear hm hz hbel;obtain ⟨l0,c0,c1,c2,c3,f0,f1,f2,f3⟩:=hx;obtain ⟨l1,d0,d1,d2,d3,g0,g1,g2,g3⟩:=hy;have HR:Hid (bW wr wr):=bR _ _;have hk0:(0:Int)<=(k:Int):=by omega
   have hk1:(k:Int)<=255:=by omega
   cases hxb:zh7 x k <;> cases hyb:zh7 y k
   ·have HE:Hid (zaS 3 x y (k+1)=zaS 3 x y k ||| bt k):=(by have h:=HS.out;rw [hxb,hyb,iP (by decide)] at h;exact h)
    clear HS;go_wp2
    go_region_held3 (fun w'=>w'.cell? ⟨w.heap.size,0,none⟩=some (.int .u64 (wd x 0))/\w'.cell? ⟨w.heap.size,1,none⟩=some (.int .u64 (wd x 1))/\w'.cell? ⟨w.heap.size,2,none⟩=some (.int .u64 (wd x 2))/\w'.cell? ⟨w.heap.size,3,none⟩=some (.int .u64 (wd x 3))/\w'.cell? ⟨w.heap.size+1,0,none⟩=some (.int .u64 (wd y 0))/\w'.cell? ⟨w.heap.size+1,1,none⟩=some (.int .u64 (wd y 1))/\w'.cell? ⟨w.heap.size+1,2,none⟩=some (.int .u64 (wd y 2))/\w'.cell? ⟨w.heap.size+1,3,none⟩=some (.int .u64 (wd y 3))) (first | go_keep | (go_split_ands;refine ⟨?_,?_,?_,?_,?_,?_,?_,?_⟩ <;> (rw [hb.cell (by simp;omega)];first | assumption | simp [*]))) ((go_at_call 119;refine (zbn _ _ _).mono ?_;rintro e w1 ⟨rfl,hb⟩;have hz1:=hb.size;(try simp at hz1);replace HR:Hid (bW wr w1):=(by first | exact HR.out.trans (hb.mono (by omega)) | exact HR.out.drew.trans (hb.mono (by simp)))))
    clear c0 c1 c2 c3 f0 f1 f2 f3 d0 d1 d2 d3 g0 g1 g2 g3;have hM1:=HM.below HR (by omega);have hX1:=hO (HX.below HR (by omega));have hY1:=hO (HY.below HR (by omega));have hZ1:=hO (HZ.below HR (by omega));have hB1:=hO (HB.trans (HR.mono (by omega)));clear HM HX HY HZ HB;generalize zaS 3 x y k=mm at *;have HM1:=hO hM1;obtain ⟨l5,c0,c1,c2,c3,f0,f1,f2,f3⟩:=hM1;go_wp2_with fail;refine (zby mm k _ (by omega) (by omega)).mono ?_;rintro e w2 ⟨rfl,hb2⟩;clear c0 c1 c2 c3 f0 f1 f2 f3;obtain ⟨l5,c0,c1,c2,c3,f0,f1,f2,f3⟩:=HM1.below hb2 l5;go_wp2
    go_roundw
    case rel =>
     refine ⟨k+1,by omega,by go_num,(hX1.out.below hb2 (by omega)).put_other (by omega) _,(hY1.out.below hb2 (by omega)).put_other (by omega) _,?_,⟨z,(hZ1.out.below hb2 (by omega)).put_other (by omega) _⟩,?_⟩
     ·rw [HE.out];exact (HM1.below hb2 (by omega)).put _
     ·exact ((((hB1.out.trans (hb2.mono (by omega))).setCell (by simp;omega) _).setCell (by simp;omega) _).setCell (by simp;omega) _).setCell (by simp;omega) _
    case measure=>simp [intOf];omega
   ·have HE:Hid (zaS 3 x y (k+1)=zaS 3 x y k ||| bt k):=(by have h:=HS.out;rw [hxb,hyb,iP (by decide)] at h;exact h)
    clear HS;go_wp2
    go_region_held3 (fun w'=>w'.cell? ⟨w.heap.size,0,none⟩=some (.int .u64 (wd x 0))/\w'.cell? ⟨w.heap.size,1,none⟩=some (.int .u64 (wd x 1))/\w'.cell? ⟨w.heap.size,2,none⟩=some (.int .u64 (wd x 2))/\w'.cell? ⟨w.heap.size,3,none⟩=some (.int .u64 (wd x 3))/\w'.cell? ⟨w.heap.size+1,0,none⟩=some (.int .u64 (wd y 0))/\w'.cell? ⟨w.heap.size+1,1,none⟩=some (.int .u64 (wd y 1))/\w'.cell? ⟨w.heap.size+1,2,none⟩=some (.int .u64 (wd y 2))/\w'.cell? ⟨w.heap.size+1,3,none⟩=some (.int .u64 (wd y 3))) (first | go_keep | (go_split_ands;refine ⟨?_,?_,?_,?_,?_,?_,?_,?_⟩ <;> (rw [hb.cell (by simp;omega)];first | assumption | simp [*]))) ((go_at_call 119;refine (zbn _ _ _).mono ?_;rintro e w1 ⟨rfl,hb⟩;have hz1:=hb.size;(try simp at hz1);replace HR:Hid (bW wr w1):=(by first | exact HR.out.trans (hb.mono (by omega)) | exact HR.out.drew.trans (hb.mono (by simp)))))
    clear c0 c1 c2 c3 f0 f1 f2 f3 d0 d1 d2 d3 g0 g1 g2 g3;have hM1:=HM.below HR (by omega);have hX1:=hO (HX.below HR (by omega));have hY1:=hO (HY.below HR (by omega));have hZ1:=hO (HZ.below HR (by omega));have hB1:=hO (HB.trans (HR.mono (by omega)));clear HM HX HY HZ HB;generalize zaS 3 x y k=mm at *;have HM1:=hO hM1;obtain ⟨l5,c0,c1,c2,c3,f0,f1,f2,f3⟩:=hM1;go_wp2_with fail;refine (zby mm k _ (by omega) (by omega)).mono ?_;rintro e w2 ⟨rfl,hb2⟩;clear c0 c1 c2 c3 f0 f1 f2 f3;obtain ⟨l5,c0,c1,c2,c3,f0,f1,f2,f3⟩:=HM1.below hb2 l5;go_wp2
    go_roundw
    case rel =>
     refine ⟨k+1,by omega,by go_num,(hX1.out.below hb2 (by omega)).put_other (by omega) _,(hY1.out.below hb2 (by omega)).put_other (by omega) _,?_,⟨z,(hZ1.out.below hb2 (by omega)).put_other (by omega) _⟩,?_⟩
     ·rw [HE.out];exact (HM1.below hb2 (by omega)).put _
     ·exact ((((hB1.out.trans (hb2.mono (by omega))).setCell (by simp;omega) _).setCell (by simp;omega) _).setCell (by simp;omega) _).setCell (by simp;omega) _
    case measure=>simp [intOf];omega
   ·have HE:Hid (zaS 3 x y (k+1)=zaS 3 x y k):=(by have h:=HS.out;rw [hxb,hyb,iN (by decide)] at h;exact h)
    clear HS;go_wp2
    go_region_held3 (fun w'=>w'.cell? ⟨w.heap.size,0,none⟩=some (.int .u64 (wd x 0))/\w'.cell? ⟨w.heap.size,1,none⟩=some (.int .u64 (wd x 1))/\w'.cell? ⟨w.heap.size,2,none⟩=some (.int .u64 (wd x 2))/\w'.cell? ⟨w.heap.size,3,none⟩=some (.int .u64 (wd x 3))/\w'.cell? ⟨w.heap.size+1,0,none⟩=some (.int .u64 (wd y 0))/\w'.cell? ⟨w.heap.size+1,1,none⟩=some (.int .u64 (wd y 1))/\w'.cell? ⟨w.heap.size+1,2,none⟩=some (.int .u64 (wd y 2))/\w'.cell? ⟨w.heap.size+1,3,none⟩=some (.int .u64 (wd y 3))) (first | go_keep | (go_split_ands;refine ⟨?_,?_,?_,?_,?_,?_,?_,?_⟩ <;> (rw [hb.cell (by simp;omega)];first | assumption | simp [*]))) ((go_at_call 119;refine (zbn _ _ _).mono ?_;rintro e w1 ⟨rfl,hb⟩;have hz1:=hb.size;(try simp at hz1);replace HR:Hid (bW wr w1):=(by first | exact HR.out.trans (hb.mono (by omega)) | exact HR.out.drew.trans (hb.mono (by simp)))))
    clear c0 c1 c2 c3 f0 f1 f2 f3 d0 d1 d2 d3 g0 g1 g2 g3;have hM1:=HM.below HR (by omega);have hX1:=hO (HX.below HR (by omega));have hY1:=hO (HY.below HR (by omega));have hZ1:=hO (HZ.below HR (by omega));have hB1:=hO (HB.trans (HR.mono (by omega)));clear HM HX HY HZ HB;generalize zaS 3 x y k=mm at *;have HM1:=hO hM1;clear hM1;go_wp2
    go_roundw
    case rel=>exact ⟨k+1,by omega,by go_num,hX1.out,hY1.out,(by rw [HE.out];exact HM1.out),⟨z,hZ1.out⟩,hB1.out⟩
    case measure=>simp [intOf];omega
   ·have HE:Hid (zaS 3 x y (k+1)=zaS 3 x y k):=(by have h:=HS.out;rw [hxb,hyb,iN (by decide)] at h;exact h)
    clear HS;go_wp2
    go_region_held3 (fun w'=>w'.cell? ⟨w.heap.size,0,none⟩=some (.int .u64 (wd x 0))/\w'.cell? ⟨w.heap.size,1,none⟩=some (.int .u64 (wd x 1))/\w'.cell? ⟨w.heap.size,2,none⟩=some (.int .u64 (wd x 2))/\w'.cell? ⟨w.heap.size,3,none⟩=some (.int .u64 (wd x 3))/\w'.cell? ⟨w.heap.size+1,0,none⟩=some (.int .u64 (wd y 0))/\w'.cell? ⟨w.heap.size+1,1,none⟩=some (.int .u64 (wd y 1))/\w'.cell? ⟨w.heap.size+1,2,none⟩=some (.int .u64 (wd y 2))/\w'.cell? ⟨w.heap.size+1,3,none⟩=some (.int .u64 (wd y 3))) (first | go_keep | (go_split_ands;refine ⟨?_,?_,?_,?_,?_,?_,?_,?_⟩ <;> (rw [hb.cell (by simp;omega)];first | assumption | simp [*]))) ((go_at_call 119;refine (zbn _ _ _).mono ?_;rintro e w1 ⟨rfl,hb⟩;have hz1:=hb.size;(try simp at hz1);replace HR:Hid (bW wr w1):=(by first | exact HR.out.trans (hb.mono (by omega)) | exact HR.out.drew.trans (hb.mono (by simp)))))
    clear c0 c1 c2 c3 f0 f1 f2 f3 d0 d1 d2 d3 g0 g1 g2 g3;have hM1:=HM.below HR (by omega);have hX1:=hO (HX.below HR (by omega));have hY1:=hO (HY.below HR (by omega));have hZ1:=hO (HZ.below HR (by omega));have hB1:=hO (HB.trans (HR.mono (by omega)));clear HM HX HY HZ HB;generalize zaS 3 x y k=mm at *;have HM1:=hO hM1;clear hM1;go_wp2
    go_roundw
    case rel=>exact ⟨k+1,by omega,by go_num,hX1.out,hY1.out,(by rw [HE.out];exact HM1.out),⟨z,hZ1.out⟩,hB1.out⟩
    case measure=>simp [intOf];omega
  ·have hke:k=256:=by omega
   subst hke;clear hx hy hbel;have HQ:Hid (zaS 3 x y 256=ziW 3 x y):=rfl;generalize zaS 3 x y 256=mm at *;obtain ⟨l0,c0,c1,c2,c3,f0,f1,f2,f3⟩:=hm;obtain ⟨l1,d0,d1,d2,d3,g0,g1,g2,g3⟩:=hz;go_wp2
   rw [<-HQ.out];refine bodyPost_ret (v:=sv mm) (by simp [results,Tryz.results94,go_sem, *]) rfl ⟨rfl,?_⟩;exact (((HB.setCell (by simp;omega) _).setCell (by simp;omega) _).setCell (by simp;omega) _).setCell (by simp;omega) _
theorem zhu (x:BitVec 256) (i:Nat) (hi:i<4):bits .xor .u64 IntKind.u64.max (wd x i)=wd (~~~ x) i:=by
 have hm:IntKind.u64.max=18446744073709551615:=rfl;rw [hm,u64_xor _ _ (by omega) (by omega) (zfo _ _) (zgA _ _)];refine zbx _ _ _ (Int.natCast_nonneg _) fun j=>?_
 rw [Int.toNat_natCast,Nat.testBit_xor,zbH,BitVec.getLsbD_not];have e:(18446744073709551615:Int).toNat=2 ^ 64 - 1:=rfl;rw [e,Nat.testBit_two_pow_sub_one];by_cases h:j<64
 ·have:64 * i+j<256:=by omega
  simp [h,this]
 ·simp [h]
theorem zgD (x:BitVec 256) (w:World) :
  Cl 127 #[sv x] w (rB w (sv (~~~ x))):=by
 have hsg:IntKind.u64.signed=false:=rfl;go_enter Tryz.func127,Tryz.ntmps127;go_wp2
 refine wp_loop_rounds 5 ?_
 iterate 5
  rw [rounds_succ];go_wp2
 exact bodyPost_ret (v:=.agg #[.int .u64 (bits BinOp.xor IntKind.u64 IntKind.u64.max (wd x 0)),.int .u64 (bits BinOp.xor IntKind.u64 IntKind.u64.max (wd x 1)),.int .u64 (bits BinOp.xor IntKind.u64 IntKind.u64.max (wd x 2)),.int .u64 (bits BinOp.xor IntKind.u64 IntKind.u64.max (wd x 3))]) (by simp [results,Tryz.results127,go_sem]) rfl ⟨zcG (zhu x 0 (by omega)) (zhu x 1 (by omega)) (zhu x 2 (by omega)) (zhu x 3 (by omega)),(((bR _ _).alloc (nL _) _).alloc (by simp) _)⟩
theorem ziY (x y:BitVec 256) (w:World) :
  Cl 141 #[sv x,sv y] w (rB w (sv (x ||| y))):=by
 go_enter Tryz.func141,Tryz.ntmps141;go_wp2
 refine wp_loop_rounds 5 ?_
 iterate 4
  rw [rounds_succ];go_wp2
  go_region
  go_wp2
 rw [rounds_succ];go_wp2
 exact bodyPost_ret (v:=.agg #[.int .u64 (bits BinOp.or IntKind.u64 (wd x 0) (wd y 0)),.int .u64 (bits BinOp.or IntKind.u64 (wd x 1) (wd y 1)),.int .u64 (bits BinOp.or IntKind.u64 (wd x 2) (wd y 2)),.int .u64 (bits BinOp.or IntKind.u64 (wd x 3) (wd y 3))]) (by simp [results,Tryz.results141,go_sem]) rfl ⟨zcG (zh5 x y 0) (zh5 x y 1) (zh5 x y 2) (zh5 x y 3),(Below.drew (Below.drew (Below.drew (Below.drew ((((bR _ _).alloc (nL _) _).alloc (by simp) _).alloc (by simp;omega) _)))))⟩
theorem zly (x y:BitVec 256) (w:World) :
  Cl 163 #[sv x,sv y] w (rB w (sv (x &&& y))):=by
 go_enter Tryz.func163,Tryz.ntmps163;go_wp2
 refine wp_loop_rounds 5 ?_
 iterate 4
  rw [rounds_succ];go_wp2
  go_region
  go_wp2
 rw [rounds_succ];go_wp2
 exact bodyPost_ret (v:=.agg #[.int .u64 (bits BinOp.and IntKind.u64 (wd x 0) (wd y 0)),.int .u64 (bits BinOp.and IntKind.u64 (wd x 1) (wd y 1)),.int .u64 (bits BinOp.and IntKind.u64 (wd x 2) (wd y 2)),.int .u64 (bits BinOp.and IntKind.u64 (wd x 3) (wd y 3))]) (by simp [results,Tryz.results163,go_sem]) rfl ⟨zcG (zhr x y 0) (zhr x y 1) (zhr x y 2) (zhr x y 3),(Below.drew (Below.drew (Below.drew (Below.drew ((((bR _ _).alloc (nL _) _).alloc (by simp) _).alloc (by simp;omega) _)))))⟩
theorem znG (w:World) (a:Obj):(w.alloc a).heap.size=w.heap.size+1:=by simp
theorem znH (w:World) (a b:Obj):((w.alloc a).alloc b).heap.size=w.heap.size+1+1:=by simp
theorem zlz (w:World) (a b c:Obj):(((w.alloc a).alloc b).alloc c).heap.size=w.heap.size+1+1+1:=by simp
theorem ziZ (w:World) (a b:Obj):Holds (((w.alloc a).alloc b).alloc z4) (w.heap.size+1+1) 0#256:=by
 have h:=Holds.zero ((w.alloc a).alloc b);rw [znH] at h;exact h
theorem zcf (w:World) (a b c:Obj):bW w (((w.alloc a).alloc b).alloc c) :=
 (((bR _ _).alloc (nL _) _).alloc (by simp) _).alloc (by simp;omega) _
theorem below2 (w:World) (a b:Obj):bW w ((w.alloc a).alloc b) :=
 ((bR _ _).alloc (nL _) _).alloc (by simp) _
theorem zas (x y:BitVec 256) (w:World) :
  Cl 67 #[sv x,sv y] w (rB w (sv (x ||| y))):=by
 have hsz:=zlz w (c4 x) (c4 y) z4;have HH:=hO (ziZ w (c4 x) (c4 y));have HB:=hO (zcf w (c4 x) (c4 y) z4);go_enter Tryz.func67,Tryz.ntmps67;go_wp2_with fail;refine (zlv x y _).mono ?_;rintro e w1 ⟨rfl,hb⟩;have hl:=hb.size;have HR:=hO (HB.trans (hb.mono (by rw [hsz];omega)));obtain ⟨l0,c0,c1,c2,c3,f0,f1,f2,f3⟩:=HH.below hb (by rw [hsz];omega);rw [zh8];generalize hr:x ||| y=r;have Hr:=hO hr;clear hr;clear hsz hl;go_wp2
 exact bodyPost_ret (v:=sv r) (by simp [results,Tryz.results67,go_sem, *]) rfl ⟨by rw [Hr.out],(((HR.setCell (by simp;omega) _).setCell (by simp;omega) _).setCell (by simp;omega) _).setCell (by simp;omega) _⟩
theorem zi0 (x y:BitVec 256) (w:World) :
  Cl 93 #[sv x,sv y] w (rB w (sv (x &&& ~~~ y))):=by
 have hsz:=zlz w (c4 x) (c4 y) z4;have HH:=hO (ziZ w (c4 x) (c4 y));have HB:=hO (zcf w (c4 x) (c4 y) z4);go_enter Tryz.func93,Tryz.ntmps93;go_wp2_with fail;refine (zlw x y _).mono ?_;rintro e w1 ⟨rfl,hb⟩;have hl:=hb.size;have HR:=hO (HB.trans (hb.mono (by rw [hsz];omega)));obtain ⟨l0,c0,c1,c2,c3,f0,f1,f2,f3⟩:=HH.below hb (by rw [hsz];omega);rw [ziX];generalize hr:x &&& ~~~ y=r;have Hr:=hO hr;clear hr;clear hsz hl;go_wp2
 exact bodyPost_ret (v:=sv r) (by simp [results,Tryz.results93,go_sem, *]) rfl ⟨by rw [Hr.out],(((HR.setCell (by simp;omega) _).setCell (by simp;omega) _).setCell (by simp;omega) _).setCell (by simp;omega) _⟩
theorem zhv (x:BitVec 256) (w:World) :
  Cl 70 #[sv x] w (rB w (sv (~~~ x))):=by
 have hsz:=znH w (c4 x) z4;have HH:=hO (Holds.zero' w (c4 x));have HB:=hO (below2 w (c4 x) z4);go_enter Tryz.func70,Tryz.ntmps70;go_wp2_with fail;refine (zlx x x _).mono ?_;rintro e w1 ⟨rfl,hb⟩;have hl:=hb.size;have HR:=hO (HB.trans (hb.mono (by rw [hsz];omega)));obtain ⟨l0,c0,c1,c2,c3,f0,f1,f2,f3⟩:=HH.below hb (by rw [hsz];omega);rw [zlu];generalize hr : ~~~ x=r;have Hr:=hO hr;clear hr;clear hsz hl;go_wp2
 exact bodyPost_ret (v:=sv r) (by simp [results,Tryz.results70,go_sem, *]) rfl ⟨by rw [Hr.out],(((HR.setCell (by simp) _).setCell (by simp) _).setCell (by simp) _).setCell (by simp) _⟩
theorem zlA (x y:BitVec 256) (w:World) :
  Cl 146 #[sv x,sv y] w (rB w (sv (x &&& ~~~ y))):=by
 have hsz:=zlz w (c4 x) (c4 y) z4;have HX:=hO (((Holds.new w x).alloc (c4 y)).alloc z4);have HH:=hO (ziZ w (c4 x) (c4 y));have HB:=hO (zcf w (c4 x) (c4 y) z4);have HR:Hid (Below (w.heap.size+1+1+1) (((w.alloc (c4 x)).alloc (c4 y)).alloc z4) (((w.alloc (c4 x)).alloc (c4 y)).alloc z4)):=bR _ _;go_enter Tryz.func146,Tryz.ntmps146;go_wp2
 go_region_with (first | (go_at_call 127;refine (zgD _ _).mono ?_;rintro e w1 ⟨rfl,hb⟩;have hz1:=hb.size;(try simp at hz1);replace HR:Hid (Below (w.heap.size+1+1+1) (((w.alloc (c4 x)).alloc (c4 y)).alloc z4) w1):=(by first | exact HR.out.trans (hb.mono (by omega)) | exact HR.out.drew.trans (hb.mono (by simp)));obtain ⟨l5,p0,p1,p2,p3,q0,q1,q2,q3⟩:=HH.out.below HR.out (by omega);obtain ⟨l0,c0,c1,c2,c3,f0,f1,f2,f3⟩:=HX.out.below HR.out (by omega)) | (go_at_call 163;refine (zly _ _ _).mono ?_;rintro e w1 ⟨rfl,hb⟩;have hz1:=hb.size;(try simp at hz1);replace HR:Hid (Below (w.heap.size+1+1+1) (((w.alloc (c4 x)).alloc (c4 y)).alloc z4) w1):=(by first | exact HR.out.trans (hb.mono (by omega)) | exact HR.out.drew.trans (hb.mono (by simp)));obtain ⟨l5,p0,p1,p2,p3,q0,q1,q2,q3⟩:=HH.out.below HR.out (by omega);obtain ⟨l0,c0,c1,c2,c3,f0,f1,f2,f3⟩:=HX.out.below HR.out (by omega)))
 all_goals
  go_wp2
  exact bodyPost_ret (v:=sv (x &&& ~~~ y)) (by simp [results,Tryz.results146,go_sem, *]) rfl ⟨rfl,((((HB.trans (HR.mono (by omega))).setCell (by simp;omega) _).setCell (by simp;omega) _).setCell (by simp;omega) _).setCell (by simp;omega) _⟩
open Go.RowKit Go.Shelf
attribute [local go_sem] Oper.semAt_some
theorem za7 {w:World} {base base' e size:Nat} {v:Value} {n:Nat} {xs:List Value} (h:w.ownsRow base e size v n xs) (hb:base'<=base):w.ownsRow base' e size v n xs:=by
 refine ⟨h.1,h.2.imp id ?_⟩;rintro ⟨g,cap,cur,h1,h2,h3⟩;exact ⟨g,cap,cur,h1,by omega,h3⟩
theorem zcY (x:BitVec 256) (lo hi:Int) (w:World) (h0:0<=lo) (hle:lo<=hi) (h1:hi<=255) :
  Cl 148 #[sv x,.int .i64 lo,.int .i64 hi] w (rB w (sv (x ||| spn lo hi))):=by
 go_enter Tryz.func148,Tryz.ntmps148;go_wp2
 go_loopw [7] (fun t wr=>∃b:Int,lo<=b/\b<=hi+1/\t=.int .i64 b/\Holds wr w.heap.size (x ||| spn lo (b - 1))/\(∃z,Holds wr (w.heap.size+1) z)/\bW w wr) (fun t _=>(hi+1 - intOf t).toNat)
 case atStart =>
  refine ⟨lo,by omega,by omega,rfl,?_,⟨0#256,Holds.zero' w _⟩,?_⟩
  ·rw [ziU lo h0 (by omega),BitVec.or_zero];exact (Holds.new w x).alloc _
  ·exact ((bR _ _).alloc (nL _) _).alloc (by simp) _
 case round =>
  obtain ⟨b,hb0,hb1,rfl,hx,⟨z,hz⟩,hbel⟩:=hrel;have hsz:w.heap.size+1<wr.heap.size:=hz.lt;by_cases hlt:b<=hi
  ·have HS:=hO (zht lo b h0 hb0 (by omega))
   generalize hy:x ||| spn lo (b - 1)=y at hx;have HY:=hO hy;clear hy;have HX:=hO hx;have HZ:=hO hz;have HB:=hO hbel;obtain ⟨l0,c0,c1,c2,c3,f0,f1,f2,f3⟩:=hx;clear hz hbel;go_wp2_with fail;refine (zfr y b _ (by omega) (by omega)).mono ?_;rintro e w1 ⟨rfl,hb⟩;obtain ⟨l0,c0,c1,c2,c3,f0,f1,f2,f3⟩:=HX.below hb l0;go_wp2
   go_roundw
   case rel =>
    refine ⟨b+1,by omega,by omega,rfl,?_,⟨z,?_⟩,?_⟩
    ·rw [show b+1 - 1=b from by omega,HS.out,<-BitVec.or_assoc,HY.out]
     exact (HX.below hb (by omega)).put _
    ·exact (HZ.below hb (by omega)).put_other (by omega) _
    ·exact ((((HB.trans (hb.mono (by omega))).setCell (nL _) _).setCell (nL _) _).setCell (nL _) _).setCell (nL _) _
   case measure=>simp [intOf];omega
  ·have hbe:b - 1=hi:=by omega
   rw [hbe] at hx;generalize hy:x ||| spn lo hi=y at hx;have HY:=hO hy;clear hy;have HZ:=hO hz;have HB:=hO hbel;obtain ⟨l0,c0,c1,c2,c3,f0,f1,f2,f3⟩:=hx;obtain ⟨l1,d0,d1,d2,d3,g0,g1,g2,g3⟩:=hz;clear hbel;go_wp2
   rw [HY.out];refine bodyPost_ret (v:=sv y) (by simp [results,Tryz.results148,go_sem, *]) rfl ⟨rfl,?_⟩;exact (((HB.setCell (by simp) _).setCell (by simp) _).setCell (by simp) _).setCell (by simp) _
end Go.Proofs.YtkihfkcmcdiajabGreatDoor
