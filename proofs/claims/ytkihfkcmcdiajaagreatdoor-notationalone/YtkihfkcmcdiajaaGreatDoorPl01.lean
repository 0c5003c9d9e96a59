/- DERIVED. Plain mathematics and walks, laid together (1). -/
import Derived.Shelf.Small.Utf8
import Derived.Shelf.Small.Strs
import Derived.Shelf.Strings.Search1
import Derived.Shelf.Strings.Prefix
import Derived.Test.YtkihfkcmcdiajaaGreatDoorProg
import Derived.WalkKit
import Derived.Test.YtkihfkcmcdiajaaGreatDoorRows
import Derived.WalkSpells
import Derived.WalkLawsBesides
import Derived.Deep.QuietTactic
import Derived.BigQuiet
import Derived.Deep.RegionHeld3
import Derived.Maps.AppendAt
import Derived.LoopN
import Derived.RangeFuncBox
set_option maxRecDepth 100000
set_option maxHeartbeats 8000000
namespace Go.Proofs.YtkihfkcmcdiajaaGreatDoor
open Go.RowKit
abbrev rB (W:Go.World) (v:Go.Value):Go.Ending->Go.World->Prop:=fun e W'=>e = .returned v/\Below W.heap.size W W'
abbrev rU (W:Go.World) (v:Go.Value):Go.Ending->Go.World->Prop:=fun e W'=>e = .returned v/\W' = W
abbrev Cl:=Go.Calls Tryz.prog
abbrev nL:=@Nat.le_refl
abbrev iN:=@if_neg
abbrev iP:=@if_pos
abbrev sA:=@World.size_alloc
abbrev lA:=@List.length_append
abbrev bR:=@Below.refl
abbrev bS:=@Below.heap_setCell
abbrev wI:=@IntKind.wrap_i64
abbrev dF:=@decide_eq_false
abbrev gE:=@List.getElem?_eq_getElem
abbrev nM:=@Nat.lt_of_lt_of_le
end Go.Proofs.YtkihfkcmcdiajaaGreatDoor
namespace Go.Proofs.YtkihfkcmcdiajaaGreatDoor
open Go.RowKit
theorem hO {p:Prop} (h:p):Hid p:=h
theorem bF {α:Type} [BEq α] [LawfulBEq α] {a b:α} (h:a≠b):(a==b)=false:=beq_eq_false_iff_ne.2 h
end Go.Proofs.YtkihfkcmcdiajaaGreatDoor
namespace Go.Proofs
open Go.Shelf
def Tryz.lays118_ren : Go.Shelf.Ren := ⟨fun | 118 => 205 | n => n, fun | 21 => 21 | 3 => 3 | 4 => 4 | n => n, fun | n => n⟩
theorem Tryz.lays118 : Go.Proofs.Lays.n118 Tryz.prog Tryz.lays118_ren := {
 mixed := by kernel_rfl
 f118 := Tryz.func205.trans (congrArg some (by kernel_rfl))
 t3 := Tryz.underlying3
 a3 := Tryz.isAgg3
 z3 := Tryz.sizeOf3
 v3 := Tryz.zeroValue3
 t4 := Tryz.underlying4
 a4 := Tryz.isAgg4
 z4 := Tryz.sizeOf4
 v4 := Tryz.zeroValue4
 t21 := Tryz.underlying21
 a21 := Tryz.isAgg21
 z21 := Tryz.sizeOf21
 v21 := Tryz.zeroValue21 }
theorem Tryz.utf8_RuneLen (r : Int) (w : World) :
  Calls Tryz.prog 205 #[.int .i32 r] w fun e w' => e = .returned (.int .i64 (Lib.runeLen r)) /\ w' = w := Any.utf8_RuneLen Tryz.lays118 r w
def Tryz.lays137_ren : Go.Shelf.Ren := ⟨fun | 137 => 144 | 217 => 158 | 266 => 176 | n => n, fun | 9 => 9 | 5 => 5 | 3 => 3 | n => n, fun | n => n⟩
theorem Tryz.lays137 : Go.Proofs.Lays.n137 Tryz.prog Tryz.lays137_ren := {
 mixed := by kernel_rfl
 f137 := Tryz.func144.trans (congrArg some (by kernel_rfl))
 f217 := Tryz.func158.trans (congrArg some (by kernel_rfl))
 f266 := Tryz.func176.trans (congrArg some (by kernel_rfl))
 t3 := Tryz.underlying3
 a3 := Tryz.isAgg3
 z3 := Tryz.sizeOf3
 v3 := Tryz.zeroValue3
 t5 := Tryz.underlying5
 a5 := Tryz.isAgg5
 z5 := Tryz.sizeOf5
 v5 := Tryz.zeroValue5
 t9 := Tryz.underlying9
 a9 := Tryz.isAgg9
 z9 := Tryz.sizeOf9
 v9 := Tryz.zeroValue9 }
open Go.RowKit in
theorem Tryz.strings_IndexByte (s : ByteArray) (c : Int) (w : World) :
  Calls Tryz.prog 144 #[.string s, .int .u8 c] w fun e w' => e = .returned (.int .i64 (Lib.indexByte s.data.toList c.toNat.toUInt8)) /\ w' = w := Any.strings_IndexByte Tryz.lays137 s c w
def Tryz.lays99_ren : Go.Shelf.Ren := ⟨fun | 99 => 100 | 206 => 125 | n => n, fun | 9 => 9 | 4 => 4 | 3 => 3 | n => n, fun | n => n⟩
theorem Tryz.lays99 : Go.Proofs.Lays.n99 Tryz.prog Tryz.lays99_ren := {
 mixed := by kernel_rfl
 f99 := Tryz.func100.trans (congrArg some (by kernel_rfl))
 f206 := Tryz.func125.trans (congrArg some (by kernel_rfl))
 t3 := Tryz.underlying3
 a3 := Tryz.isAgg3
 z3 := Tryz.sizeOf3
 v3 := Tryz.zeroValue3
 t4 := Tryz.underlying4
 a4 := Tryz.isAgg4
 z4 := Tryz.sizeOf4
 v4 := Tryz.zeroValue4
 t9 := Tryz.underlying9
 a9 := Tryz.isAgg9
 z9 := Tryz.sizeOf9
 v9 := Tryz.zeroValue9 }
open Go.RowKit Go.Lib in
theorem Tryz.strings_HasPrefix (s p : ByteArray) (w : World) :
  Calls Tryz.prog 100 #[.string s, .string p] w fun e w' => e = .returned (.bool (Lib.hasPrefix s.data.toList p.data.toList)) /\ w' = w := Any.strings_HasPrefix Tryz.lays99 s p w
end Go.Proofs
namespace Go.Proofs.YtkihfkcmcdiajaaGreatDoor
open Go.RowKit
def wd (x:BitVec 256) (i:Nat):Int:=((x.extractLsb' (64 * i) 64).toNat:Int)
def bt (b:Nat):BitVec 256:=1#256<<<b
theorem zfe (x:BitVec 256) (i:Nat):0<=wd x i:=by unfold wd;omega
theorem zgs (x:BitVec 256) (i:Nat):wd x i<18446744073709551616:=by
 unfold wd;have:=(x.extractLsb' (64 * i) 64).isLt;omega
theorem zk3 (x:BitVec 256) (i:Nat):(wd x i).toNat=(x.extractLsb' (64 * i) 64).toNat:=by unfold wd;omega
theorem zbG (x:BitVec 256) (i j:Nat):(wd x i).toNat.testBit j=(decide (j<64)&&x.getLsbD (64 * i+j)):=by
 rw [zk3,BitVec.testBit_toNat,BitVec.getLsbD_extractLsb']
theorem zbv (x:BitVec 256) (i:Nat) (n:Int) (h0:0<=n) (h:∀j,n.toNat.testBit j=(decide (j<64)&&x.getLsbD (64 * i+j))):n=wd x i:=by
 have:n.toNat=(wd x i).toNat:=Nat.eq_of_testBit_eq fun j=>by rw [h j,zbG]
 have:=zfe x i;omega
theorem zhR (x y:BitVec 256) (i:Nat):bits .or .u64 (wd x i) (wd y i)=wd (x ||| y) i:=by
 rw [u64_or _ _ (zfe _ _) (zgs _ _) (zfe _ _) (zgs _ _)];refine zbv _ _ _ (by omega) fun j=>?_
 rw [Int.toNat_natCast,Nat.testBit_or,zbG,zbG,BitVec.getLsbD_or]
 cases decide (j<64) <;> simp
theorem zhf (x y:BitVec 256) (i:Nat):bits .and .u64 (wd x i) (wd y i)=wd (x &&& y) i:=by
 rw [u64_and _ _ (zfe _ _) (zgs _ _) (zfe _ _) (zgs _ _)];refine zbv _ _ _ (by omega) fun j=>?_
 rw [Int.toNat_natCast,Nat.testBit_and,zbG,zbG,BitVec.getLsbD_and]
 cases decide (j<64) <;> simp
theorem zhg (b j:Nat) (hb:b<256):(bt b).getLsbD j=decide (j=b):=by
 unfold bt;rw [BitVec.getLsbD_shiftLeft];by_cases h:j=b
 ·subst h;simp [hb]
 ·by_cases h1:j<b
  ·simp [h1,h]
  ·by_cases h2:j<256
   ·have:j - b≠0:=by omega
    simp [h,h2,BitVec.getLsbD_one,this]
   ·simp [h,h2]
theorem zk4 (k:Nat) (h:k<64):IntKind.u64.wrap (2 ^ k)=((2 ^ k:Nat):Int):=by
 rw [IntKind.wrap_u64];have h1:2 ^ k<2 ^ 64:=Nat.pow_lt_pow_right (by omega) h;have h2:((2 ^ k:Nat):Int)=(2:Int) ^ k:=by simp
 rw [<-h2];generalize 2 ^ k=n at *;omega
theorem zhS (b i:Nat) (hb:b<256) (hi:b / 64=i):wd (bt b) i=((2 ^ (b%64):Nat):Int):=by
 refine (zbv _ _ _ (Int.natCast_nonneg _) fun j=>?_).symm;rw [Int.toNat_natCast,Nat.testBit_two_pow,zhg _ _ hb];by_cases h:b%64=j
 ·have:j<64:=by omega
  have h2:64 * i+j=b:=by omega
  simp [h,this,h2]
 ·by_cases h3:j<64
  ·have h2:¬64 * i+j=b:=by omega
   simp [h,h2]
  ·simp [h,h3]
theorem zgt (b i:Nat) (hb:b<256) (hi:b / 64≠i):wd (bt b) i=0:=by
 refine (zbv _ _ _ (by omega) fun j=>?_).symm;rw [zhg _ _ hb];by_cases h3:j<64
 ·have h2:¬64 * i+j=b:=by omega
  simp [h2]
 ·simp [h3]
theorem zfP (x:BitVec 256) (i:Nat):bits .or .u64 (wd x i) 0=wd x i:=by
 rw [u64_or _ _ (zfe _ _) (zgs _ _) (by omega) (by omega)];have:=zfe x i;simp;omega
theorem zfQ (x:BitVec 256) (b i:Nat) (hb:b<256) (hi:b / 64=i):bits .or .u64 (wd x i) (((2 ^ (b%64):Nat):Int))=wd (x ||| bt b) i:=by
 rw [<-zhS b i hb hi,zhR]
theorem zff (x:BitVec 256) (b i:Nat) (hb:b<256) (hi:b / 64≠i):wd (x ||| bt b) i=wd x i:=by
 rw [<-zhR,zgt b i hb hi,zfP]
theorem zm8 (x:BitVec 256) (b i:Nat) (hi:b / 64=i):(wd x i).toNat / 2 ^ (b%64)%2=(x.getLsbD b).toNat:=by
 have h:=zbG x i (b%64);have h2:64 * i+b%64=b:=by omega
 have h3:b%64<64:=by omega
 rw [h2] at h;simp only [h3,decide_true,Bool.true_and] at h;rw [<-h,Nat.testBit_eq_decide_div_mod_eq];have:=Nat.mod_two_eq_zero_or_one ((wd x i).toNat / 2 ^ (b%64))
 rcases this with e | e <;> simp [e]
def pw (n:Nat):Int:=((2 ^ (n%64):Nat):Int)
theorem pw_of (b:Int) (h0:0<=b):IntKind.u64.wrap (2 ^ (b%64).toNat)=pw b.toNat:=by
 rw [zk4 _ (by omega),show (b%64).toNat=b.toNat%64 from by omega];rfl
theorem zb7 (x:BitVec 256) (b:Int) (h0:0<=b) (h1:b<=255) (i:Nat) (hi:b / 64=(i:Int)) :
  bits .or .u64 (wd x i) (pw b.toNat)=wd (x ||| bt b.toNat) i/\∀j,j≠i->wd x j=wd (x ||| bt b.toNat) j :=
 ⟨zfQ x _ i (by omega) (by omega),fun j hj=>(zff x _ j (by omega) (by omega)).symm⟩
theorem zbk (b:Int) (h0:0<=b) (h1:b<=255):IntKind.i64.wrap (b.tdiv 64)=b / 64:=by
 rw [Int.tdiv_eq_ediv_of_nonneg h0,wI];omega
theorem zeW (b:Int) (w:World) :
  Calls Tryz.prog 206 #[.int .i64 b] w (rU w (.bool (decide (0<=b)&&decide (b<=255)))):=by
 by_cases h0:0<=b
 ·have hd:decide (0<=b)=true:=by simpa using h0
  go_enter Tryz.func206,Tryz.ntmps206;go_wp2
  go_ret
  exact ⟨by simp [h0],rfl⟩
 ·have hd:decide (0<=b)=false:=by simpa using h0
  go_enter Tryz.func206,Tryz.ntmps206;go_wp2
  go_ret
  exact ⟨by simp,rfl⟩
abbrev sv (x:BitVec 256):Value:=.agg #[.int .u64 (wd x 0),.int .u64 (wd x 1),.int .u64 (wd x 2),.int .u64 (wd x 3)]
theorem ziA {k:IntKind} {a b:Int} (h:a=b):Ending.returned (.int k a)=.returned (.int k b):=by rw [h]
theorem zfg (b:Int) (w:World) (h0:0<=b) (h1:b<=255) :
  Calls Tryz.prog 180 #[.int .i64 b] w (rU w (.int .u64 (pw b.toNat))):=by
 go_enter Tryz.func180,Tryz.ntmps180;go_wp2
 go_ret
 exact ⟨ziA (pw_of b h0),rfl⟩
theorem zcE {a b c d:Int} {y:BitVec 256} (h0:a=wd y 0) (h1:b=wd y 1) (h2:c=wd y 2) (h3:d=wd y 3):Ending.returned (.agg #[.int .u64 a,.int .u64 b,.int .u64 c,.int .u64 d])=.returned (sv y):=by
 rw [h0,h1,h2,h3]
theorem zfh (x:BitVec 256) (b:Int) (w:World) (h0:0<=b) (h1:b<=255) :
  Calls Tryz.prog 164 #[sv x,.int .i64 b] w (rB w (sv (x ||| bt b.toNat))):=by
 have hq:b / 64=0∨b / 64=1∨b / 64=2∨b / 64=3:=by omega
 rcases hq with hq | hq | hq | hq
 ·have hs:=hO (zb7 x b h0 h1 0 hq)
  have t1:IntKind.i64.wrap (b.tdiv 64)=0:=by rw [zbk b h0 h1];exact hq
  go_enter Tryz.func164,Tryz.ntmps164;go_wp2
  go_region_with ((go_at_call 180;refine (zfg _ _ (by omega) (by omega)).mono ?_;rintro e w' ⟨rfl,rfl⟩))
  all_goals
   go_wp2
   replace hs:=hs.out
   exact bodyPost_ret (v:=.agg #[.int .u64 (bits BinOp.or IntKind.u64 (wd x 0) (pw b.toNat)),.int .u64 (wd x 1),.int .u64 (wd x 2),.int .u64 (wd x 3)]) (by simp [results,Tryz.results164,go_sem]) rfl ⟨zcE hs.1 (hs.2 1 (by omega)) (hs.2 2 (by omega)) (hs.2 3 (by omega)),(((bR _ _).alloc (nL _) _).alloc (by simp) _).drew⟩
 ·have hs:=hO (zb7 x b h0 h1 1 hq)
  have t1:IntKind.i64.wrap (b.tdiv 64)=1:=by rw [zbk b h0 h1];exact hq
  go_enter Tryz.func164,Tryz.ntmps164;go_wp2
  go_region_with ((go_at_call 180;refine (zfg _ _ (by omega) (by omega)).mono ?_;rintro e w' ⟨rfl,rfl⟩))
  all_goals
   go_wp2
   replace hs:=hs.out
   exact bodyPost_ret (v:=.agg #[.int .u64 (wd x 0),.int .u64 (bits BinOp.or IntKind.u64 (wd x 1) (pw b.toNat)),.int .u64 (wd x 2),.int .u64 (wd x 3)]) (by simp [results,Tryz.results164,go_sem]) rfl ⟨zcE (hs.2 0 (by omega)) hs.1 (hs.2 2 (by omega)) (hs.2 3 (by omega)),(((bR _ _).alloc (nL _) _).alloc (by simp) _).drew⟩
 ·have hs:=hO (zb7 x b h0 h1 2 hq)
  have t1:IntKind.i64.wrap (b.tdiv 64)=2:=by rw [zbk b h0 h1];exact hq
  go_enter Tryz.func164,Tryz.ntmps164;go_wp2
  go_region_with ((go_at_call 180;refine (zfg _ _ (by omega) (by omega)).mono ?_;rintro e w' ⟨rfl,rfl⟩))
  all_goals
   go_wp2
   replace hs:=hs.out
   exact bodyPost_ret (v:=.agg #[.int .u64 (wd x 0),.int .u64 (wd x 1),.int .u64 (bits BinOp.or IntKind.u64 (wd x 2) (pw b.toNat)),.int .u64 (wd x 3)]) (by simp [results,Tryz.results164,go_sem]) rfl ⟨zcE (hs.2 0 (by omega)) (hs.2 1 (by omega)) hs.1 (hs.2 3 (by omega)),(((bR _ _).alloc (nL _) _).alloc (by simp) _).drew⟩
 ·have hs:=hO (zb7 x b h0 h1 3 hq)
  have t1:IntKind.i64.wrap (b.tdiv 64)=3:=by rw [zbk b h0 h1];exact hq
  go_enter Tryz.func164,Tryz.ntmps164;go_wp2
  go_region_with ((go_at_call 180;refine (zfg _ _ (by omega) (by omega)).mono ?_;rintro e w' ⟨rfl,rfl⟩))
  all_goals
   go_wp2
   replace hs:=hs.out
   exact bodyPost_ret (v:=.agg #[.int .u64 (wd x 0),.int .u64 (wd x 1),.int .u64 (wd x 2),.int .u64 (bits BinOp.or IntKind.u64 (wd x 3) (pw b.toNat))]) (by simp [results,Tryz.results164,go_sem]) rfl ⟨zcE (hs.2 0 (by omega)) (hs.2 1 (by omega)) (hs.2 2 (by omega)) hs.1,(((bR _ _).alloc (nL _) _).alloc (by simp) _).drew⟩
structure Holds (w:World) (b:Nat) (x:BitVec 256):Prop where
 lt:b<w.heap.size
 c0:w.cell? ⟨b,0,none⟩=some (.int .u64 (wd x 0))
 c1:w.cell? ⟨b,1,none⟩=some (.int .u64 (wd x 1))
 c2:w.cell? ⟨b,2,none⟩=some (.int .u64 (wd x 2))
 c3:w.cell? ⟨b,3,none⟩=some (.int .u64 (wd x 3))
 f0:w.frozen? ⟨b,0,none⟩=false
 f1:w.frozen? ⟨b,1,none⟩=false
 f2:w.frozen? ⟨b,2,none⟩=false
 f3:w.frozen? ⟨b,3,none⟩=false
theorem Holds.below {B:Nat} {w w':World} {b:Nat} {x:BitVec 256} (h:Holds w b x) (hb:Below B w w') (hB:b<B):Holds w' b x :=
 ⟨nM h.lt hb.size,(hb.cell (p:=⟨b,0,none⟩) hB).trans h.c0,(hb.cell (p:=⟨b,1,none⟩) hB).trans h.c1,(hb.cell (p:=⟨b,2,none⟩) hB).trans h.c2,(hb.cell (p:=⟨b,3,none⟩) hB).trans h.c3,(hb.frozen (p:=⟨b,0,none⟩) hB).trans h.f0,(hb.frozen (p:=⟨b,1,none⟩) hB).trans h.f1,(hb.frozen (p:=⟨b,2,none⟩) hB).trans h.f2,(hb.frozen (p:=⟨b,3,none⟩) hB).trans h.f3⟩
theorem Holds.alloc {w:World} {b:Nat} {x:BitVec 256} (h:Holds w b x) (o:Obj):Holds (w.alloc o) b x:=h.below ((bR w.heap.size w).alloc (nL _) o) h.lt
theorem Holds.new (w:World) (x:BitVec 256):Holds (w.alloc (.cells #[.int .u64 (wd x 0),.int .u64 (wd x 1),.int .u64 (wd x 2),.int .u64 (wd x 3)] 49)) w.heap.size x:=by
 constructor <;> simp [go_sem]
theorem zak (i:Nat):wd 0#256 i=0:=by unfold wd;simp
theorem Holds.zero (w:World):Holds (w.alloc (.cells #[.int .u64 0,.int .u64 0,.int .u64 0,.int .u64 0] 49)) w.heap.size 0#256:=by
 have h:=Holds.new w 0#256;rw [zak,zak,zak,zak] at h;exact h
theorem Holds.zero' (w:World) (o:Obj):Holds ((w.alloc o).alloc (.cells #[.int .u64 0,.int .u64 0,.int .u64 0,.int .u64 0] 49)) (w.heap.size+1) 0#256:=by
 have h:=Holds.zero (w.alloc o);rw [show (w.alloc o).heap.size=w.heap.size+1 from by simp] at h;exact h
abbrev zm9 (w:World) (b:Nat) (y:BitVec 256):World:=(((w.setCell ⟨b,0,none⟩ (.int .u64 (wd y 0))).setCell ⟨b,1,none⟩ (.int .u64 (wd y 1))).setCell ⟨b,2,none⟩ (.int .u64 (wd y 2))).setCell ⟨b,3,none⟩ (.int .u64 (wd y 3))
theorem Holds.put {w:World} {b:Nat} {x:BitVec 256} (h:Holds w b x) (y:BitVec 256):Holds (zm9 w b y) b y:=by
 obtain ⟨lt,c0,c1,c2,c3,f0,f1,f2,f3⟩:=h
 constructor <;> simp [go_sem, *]
theorem Holds.put_other {w:World} {b c:Nat} {x:BitVec 256} (h:Holds w c x) (hne:c≠b) (y:BitVec 256):Holds (zm9 w b y) c x:=by
 obtain ⟨lt,c0,c1,c2,c3,f0,f1,f2,f3⟩:=h
 constructor <;> simp [go_sem, *]
def ofB (f:Nat->Bool):Nat->BitVec 256
 | 0=>0#256
 | n+1=>if f n then ofB f n ||| bt n else ofB f n
theorem ziB (f:Nat->Bool) (n:Nat) (hn:n<=256) (j:Nat):(ofB f n).getLsbD j=(decide (j<n)&&f j):=by
 induction n with
 | zero=>simp [ofB]
 | succ n ih =>
  have ih:=ih (by omega);unfold ofB;by_cases h:f n=true
  ·rw [iP h,BitVec.getLsbD_or,ih,zhg _ _ (by omega)]
   by_cases e:j=n
   ·subst e;simp [h]
   ·have:decide (j<n+1)=decide (j<n):=decide_eq_decide.2 (by omega)
    simp [e,this]
  ·rw [iN h,ih]
   by_cases e:j=n
   ·subst e;simp [h]
   ·have:decide (j<n+1)=decide (j<n):=decide_eq_decide.2 (by omega)
    simp [this]
theorem zfR (x y:BitVec 256) (h:∀j,j<256->x.getLsbD j=y.getLsbD j):x=y:=BitVec.eq_of_getLsbD_eq h
def spn (lo hi:Int):BitVec 256:=ofB (fun j=>decide (lo<=(j:Int))) (hi+1).toNat
theorem zgu (lo hi:Int) (h1:hi<=255) (j:Nat):(spn lo hi).getLsbD j=(decide (lo<=(j:Int))&&decide ((j:Int)<=hi)):=by
 unfold spn;rw [ziB _ _ (by omega)];have:decide (j<(hi+1).toNat)=decide ((j:Int)<=hi):=decide_eq_decide.2 (by omega);rw [this,Bool.and_comm]
theorem ziC (lo:Int) (h0:0<=lo) (h1:lo<=256):spn lo (lo - 1)=0#256:=by
 refine zfR _ _ fun j hj=>?_
 rw [zgu _ _ (by omega)];by_cases h:lo<=(j:Int)
 ·have:¬(j:Int)<=lo - 1:=by omega
  simp [this]
 ·simp [h]
theorem zhh (lo b:Int) (h0:0<=lo) (hb:lo<=b) (h1:b<=255):spn lo b=spn lo (b - 1) ||| bt b.toNat:=by
 refine zfR _ _ fun j hj=>?_
 rw [zgu _ _ (by omega),BitVec.getLsbD_or,zgu _ _ (by omega),zhg _ _ (by omega)];by_cases e:j=b.toNat
 ·have a1:lo<=(j:Int):=by omega
  have a2:(j:Int)<=b:=by omega
  rw [decide_eq_true a1,decide_eq_true a2,decide_eq_true e];simp
 ·have:decide ((j:Int)<=b)=decide ((j:Int)<=b - 1):=decide_eq_decide.2 (by omega)
  simp [e,this]
def zhT (x:BitVec 256) (b:Int):Bool:=decide (0<=b)&&(decide (b<=255)&&x.getLsbD b.toNat)
theorem ziD (x:BitVec 256) (b:Int) (h:¬(0<=b/\b<=255)):zhT x b=false:=by
 unfold zhT;by_cases h0:0<=b
 ·have:¬b<=255:=fun h1=>h ⟨h0,h1⟩
  simp [this]
 ·simp [h0]
theorem zfi (x:BitVec 256) (b:Int) (h0:0<=b) (h1:b<=255):zhT x b=x.getLsbD b.toNat:=by
 unfold zhT;simp [h0,h1]
theorem zaB {a b:Bool} (h:a=b):Ending.returned (.bool a)=.returned (.bool b):=by rw [h]
theorem zd9 (x:BitVec 256) (b:Int) (h0:0<=b) (i:Nat) (hi:b / 64=(i:Int)):(bits .and .u64 (wd x i / 2 ^ (b%64).toNat) 1==1)=x.getLsbD b.toNat:=by
 have h2:=zm8 x b.toNat i (by omega);obtain ⟨n,hn⟩:=Int.eq_ofNat_of_zero_le (zfe x i);have hlt:=zgs x i;rw [hn] at h2 hlt ⊢;have e1:(b%64).toNat=b.toNat%64:=by omega
 have e2:(n:Int) / 2 ^ (b%64).toNat=((n / 2 ^ (b.toNat%64):Nat):Int):=by rw [e1];simp
 rw [e2,show (1:Int)=((1:Nat):Int) from rfl,u64_and_nat _ _ (Nat.lt_of_le_of_lt (Nat.div_le_self _ _) (by omega)) (by omega),nat_mask1];simp only [Int.toNat_natCast] at h2;rw [h2]
 cases x.getLsbD b.toNat <;> rfl
theorem zbl (x:BitVec 256) (b:Int) (w:World) :
  Calls Tryz.prog 122 #[sv x,.int .i64 b] w (rB w (.bool (zhT x b))):=by
 by_cases h0:0<=b
 ·have d0:decide (0<=b)=true:=by simpa using h0
  by_cases h1:b<=255
  ·have d1:decide (b<=255)=true:=by simpa using h1
   have hy:=hO (zfi x b h0 h1);have hr:IntKind.i64.wrap (b.tmod 64)=b%64:=by rw [Int.tmod_eq_emod_of_nonneg h0,wI];omega
   have hq:b / 64=0∨b / 64=1∨b / 64=2∨b / 64=3:=by omega
   rcases hq with hq | hq | hq | hq
   ·have t1:IntKind.i64.wrap (b.tdiv 64)=0:=by rw [zbk b h0 h1];exact hq
    have hs:=hO (zd9 x b h0 0 hq);go_enter Tryz.func122,Tryz.ntmps122;go_wp2
    go_ret
    exact ⟨zaB (hs.out.trans hy.out.symm),(bR _ _).alloc (nL _) _⟩
   ·have t1:IntKind.i64.wrap (b.tdiv 64)=1:=by rw [zbk b h0 h1];exact hq
    have hs:=hO (zd9 x b h0 1 hq);go_enter Tryz.func122,Tryz.ntmps122;go_wp2
    go_ret
    exact ⟨zaB (hs.out.trans hy.out.symm),(bR _ _).alloc (nL _) _⟩
   ·have t1:IntKind.i64.wrap (b.tdiv 64)=2:=by rw [zbk b h0 h1];exact hq
    have hs:=hO (zd9 x b h0 2 hq);go_enter Tryz.func122,Tryz.ntmps122;go_wp2
    go_ret
    exact ⟨zaB (hs.out.trans hy.out.symm),(bR _ _).alloc (nL _) _⟩
   ·have t1:IntKind.i64.wrap (b.tdiv 64)=3:=by rw [zbk b h0 h1];exact hq
    have hs:=hO (zd9 x b h0 3 hq);go_enter Tryz.func122,Tryz.ntmps122;go_wp2
    go_ret
    exact ⟨zaB (hs.out.trans hy.out.symm),(bR _ _).alloc (nL _) _⟩
  ·have d1:decide (b<=255)=false:=by simpa using h1
   have hy:=hO (ziD x b (fun h=>h1 h.2));go_enter Tryz.func122,Tryz.ntmps122;go_wp2
   go_ret
   exact ⟨zaB hy.out.symm,(bR _ _).alloc (nL _) _⟩
 ·have d0:decide (0<=b)=false:=by simpa using h0
  have hy:=hO (ziD x b (fun h=>h0 h.1));go_enter Tryz.func122,Tryz.ntmps122;go_wp2
  go_ret
  exact ⟨zaB hy.out.symm,(bR _ _).alloc (nL _) _⟩
def zat (l:List Int):ByteArray:=l.foldl (fun r n=>r.push (UInt8.ofNat n.toNat)) ByteArray.empty
theorem zbn (l:List Int):(zat l).data.toList=l.map (fun n=>UInt8.ofNat n.toNat):=by
 have key:∀(l:List Int) (s:ByteArray),(l.foldl (fun r n=>r.push (UInt8.ofNat n.toNat)) s).data.toList=s.data.toList++l.map (fun n=>UInt8.ofNat n.toNat):=by
  intro l
  induction l with
  | nil=>intro s;simp
  | cons b l ih=>intro s;rw [List.foldl_cons,ih];simp [ByteArray.push]
 have:=key l ByteArray.empty
 simpa [zat] using this
theorem zbo (l:List Int):(zat l).size=l.length:=by
 have h:=congrArg List.length (zbn l)
 simpa using h
def mixB (m:Nat) (a b:Bool):Bool:=(m==0&&(a||b))||((m==1&&a&&b)||((m==2&&a&&!b)||(m==3&&!a)))
def zaR (m:Nat) (x y:BitVec 256) (k:Nat):BitVec 256:=ofB (fun j=>mixB m (x.getLsbD j) (y.getLsbD j)) k
def ziE (m:Nat) (x y:BitVec 256):BitVec 256:=zaR m x y 256
theorem zdD (m:Nat) (x y:BitVec 256) (k:Nat) (hk:k<256):zaR m x y (k+1)=if mixB m (zhT x k) (zhT y k) then zaR m x y k ||| bt k else zaR m x y k:=by
 rw [zfi x k (by omega) (by omega),zfi y k (by omega) (by omega),Int.toNat_natCast];rfl
theorem zfj (m:Nat) (x y:BitVec 256) (j:Nat) (hj:j<256):(ziE m x y).getLsbD j=mixB m (x.getLsbD j) (y.getLsbD j):=by
 unfold ziE zaR;rw [ziB _ _ (by omega)];simp [hj]
theorem zhU (x y:BitVec 256):ziE 0 x y=x ||| y:=zfR _ _ fun j hj=>by rw [zfj _ _ _ _ hj,BitVec.getLsbD_or];simp [mixB]
theorem ziF (x y:BitVec 256):ziE 2 x y=x &&& ~~~ y:=zfR _ _ fun j hj=>by rw [zfj _ _ _ _ hj,BitVec.getLsbD_and,BitVec.getLsbD_not];simp [mixB,hj]
theorem zk5 (x y:BitVec 256):ziE 3 x y = ~~~ x:=zfR _ _ fun j hj=>by rw [zfj _ _ _ _ hj,BitVec.getLsbD_not];simp [mixB,hj]
abbrev c4 (x:BitVec 256):Obj:=.cells #[.int .u64 (wd x 0),.int .u64 (wd x 1),.int .u64 (wd x 2),.int .u64 (wd x 3)] 49
abbrev z4:Obj:=.cells #[.int .u64 0,.int .u64 0,.int .u64 0,.int .u64 0] 49
theorem zdE (w:World) (x y:BitVec 256):Holds ((((w.alloc (c4 x)).alloc (c4 y)).alloc z4).alloc z4) w.heap.size x:=(((Holds.new w x).alloc _).alloc _).alloc _
theorem zdF (w:World) (x y:BitVec 256):Holds ((((w.alloc (c4 x)).alloc (c4 y)).alloc z4).alloc z4) (w.heap.size+1) y:=by
 have h:=((Holds.new (w.alloc (c4 x)) y).alloc z4).alloc z4;rw [show (w.alloc (c4 x)).heap.size=w.heap.size+1 from by simp] at h;exact h
theorem zdG (w:World) (x y:BitVec 256):Holds ((((w.alloc (c4 x)).alloc (c4 y)).alloc z4).alloc z4) (w.heap.size+2) 0#256:=by
 have h:=(Holds.zero ((w.alloc (c4 x)).alloc (c4 y))).alloc z4;rw [show ((w.alloc (c4 x)).alloc (c4 y)).heap.size=w.heap.size+2 from by simp] at h;exact h
theorem zdH (w:World) (x y:BitVec 256):Holds ((((w.alloc (c4 x)).alloc (c4 y)).alloc z4).alloc z4) (w.heap.size+3) 0#256:=by
 have h:=Holds.zero (((w.alloc (c4 x)).alloc (c4 y)).alloc z4);rw [show (((w.alloc (c4 x)).alloc (c4 y)).alloc z4).heap.size=w.heap.size+3 from by simp] at h;exact h
theorem zdI (w:World) (x y:BitVec 256):Below w.heap.size w ((((w.alloc (c4 x)).alloc (c4 y)).alloc z4).alloc z4) :=
 (((((bR _ _).alloc (nL _) _).alloc (by simp) _).alloc (by simp;omega) _).alloc (by simp;omega) _)
theorem Tryz.info5:(Tryz.prog.info? 5).map (fun i=>(i.zero,i.size,i.bytes))=some (some (.int .u8 0),1,1):=by kernel_rfl
theorem zfk {w:World} {base:Nat} {v:Value} {l:List Int} (h:w.ownsRow base 5 1 v l.length (l.map (Value.int .u8))) :
  (convert 84 9 v).run Tryz.prog w=.ok (.string (zat l)) w:=by
 have hc:=h;obtain ⟨hlen,h2⟩:=h
 rcases h2 with ⟨rfl,hn⟩ | ⟨g,cap,cur,rfl,_⟩
 ·obtain rfl:l=[]:=List.eq_nil_of_length_eq_zero hn
  rw [run_convert_bytes_string w 84 9 5 _ _ _ Tryz.underlying84 Tryz.underlying5 Tryz.underlying9];rfl
 ·rw [run_convert_bytes_string w 84 9 5 _ _ _ Tryz.underlying84 Tryz.underlying5 Tryz.underlying9]
  refine run_bytesToString w ⟨g,0,none⟩ l.length cap l ?_;have:=run_loadCells_list (P:=Tryz.prog) (w:=w) ⟨g,0,none⟩ (l.map (Value.int .u8)) (hc.cells rfl)
  rwa [List.length_map] at this
theorem zbw (x:BitVec 256) (b:Int) (w:World) (h0:0<=b) (h1:b<=255) :
  Calls Tryz.prog 116 #[sv x,.int .i64 b] w (rB w (sv (x ||| bt b.toNat))):=by
 have hq:b / 64=0∨b / 64=1∨b / 64=2∨b / 64=3:=by omega
 have hr:IntKind.i64.wrap (b.tmod 64)=b%64:=by rw [Int.tmod_eq_emod_of_nonneg h0,wI];omega
 have hr0:0<=b%64:=by omega
 have hr1:b%64<64:=by omega
 have hp:=pw_of b h0
 rcases hq with hq | hq | hq | hq
 ·have hs:=hO (zb7 x b h0 h1 0 hq)
  have t1:IntKind.i64.wrap (b.tdiv 64)=0:=by rw [zbk b h0 h1];exact hq
  go_enter Tryz.func116,Tryz.ntmps116;go_wp2
  go_region
  all_goals
   go_wp2
   replace hs:=hs.out
   exact bodyPost_ret (v:=.agg #[.int .u64 (bits BinOp.or IntKind.u64 (wd x 0) (pw b.toNat)),.int .u64 (wd x 1),.int .u64 (wd x 2),.int .u64 (wd x 3)]) (by simp [results,Tryz.results116,go_sem]) rfl ⟨zcE hs.1 (hs.2 1 (by omega)) (hs.2 2 (by omega)) (hs.2 3 (by omega)),(((bR _ _).alloc (nL _) _).alloc (by simp) _).drew⟩
 ·have hs:=hO (zb7 x b h0 h1 1 hq)
  have t1:IntKind.i64.wrap (b.tdiv 64)=1:=by rw [zbk b h0 h1];exact hq
  go_enter Tryz.func116,Tryz.ntmps116;go_wp2
  go_region
  all_goals
   go_wp2
   replace hs:=hs.out
   exact bodyPost_ret (v:=.agg #[.int .u64 (wd x 0),.int .u64 (bits BinOp.or IntKind.u64 (wd x 1) (pw b.toNat)),.int .u64 (wd x 2),.int .u64 (wd x 3)]) (by simp [results,Tryz.results116,go_sem]) rfl ⟨zcE (hs.2 0 (by omega)) hs.1 (hs.2 2 (by omega)) (hs.2 3 (by omega)),(((bR _ _).alloc (nL _) _).alloc (by simp) _).drew⟩
 ·have hs:=hO (zb7 x b h0 h1 2 hq)
  have t1:IntKind.i64.wrap (b.tdiv 64)=2:=by rw [zbk b h0 h1];exact hq
  go_enter Tryz.func116,Tryz.ntmps116;go_wp2
  go_region
  all_goals
   go_wp2
   replace hs:=hs.out
   exact bodyPost_ret (v:=.agg #[.int .u64 (wd x 0),.int .u64 (wd x 1),.int .u64 (bits BinOp.or IntKind.u64 (wd x 2) (pw b.toNat)),.int .u64 (wd x 3)]) (by simp [results,Tryz.results116,go_sem]) rfl ⟨zcE (hs.2 0 (by omega)) (hs.2 1 (by omega)) hs.1 (hs.2 3 (by omega)),(((bR _ _).alloc (nL _) _).alloc (by simp) _).drew⟩
 ·have hs:=hO (zb7 x b h0 h1 3 hq)
  have t1:IntKind.i64.wrap (b.tdiv 64)=3:=by rw [zbk b h0 h1];exact hq
  go_enter Tryz.func116,Tryz.ntmps116;go_wp2
  go_region
  all_goals
   go_wp2
   replace hs:=hs.out
   exact bodyPost_ret (v:=.agg #[.int .u64 (wd x 0),.int .u64 (wd x 1),.int .u64 (wd x 2),.int .u64 (bits BinOp.or IntKind.u64 (wd x 3) (pw b.toNat))]) (by simp [results,Tryz.results116,go_sem]) rfl ⟨zcE (hs.2 0 (by omega)) (hs.2 1 (by omega)) (hs.2 2 (by omega)) hs.1,(((bR _ _).alloc (nL _) _).alloc (by simp) _).drew⟩
theorem zk6 (x y:BitVec 256) (w:World) :
  Calls Tryz.prog 118 #[.int .i64 0,sv x,sv y] w (rB w (sv (ziE 0 x y))):=by
 go_enter Tryz.func118,Tryz.ntmps118;go_wp2
 go_loopw [8] (fun t wr=>∃k:Nat,k<=256/\t=.int .i64 k/\Holds wr w.heap.size x/\Holds wr (w.heap.size+1) y/\Holds wr (w.heap.size+1+1+1) (zaR 0 x y k)/\(∃z,Holds wr (w.heap.size+1+1) z)/\Below w.heap.size w wr) (fun t _=>256 - (intOf t).toNat)
 case atStart =>
  exact ⟨0,by omega,rfl,zdE w x y,zdF w x y,zdH w x y,⟨0#256,zdG w x y⟩,zdI w x y⟩
 case round =>
  obtain ⟨k,hk,rfl,hx,hy,hm,⟨z,hz⟩,hbel⟩:=hrel;have hsz:w.heap.size+1+1+1<wr.heap.size:=hm.lt;have HX:=hO hx;have HY:=hO hy;have HM:=hO hm;have HZ:=hO hz;have HB:=hO hbel;by_cases hlt:k<256
  ·have HS:=hO (zdD 0 x y k hlt)
   clear hm hz hbel;obtain ⟨l0,c0,c1,c2,c3,f0,f1,f2,f3⟩:=hx;obtain ⟨l1,d0,d1,d2,d3,g0,g1,g2,g3⟩:=hy;have HR:Hid (Below wr.heap.size wr wr):=bR _ _;have hk0:(0:Int)<=(k:Int):=by omega
   have hk1:(k:Int)<=255:=by omega
   cases hxb:zhT x k <;> cases hyb:zhT y k
   ·have HE:Hid (zaR 0 x y (k+1)=zaR 0 x y k):=(by have h:=HS.out;rw [hxb,hyb,iN (by decide)] at h;exact h)
    clear HS;go_wp2
    go_region_held3 (fun w'=>w'.cell? ⟨w.heap.size,0,none⟩=some (.int .u64 (wd x 0))/\w'.cell? ⟨w.heap.size,1,none⟩=some (.int .u64 (wd x 1))/\w'.cell? ⟨w.heap.size,2,none⟩=some (.int .u64 (wd x 2))/\w'.cell? ⟨w.heap.size,3,none⟩=some (.int .u64 (wd x 3))/\w'.cell? ⟨w.heap.size+1,0,none⟩=some (.int .u64 (wd y 0))/\w'.cell? ⟨w.heap.size+1,1,none⟩=some (.int .u64 (wd y 1))/\w'.cell? ⟨w.heap.size+1,2,none⟩=some (.int .u64 (wd y 2))/\w'.cell? ⟨w.heap.size+1,3,none⟩=some (.int .u64 (wd y 3))) (first | go_keep | (go_split_ands;refine ⟨?_,?_,?_,?_,?_,?_,?_,?_⟩ <;> (rw [hb.cell (by simp;omega)];first | assumption | simp [*]))) ((go_at_call 122;refine (zbl _ _ _).mono ?_;rintro e w1 ⟨rfl,hb⟩;have hz1:=hb.size;(try simp at hz1);replace HR:Hid (Below wr.heap.size wr w1):=(by first | exact HR.trans (hb.mono (by omega)) | exact HR.drew.trans (hb.mono (by simp)))))
    clear c0 c1 c2 c3 f0 f1 f2 f3 d0 d1 d2 d3 g0 g1 g2 g3;have hM1:=HM.below HR (by omega);have hX1:=hO (HX.below HR (by omega));have hY1:=hO (HY.below HR (by omega));have hZ1:=hO (HZ.below HR (by omega));have hB1:=hO (HB.trans (HR.mono (by omega)));clear HM HX HY HZ HB;generalize zaR 0 x y k=mm at *;have HM1:=hO hM1;clear hM1;go_wp2
    go_roundw
    case rel=>exact ⟨k+1,by omega,by go_num,hX1.out,hY1.out,(by rw [HE.out];exact HM1.out),⟨z,hZ1.out⟩,hB1.out⟩
    case measure=>simp [intOf];omega
   ·have HE:Hid (zaR 0 x y (k+1)=zaR 0 x y k ||| bt k):=(by have h:=HS.out;rw [hxb,hyb,iP (by decide)] at h;exact h)
    clear HS;go_wp2
    go_region_held3 (fun w'=>w'.cell? ⟨w.heap.size,0,none⟩=some (.int .u64 (wd x 0))/\w'.cell? ⟨w.heap.size,1,none⟩=some (.int .u64 (wd x 1))/\w'.cell? ⟨w.heap.size,2,none⟩=some (.int .u64 (wd x 2))/\w'.cell? ⟨w.heap.size,3,none⟩=some (.int .u64 (wd x 3))/\w'.cell? ⟨w.heap.size+1,0,none⟩=some (.int .u64 (wd y 0))/\w'.cell? ⟨w.heap.size+1,1,none⟩=some (.int .u64 (wd y 1))/\w'.cell? ⟨w.heap.size+1,2,none⟩=some (.int .u64 (wd y 2))/\w'.cell? ⟨w.heap.size+1,3,none⟩=some (.int .u64 (wd y 3))) (first | go_keep | (go_split_ands;refine ⟨?_,?_,?_,?_,?_,?_,?_,?_⟩ <;> (rw [hb.cell (by simp;omega)];first | assumption | simp [*]))) ((go_at_call 122;refine (zbl _ _ _).mono ?_;rintro e w1 ⟨rfl,hb⟩;have hz1:=hb.size;(try simp at hz1);replace HR:Hid (Below wr.heap.size wr w1):=(by first | exact HR.trans (hb.mono (by omega)) | exact HR.drew.trans (hb.mono (by simp)))))
    clear c0 c1 c2 c3 f0 f1 f2 f3 d0 d1 d2 d3 g0 g1 g2 g3;have hM1:=HM.below HR (by omega);have hX1:=hO (HX.below HR (by omega));have hY1:=hO (HY.below HR (by omega));have hZ1:=hO (HZ.below HR (by omega));have hB1:=hO (HB.trans (HR.mono (by omega)));clear HM HX HY HZ HB;generalize zaR 0 x y k=mm at *;have HM1:=hO hM1;obtain ⟨l5,c0,c1,c2,c3,f0,f1,f2,f3⟩:=hM1;go_wp2_with fail;refine (zbw mm k _ (by omega) (by omega)).mono ?_;rintro e w2 ⟨rfl,hb2⟩;clear c0 c1 c2 c3 f0 f1 f2 f3;obtain ⟨l5,c0,c1,c2,c3,f0,f1,f2,f3⟩:=HM1.below hb2 l5;go_wp2
    go_roundw
    case rel =>
     refine ⟨k+1,by omega,by go_num,(hX1.out.below hb2 (by omega)).put_other (by omega) _,(hY1.out.below hb2 (by omega)).put_other (by omega) _,?_,⟨z,(hZ1.out.below hb2 (by omega)).put_other (by omega) _⟩,?_⟩
     ·rw [HE.out];exact (HM1.below hb2 (by omega)).put _
     ·exact ((((hB1.out.trans (hb2.mono (by omega))).setCell (by simp;omega) _).setCell (by simp;omega) _).setCell (by simp;omega) _).setCell (by simp;omega) _
    case measure=>simp [intOf];omega
   ·have HE:Hid (zaR 0 x y (k+1)=zaR 0 x y k ||| bt k):=(by have h:=HS.out;rw [hxb,hyb,iP (by decide)] at h;exact h)
    clear HS;go_wp2
    go_region_held3 (fun w'=>w'.cell? ⟨w.heap.size,0,none⟩=some (.int .u64 (wd x 0))/\w'.cell? ⟨w.heap.size,1,none⟩=some (.int .u64 (wd x 1))/\w'.cell? ⟨w.heap.size,2,none⟩=some (.int .u64 (wd x 2))/\w'.cell? ⟨w.heap.size,3,none⟩=some (.int .u64 (wd x 3))/\w'.cell? ⟨w.heap.size+1,0,none⟩=some (.int .u64 (wd y 0))/\w'.cell? ⟨w.heap.size+1,1,none⟩=some (.int .u64 (wd y 1))/\w'.cell? ⟨w.heap.size+1,2,none⟩=some (.int .u64 (wd y 2))/\w'.cell? ⟨w.heap.size+1,3,none⟩=some (.int .u64 (wd y 3))) (first | go_keep | (go_split_ands;refine ⟨?_,?_,?_,?_,?_,?_,?_,?_⟩ <;> (rw [hb.cell (by simp;omega)];first | assumption | simp [*]))) ((go_at_call 122;refine (zbl _ _ _).mono ?_;rintro e w1 ⟨rfl,hb⟩;have hz1:=hb.size;(try simp at hz1);replace HR:Hid (Below wr.heap.size wr w1):=(by first | exact HR.trans (hb.mono (by omega)) | exact HR.drew.trans (hb.mono (by simp)))))
    clear c0 c1 c2 c3 f0 f1 f2 f3 d0 d1 d2 d3 g0 g1 g2 g3;have hM1:=HM.below HR (by omega);have hX1:=hO (HX.below HR (by omega));have hY1:=hO (HY.below HR (by omega));have hZ1:=hO (HZ.below HR (by omega));have hB1:=hO (HB.trans (HR.mono (by omega)));clear HM HX HY HZ HB;generalize zaR 0 x y k=mm at *;have HM1:=hO hM1;obtain ⟨l5,c0,c1,c2,c3,f0,f1,f2,f3⟩:=hM1;go_wp2_with fail;refine (zbw mm k _ (by omega) (by omega)).mono ?_;rintro e w2 ⟨rfl,hb2⟩;clear c0 c1 c2 c3 f0 f1 f2 f3;obtain ⟨l5,c0,c1,c2,c3,f0,f1,f2,f3⟩:=HM1.below hb2 l5;go_wp2
    go_roundw
    case rel =>
     refine ⟨k+1,by omega,by go_num,(hX1.out.below hb2 (by omega)).put_other (by omega) _,(hY1.out.below hb2 (by omega)).put_other (by omega) _,?_,⟨z,(hZ1.out.below hb2 (by omega)).put_other (by omega) _⟩,?_⟩
     ·rw [HE.out];exact (HM1.below hb2 (by omega)).put _
     ·exact ((((hB1.out.trans (hb2.mono (by omega))).setCell (by simp;omega) _).setCell (by simp;omega) _).setCell (by simp;omega) _).setCell (by simp;omega) _
    case measure=>simp [intOf];omega
   ·have HE:Hid (zaR 0 x y (k+1)=zaR 0 x y k ||| bt k):=(by have h:=HS.out;rw [hxb,hyb,iP (by decide)] at h;exact h)
    clear HS;go_wp2
    go_region_held3 (fun w'=>w'.cell? ⟨w.heap.size,0,none⟩=some (.int .u64 (wd x 0))/\w'.cell? ⟨w.heap.size,1,none⟩=some (.int .u64 (wd x 1))/\w'.cell? ⟨w.heap.size,2,none⟩=some (.int .u64 (wd x 2))/\w'.cell? ⟨w.heap.size,3,none⟩=some (.int .u64 (wd x 3))/\w'.cell? ⟨w.heap.size+1,0,none⟩=some (.int .u64 (wd y 0))/\w'.cell? ⟨w.heap.size+1,1,none⟩=some (.int .u64 (wd y 1))/\w'.cell? ⟨w.heap.size+1,2,none⟩=some (.int .u64 (wd y 2))/\w'.cell? ⟨w.heap.size+1,3,none⟩=some (.int .u64 (wd y 3))) (first | go_keep | (go_split_ands;refine ⟨?_,?_,?_,?_,?_,?_,?_,?_⟩ <;> (rw [hb.cell (by simp;omega)];first | assumption | simp [*]))) ((go_at_call 122;refine (zbl _ _ _).mono ?_;rintro e w1 ⟨rfl,hb⟩;have hz1:=hb.size;(try simp at hz1);replace HR:Hid (Below wr.heap.size wr w1):=(by first | exact HR.trans (hb.mono (by omega)) | exact HR.drew.trans (hb.mono (by simp)))))
    clear c0 c1 c2 c3 f0 f1 f2 f3 d0 d1 d2 d3 g0 g1 g2 g3;have hM1:=HM.below HR (by omega);have hX1:=hO (HX.below HR (by omega));have hY1:=hO (HY.below HR (by omega));have hZ1:=hO (HZ.below HR (by omega));have hB1:=hO (HB.trans (HR.mono (by omega)));clear HM HX HY HZ HB;generalize zaR 0 x y k=mm at *;have HM1:=hO hM1;obtain ⟨l5,c0,c1,c2,c3,f0,f1,f2,f3⟩:=hM1;go_wp2_with fail;refine (zbw mm k _ (by omega) (by omega)).mono ?_;rintro e w2 ⟨rfl,hb2⟩;clear c0 c1 c2 c3 f0 f1 f2 f3;obtain ⟨l5,c0,c1,c2,c3,f0,f1,f2,f3⟩:=HM1.below hb2 l5;go_wp2
    go_roundw
    case rel =>
     refine ⟨k+1,by omega,by go_num,(hX1.out.below hb2 (by omega)).put_other (by omega) _,(hY1.out.below hb2 (by omega)).put_other (by omega) _,?_,⟨z,(hZ1.out.below hb2 (by omega)).put_other (by omega) _⟩,?_⟩
     ·rw [HE.out];exact (HM1.below hb2 (by omega)).put _
     ·exact ((((hB1.out.trans (hb2.mono (by omega))).setCell (by simp;omega) _).setCell (by simp;omega) _).setCell (by simp;omega) _).setCell (by simp;omega) _
    case measure=>simp [intOf];omega
  ·have hke:k=256:=by omega
   subst hke;clear hx hy hbel;have HQ:Hid (zaR 0 x y 256=ziE 0 x y):=rfl;generalize zaR 0 x y 256=mm at *;obtain ⟨l0,c0,c1,c2,c3,f0,f1,f2,f3⟩:=hm;obtain ⟨l1,d0,d1,d2,d3,g0,g1,g2,g3⟩:=hz;go_wp2
   rw [<-HQ.out];refine bodyPost_ret (v:=sv mm) (by simp [results,Tryz.results118,go_sem, *]) rfl ⟨rfl,?_⟩;exact (((HB.setCell (by simp;omega) _).setCell (by simp;omega) _).setCell (by simp;omega) _).setCell (by simp;omega) _
theorem zk7 (x y:BitVec 256) (w:World) :
  Calls Tryz.prog 118 #[.int .i64 2,sv x,sv y] w (rB w (sv (ziE 2 x y))):=by
 go_enter Tryz.func118,Tryz.ntmps118;go_wp2
 go_loopw [8] (fun t wr=>∃k:Nat,k<=256/\t=.int .i64 k/\Holds wr w.heap.size x/\Holds wr (w.heap.size+1) y/\Holds wr (w.heap.size+1+1+1) (zaR 2 x y k)/\(∃z,Holds wr (w.heap.size+1+1) z)/\Below w.heap.size w wr) (fun t _=>256 - (intOf t).toNat)
 case atStart =>
  exact ⟨0,by omega,rfl,zdE w x y,zdF w x y,zdH w x y,⟨0#256,zdG w x y⟩,zdI w x y⟩
 case round =>
  obtain ⟨k,hk,rfl,hx,hy,hm,⟨z,hz⟩,hbel⟩:=hrel;have hsz:w.heap.size+1+1+1<wr.heap.size:=hm.lt;have HX:=hO hx;have HY:=hO hy;have HM:=hO hm;have HZ:=hO hz;have HB:=hO hbel;by_cases hlt:k<256
  ·have HS:=hO (zdD 2 x y k hlt)
   clear hm hz hbel;obtain ⟨l0,c0,c1,c2,c3,f0,f1,f2,f3⟩:=hx;obtain ⟨l1,d0,d1,d2,d3,g0,g1,g2,g3⟩:=hy;have HR:Hid (Below wr.heap.size wr wr):=bR _ _;have hk0:(0:Int)<=(k:Int):=by omega
   have hk1:(k:Int)<=255:=by omega
   cases hxb:zhT x k <;> cases hyb:zhT y k
   ·have HE:Hid (zaR 2 x y (k+1)=zaR 2 x y k):=(by have h:=HS.out;rw [hxb,hyb,iN (by decide)] at h;exact h)
    clear HS;go_wp2
    go_region_held3 (fun w'=>w'.cell? ⟨w.heap.size,0,none⟩=some (.int .u64 (wd x 0))/\w'.cell? ⟨w.heap.size,1,none⟩=some (.int .u64 (wd x 1))/\w'.cell? ⟨w.heap.size,2,none⟩=some (.int .u64 (wd x 2))/\w'.cell? ⟨w.heap.size,3,none⟩=some (.int .u64 (wd x 3))/\w'.cell? ⟨w.heap.size+1,0,none⟩=some (.int .u64 (wd y 0))/\w'.cell? ⟨w.heap.size+1,1,none⟩=some (.int .u64 (wd y 1))/\w'.cell? ⟨w.heap.size+1,2,none⟩=some (.int .u64 (wd y 2))/\w'.cell? ⟨w.heap.size+1,3,none⟩=some (.int .u64 (wd y 3))) (first | go_keep | (go_split_ands;refine ⟨?_,?_,?_,?_,?_,?_,?_,?_⟩ <;> (rw [hb.cell (by simp;omega)];first | assumption | simp [*]))) ((go_at_call 122;refine (zbl _ _ _).mono ?_;rintro e w1 ⟨rfl,hb⟩;have hz1:=hb.size;(try simp at hz1);replace HR:Hid (Below wr.heap.size wr w1):=(by first | exact HR.trans (hb.mono (by omega)) | exact HR.drew.trans (hb.mono (by simp)))))
    clear c0 c1 c2 c3 f0 f1 f2 f3 d0 d1 d2 d3 g0 g1 g2 g3;have hM1:=HM.below HR (by omega);have hX1:=hO (HX.below HR (by omega));have hY1:=hO (HY.below HR (by omega));have hZ1:=hO (HZ.below HR (by omega));have hB1:=hO (HB.trans (HR.mono (by omega)));clear HM HX HY HZ HB;generalize zaR 2 x y k=mm at *;have HM1:=hO hM1;clear hM1;go_wp2
    go_roundw
    case rel=>exact ⟨k+1,by omega,by go_num,hX1.out,hY1.out,(by rw [HE.out];exact HM1.out),⟨z,hZ1.out⟩,hB1.out⟩
    case measure=>simp [intOf];omega
   ·have HE:Hid (zaR 2 x y (k+1)=zaR 2 x y k):=(by have h:=HS.out;rw [hxb,hyb,iN (by decide)] at h;exact h)
    clear HS;go_wp2
    go_region_held3 (fun w'=>w'.cell? ⟨w.heap.size,0,none⟩=some (.int .u64 (wd x 0))/\w'.cell? ⟨w.heap.size,1,none⟩=some (.int .u64 (wd x 1))/\w'.cell? ⟨w.heap.size,2,none⟩=some (.int .u64 (wd x 2))/\w'.cell? ⟨w.heap.size,3,none⟩=some (.int .u64 (wd x 3))/\w'.cell? ⟨w.heap.size+1,0,none⟩=some (.int .u64 (wd y 0))/\w'.cell? ⟨w.heap.size+1,1,none⟩=some (.int .u64 (wd y 1))/\w'.cell? ⟨w.heap.size+1,2,none⟩=some (.int .u64 (wd y 2))/\w'.cell? ⟨w.heap.size+1,3,none⟩=some (.int .u64 (wd y 3))) (first | go_keep | (go_split_ands;refine ⟨?_,?_,?_,?_,?_,?_,?_,?_⟩ <;> (rw [hb.cell (by simp;omega)];first | assumption | simp [*]))) ((go_at_call 122;refine (zbl _ _ _).mono ?_;rintro e w1 ⟨rfl,hb⟩;have hz1:=hb.size;(try simp at hz1);replace HR:Hid (Below wr.heap.size wr w1):=(by first | exact HR.trans (hb.mono (by omega)) | exact HR.drew.trans (hb.mono (by simp)))))
    clear c0 c1 c2 c3 f0 f1 f2 f3 d0 d1 d2 d3 g0 g1 g2 g3;have hM1:=HM.below HR (by omega);have hX1:=hO (HX.below HR (by omega));have hY1:=hO (HY.below HR (by omega));have hZ1:=hO (HZ.below HR (by omega));have hB1:=hO (HB.trans (HR.mono (by omega)));clear HM HX HY HZ HB;generalize zaR 2 x y k=mm at *;have HM1:=hO hM1;clear hM1;go_wp2
    go_roundw
    case rel=>exact ⟨k+1,by omega,by go_num,hX1.out,hY1.out,(by rw [HE.out];exact HM1.out),⟨z,hZ1.out⟩,hB1.out⟩
    case measure=>simp [intOf];omega
   ·have HE:Hid (zaR 2 x y (k+1)=zaR 2 x y k ||| bt k):=(by have h:=HS.out;rw [hxb,hyb,iP (by decide)] at h;exact h)
    clear HS;go_wp2
    go_region_held3 (fun w'=>w'.cell? ⟨w.heap.size,0,none⟩=some (.int .u64 (wd x 0))/\w'.cell? ⟨w.heap.size,1,none⟩=some (.int .u64 (wd x 1))/\w'.cell? ⟨w.heap.size,2,none⟩=some (.int .u64 (wd x 2))/\w'.cell? ⟨w.heap.size,3,none⟩=some (.int .u64 (wd x 3))/\w'.cell? ⟨w.heap.size+1,0,none⟩=some (.int .u64 (wd y 0))/\w'.cell? ⟨w.heap.size+1,1,none⟩=some (.int .u64 (wd y 1))/\w'.cell? ⟨w.heap.size+1,2,none⟩=some (.int .u64 (wd y 2))/\w'.cell? ⟨w.heap.size+1,3,none⟩=some (.int .u64 (wd y 3))) (first | go_keep | (go_split_ands;refine ⟨?_,?_,?_,?_,?_,?_,?_,?_⟩ <;> (rw [hb.cell (by simp;omega)];first | assumption | simp [*]))) ((go_at_call 122;refine (zbl _ _ _).mono ?_;rintro e w1 ⟨rfl,hb⟩;have hz1:=hb.size;(try simp at hz1);replace HR:Hid (Below wr.heap.size wr w1):=(by first | exact HR.trans (hb.mono (by omega)) | exact HR.drew.trans (hb.mono (by simp)))))
    clear c0 c1 c2 c3 f0 f1 f2 f3 d0 d1 d2 d3 g0 g1 g2 g3;have hM1:=HM.below HR (by omega);have hX1:=hO (HX.below HR (by omega));have hY1:=hO (HY.below HR (by omega));have hZ1:=hO (HZ.below HR (by omega));have hB1:=hO (HB.trans (HR.mono (by omega)));clear HM HX HY HZ HB;generalize zaR 2 x y k=mm at *;have HM1:=hO hM1;obtain ⟨l5,c0,c1,c2,c3,f0,f1,f2,f3⟩:=hM1;go_wp2_with fail;refine (zbw mm k _ (by omega) (by omega)).mono ?_;rintro e w2 ⟨rfl,hb2⟩;clear c0 c1 c2 c3 f0 f1 f2 f3;obtain ⟨l5,c0,c1,c2,c3,f0,f1,f2,f3⟩:=HM1.below hb2 l5;go_wp2
    go_roundw
    case rel =>
     refine ⟨k+1,by omega,by go_num,(hX1.out.below hb2 (by omega)).put_other (by omega) _,(hY1.out.below hb2 (by omega)).put_other (by omega) _,?_,⟨z,(hZ1.out.below hb2 (by omega)).put_other (by omega) _⟩,?_⟩
     ·rw [HE.out];exact (HM1.below hb2 (by omega)).put _
     ·exact ((((hB1.out.trans (hb2.mono (by omega))).setCell (by simp;omega) _).setCell (by simp;omega) _).setCell (by simp;omega) _).setCell (by simp;omega) _
    case measure=>simp [intOf];omega
   ·have HE:Hid (zaR 2 x y (k+1)=zaR 2 x y k):=(by have h:=HS.out;rw [hxb,hyb,iN (by decide)] at h;exact h)
    clear HS;go_wp2
    go_region_held3 (fun w'=>w'.cell? ⟨w.heap.size,0,none⟩=some (.int .u64 (wd x 0))/\w'.cell? ⟨w.heap.size,1,none⟩=some (.int .u64 (wd x 1))/\w'.cell? ⟨w.heap.size,2,none⟩=some (.int .u64 (wd x 2))/\w'.cell? ⟨w.heap.size,3,none⟩=some (.int .u64 (wd x 3))/\w'.cell? ⟨w.heap.size+1,0,none⟩=some (.int .u64 (wd y 0))/\w'.cell? ⟨w.heap.size+1,1,none⟩=some (.int .u64 (wd y 1))/\w'.cell? ⟨w.heap.size+1,2,none⟩=some (.int .u64 (wd y 2))/\w'.cell? ⟨w.heap.size+1,3,none⟩=some (.int .u64 (wd y 3))) (first | go_keep | (go_split_ands;refine ⟨?_,?_,?_,?_,?_,?_,?_,?_⟩ <;> (rw [hb.cell (by simp;omega)];first | assumption | simp [*]))) ((go_at_call 122;refine (zbl _ _ _).mono ?_;rintro e w1 ⟨rfl,hb⟩;have hz1:=hb.size;(try simp at hz1);replace HR:Hid (Below wr.heap.size wr w1):=(by first | exact HR.trans (hb.mono (by omega)) | exact HR.drew.trans (hb.mono (by simp)))))
    clear c0 c1 c2 c3 f0 f1 f2 f3 d0 d1 d2 d3 g0 g1 g2 g3;have hM1:=HM.below HR (by omega);have hX1:=hO (HX.below HR (by omega));have hY1:=hO (HY.below HR (by omega));have hZ1:=hO (HZ.below HR (by omega));have hB1:=hO (HB.trans (HR.mono (by omega)));clear HM HX HY HZ HB;generalize zaR 2 x y k=mm at *;have HM1:=hO hM1;clear hM1;go_wp2
    go_roundw
    case rel=>exact ⟨k+1,by omega,by go_num,hX1.out,hY1.out,(by rw [HE.out];exact HM1.out),⟨z,hZ1.out⟩,hB1.out⟩
    case measure=>simp [intOf];omega
  ·have hke:k=256:=by omega
   subst hke;clear hx hy hbel;have HQ:Hid (zaR 2 x y 256=ziE 2 x y):=rfl;generalize zaR 2 x y 256=mm at *;obtain ⟨l0,c0,c1,c2,c3,f0,f1,f2,f3⟩:=hm;obtain ⟨l1,d0,d1,d2,d3,g0,g1,g2,g3⟩:=hz;go_wp2
   rw [<-HQ.out];refine bodyPost_ret (v:=sv mm) (by simp [results,Tryz.results118,go_sem, *]) rfl ⟨rfl,?_⟩;exact (((HB.setCell (by simp;omega) _).setCell (by simp;omega) _).setCell (by simp;omega) _).setCell (by simp;omega) _
theorem zk8 (x y:BitVec 256) (w:World) :
  Calls Tryz.prog 118 #[.int .i64 3,sv x,sv y] w (rB w (sv (ziE 3 x y))):=by
 go_enter Tryz.func118,Tryz.ntmps118;go_wp2
 go_loopw [8] (fun t wr=>∃k:Nat,k<=256/\t=.int .i64 k/\Holds wr w.heap.size x/\Holds wr (w.heap.size+1) y/\Holds wr (w.heap.size+1+1+1) (zaR 3 x y k)/\(∃z,Holds wr (w.heap.size+1+1) z)/\Below w.heap.size w wr) (fun t _=>256 - (intOf t).toNat)
 case atStart =>
  exact ⟨0,by omega,rfl,zdE w x y,zdF w x y,zdH w x y,⟨0#256,zdG w x y⟩,zdI w x y⟩
 case round =>
  obtain ⟨k,hk,rfl,hx,hy,hm,⟨z,hz⟩,hbel⟩:=hrel;have hsz:w.heap.size+1+1+1<wr.heap.size:=hm.lt;have HX:=hO hx;have HY:=hO hy;have HM:=hO hm;have HZ:=hO hz;have HB:=hO hbel;by_cases hlt:k<256
  ·have HS:=hO (zdD 3 x y k hlt)
   clear hm hz hbel;obtain ⟨l0,c0,c1,c2,c3,f0,f1,f2,f3⟩:=hx;obtain ⟨l1,d0,d1,d2,d3,g0,g1,g2,g3⟩:=hy;have HR:Hid (Below wr.heap.size wr wr):=bR _ _;have hk0:(0:Int)<=(k:Int):=by omega
   have hk1:(k:Int)<=255:=by omega
   cases hxb:zhT x k <;> cases hyb:zhT y k
   ·have HE:Hid (zaR 3 x y (k+1)=zaR 3 x y k ||| bt k):=(by have h:=HS.out;rw [hxb,hyb,iP (by decide)] at h;exact h)
    clear HS;go_wp2
    go_region_held3 (fun w'=>w'.cell? ⟨w.heap.size,0,none⟩=some (.int .u64 (wd x 0))/\w'.cell? ⟨w.heap.size,1,none⟩=some (.int .u64 (wd x 1))/\w'.cell? ⟨w.heap.size,2,none⟩=some (.int .u64 (wd x 2))/\w'.cell? ⟨w.heap.size,3,none⟩=some (.int .u64 (wd x 3))/\w'.cell? ⟨w.heap.size+1,0,none⟩=some (.int .u64 (wd y 0))/\w'.cell? ⟨w.heap.size+1,1,none⟩=some (.int .u64 (wd y 1))/\w'.cell? ⟨w.heap.size+1,2,none⟩=some (.int .u64 (wd y 2))/\w'.cell? ⟨w.heap.size+1,3,none⟩=some (.int .u64 (wd y 3))) (first | go_keep | (go_split_ands;refine ⟨?_,?_,?_,?_,?_,?_,?_,?_⟩ <;> (rw [hb.cell (by simp;omega)];first | assumption | simp [*]))) ((go_at_call 122;refine (zbl _ _ _).mono ?_;rintro e w1 ⟨rfl,hb⟩;have hz1:=hb.size;(try simp at hz1);replace HR:Hid (Below wr.heap.size wr w1):=(by first | exact HR.trans (hb.mono (by omega)) | exact HR.drew.trans (hb.mono (by simp)))))
    clear c0 c1 c2 c3 f0 f1 f2 f3 d0 d1 d2 d3 g0 g1 g2 g3;have hM1:=HM.below HR (by omega);have hX1:=hO (HX.below HR (by omega));have hY1:=hO (HY.below HR (by omega));have hZ1:=hO (HZ.below HR (by omega));have hB1:=hO (HB.trans (HR.mono (by omega)));clear HM HX HY HZ HB;generalize zaR 3 x y k=mm at *;have HM1:=hO hM1;obtain ⟨l5,c0,c1,c2,c3,f0,f1,f2,f3⟩:=hM1;go_wp2_with fail;refine (zbw mm k _ (by omega) (by omega)).mono ?_;rintro e w2 ⟨rfl,hb2⟩;clear c0 c1 c2 c3 f0 f1 f2 f3;obtain ⟨l5,c0,c1,c2,c3,f0,f1,f2,f3⟩:=HM1.below hb2 l5;go_wp2
    go_roundw
    case rel =>
     refine ⟨k+1,by omega,by go_num,(hX1.out.below hb2 (by omega)).put_other (by omega) _,(hY1.out.below hb2 (by omega)).put_other (by omega) _,?_,⟨z,(hZ1.out.below hb2 (by omega)).put_other (by omega) _⟩,?_⟩
     ·rw [HE.out];exact (HM1.below hb2 (by omega)).put _
     ·exact ((((hB1.out.trans (hb2.mono (by omega))).setCell (by simp;omega) _).setCell (by simp;omega) _).setCell (by simp;omega) _).setCell (by simp;omega) _
    case measure=>simp [intOf];omega
   ·have HE:Hid (zaR 3 x y (k+1)=zaR 3 x y k ||| bt k):=(by have h:=HS.out;rw [hxb,hyb,iP (by decide)] at h;exact h)
    clear HS;go_wp2
    go_region_held3 (fun w'=>w'.cell? ⟨w.heap.size,0,none⟩=some (.int .u64 (wd x 0))/\w'.cell? ⟨w.heap.size,1,none⟩=some (.int .u64 (wd x 1))/\w'.cell? ⟨w.heap.size,2,none⟩=some (.int .u64 (wd x 2))/\w'.cell? ⟨w.heap.size,3,none⟩=some (.int .u64 (wd x 3))/\w'.cell? ⟨w.heap.size+1,0,none⟩=some (.int .u64 (wd y 0))/\w'.cell? ⟨w.heap.size+1,1,none⟩=some (.int .u64 (wd y 1))/\w'.cell? ⟨w.heap.size+1,2,none⟩=some (.int .u64 (wd y 2))/\w'.cell? ⟨w.heap.size+1,3,none⟩=some (.int .u64 (wd y 3))) (first | go_keep | (go_split_ands;refine ⟨?_,?_,?_,?_,?_,?_,?_,?_⟩ <;> (rw [hb.cell (by simp;omega)];first | assumption | simp [*]))) ((go_at_call 122;refine (zbl _ _ _).mono ?_;rintro e w1 ⟨rfl,hb⟩;have hz1:=hb.size;(try simp at hz1);replace HR:Hid (Below wr.heap.size wr w1):=(by first | exact HR.trans (hb.mono (by omega)) | exact HR.drew.trans (hb.mono (by simp)))))
    clear c0 c1 c2 c3 f0 f1 f2 f3 d0 d1 d2 d3 g0 g1 g2 g3;have hM1:=HM.below HR (by omega);have hX1:=hO (HX.below HR (by omega));have hY1:=hO (HY.below HR (by omega));have hZ1:=hO (HZ.below HR (by omega));have hB1:=hO (HB.trans (HR.mono (by omega)));clear HM HX HY HZ HB;generalize zaR 3 x y k=mm at *;have HM1:=hO hM1;obtain ⟨l5,c0,c1,c2,c3,f0,f1,f2,f3⟩:=hM1;go_wp2_with fail;refine (zbw mm k _ (by omega) (by omega)).mono ?_;rintro e w2 ⟨rfl,hb2⟩;clear c0 c1 c2 c3 f0 f1 f2 f3;obtain ⟨l5,c0,c1,c2,c3,f0,f1,f2,f3⟩:=HM1.below hb2 l5;go_wp2
    go_roundw
    case rel =>
     refine ⟨k+1,by omega,by go_num,(hX1.out.below hb2 (by omega)).put_other (by omega) _,(hY1.out.below hb2 (by omega)).put_other (by omega) _,?_,⟨z,(hZ1.out.below hb2 (by omega)).put_other (by omega) _⟩,?_⟩
     ·rw [HE.out];exact (HM1.below hb2 (by omega)).put _
     ·exact ((((hB1.out.trans (hb2.mono (by omega))).setCell (by simp;omega) _).setCell (by simp;omega) _).setCell (by simp;omega) _).setCell (by simp;omega) _
    case measure=>simp [intOf];omega
   ·have HE:Hid (zaR 3 x y (k+1)=zaR 3 x y k):=(by have h:=HS.out;rw [hxb,hyb,iN (by decide)] at h;exact h)
    clear HS;go_wp2
    go_region_held3 (fun w'=>w'.cell? ⟨w.heap.size,0,none⟩=some (.int .u64 (wd x 0))/\w'.cell? ⟨w.heap.size,1,none⟩=some (.int .u64 (wd x 1))/\w'.cell? ⟨w.heap.size,2,none⟩=some (.int .u64 (wd x 2))/\w'.cell? ⟨w.heap.size,3,none⟩=some (.int .u64 (wd x 3))/\w'.cell? ⟨w.heap.size+1,0,none⟩=some (.int .u64 (wd y 0))/\w'.cell? ⟨w.heap.size+1,1,none⟩=some (.int .u64 (wd y 1))/\w'.cell? ⟨w.heap.size+1,2,none⟩=some (.int .u64 (wd y 2))/\w'.cell? ⟨w.heap.size+1,3,none⟩=some (.int .u64 (wd y 3))) (first | go_keep | (go_split_ands;refine ⟨?_,?_,?_,?_,?_,?_,?_,?_⟩ <;> (rw [hb.cell (by simp;omega)];first | assumption | simp [*]))) ((go_at_call 122;refine (zbl _ _ _).mono ?_;rintro e w1 ⟨rfl,hb⟩;have hz1:=hb.size;(try simp at hz1);replace HR:Hid (Below wr.heap.size wr w1):=(by first | exact HR.trans (hb.mono (by omega)) | exact HR.drew.trans (hb.mono (by simp)))))
    clear c0 c1 c2 c3 f0 f1 f2 f3 d0 d1 d2 d3 g0 g1 g2 g3;have hM1:=HM.below HR (by omega);have hX1:=hO (HX.below HR (by omega));have hY1:=hO (HY.below HR (by omega));have hZ1:=hO (HZ.below HR (by omega));have hB1:=hO (HB.trans (HR.mono (by omega)));clear HM HX HY HZ HB;generalize zaR 3 x y k=mm at *;have HM1:=hO hM1;clear hM1;go_wp2
    go_roundw
    case rel=>exact ⟨k+1,by omega,by go_num,hX1.out,hY1.out,(by rw [HE.out];exact HM1.out),⟨z,hZ1.out⟩,hB1.out⟩
    case measure=>simp [intOf];omega
   ·have HE:Hid (zaR 3 x y (k+1)=zaR 3 x y k):=(by have h:=HS.out;rw [hxb,hyb,iN (by decide)] at h;exact h)
    clear HS;go_wp2
    go_region_held3 (fun w'=>w'.cell? ⟨w.heap.size,0,none⟩=some (.int .u64 (wd x 0))/\w'.cell? ⟨w.heap.size,1,none⟩=some (.int .u64 (wd x 1))/\w'.cell? ⟨w.heap.size,2,none⟩=some (.int .u64 (wd x 2))/\w'.cell? ⟨w.heap.size,3,none⟩=some (.int .u64 (wd x 3))/\w'.cell? ⟨w.heap.size+1,0,none⟩=some (.int .u64 (wd y 0))/\w'.cell? ⟨w.heap.size+1,1,none⟩=some (.int .u64 (wd y 1))/\w'.cell? ⟨w.heap.size+1,2,none⟩=some (.int .u64 (wd y 2))/\w'.cell? ⟨w.heap.size+1,3,none⟩=some (.int .u64 (wd y 3))) (first | go_keep | (go_split_ands;refine ⟨?_,?_,?_,?_,?_,?_,?_,?_⟩ <;> (rw [hb.cell (by simp;omega)];first | assumption | simp [*]))) ((go_at_call 122;refine (zbl _ _ _).mono ?_;rintro e w1 ⟨rfl,hb⟩;have hz1:=hb.size;(try simp at hz1);replace HR:Hid (Below wr.heap.size wr w1):=(by first | exact HR.trans (hb.mono (by omega)) | exact HR.drew.trans (hb.mono (by simp)))))
    clear c0 c1 c2 c3 f0 f1 f2 f3 d0 d1 d2 d3 g0 g1 g2 g3;have hM1:=HM.below HR (by omega);have hX1:=hO (HX.below HR (by omega));have hY1:=hO (HY.below HR (by omega));have hZ1:=hO (HZ.below HR (by omega));have hB1:=hO (HB.trans (HR.mono (by omega)));clear HM HX HY HZ HB;generalize zaR 3 x y k=mm at *;have HM1:=hO hM1;clear hM1;go_wp2
    go_roundw
    case rel=>exact ⟨k+1,by omega,by go_num,hX1.out,hY1.out,(by rw [HE.out];exact HM1.out),⟨z,hZ1.out⟩,hB1.out⟩
    case measure=>simp [intOf];omega
  ·have hke:k=256:=by omega
   subst hke;clear hx hy hbel;have HQ:Hid (zaR 3 x y 256=ziE 3 x y):=rfl;generalize zaR 3 x y 256=mm at *;obtain ⟨l0,c0,c1,c2,c3,f0,f1,f2,f3⟩:=hm;obtain ⟨l1,d0,d1,d2,d3,g0,g1,g2,g3⟩:=hz;go_wp2
   rw [<-HQ.out];refine bodyPost_ret (v:=sv mm) (by simp [results,Tryz.results118,go_sem, *]) rfl ⟨rfl,?_⟩;exact (((HB.setCell (by simp;omega) _).setCell (by simp;omega) _).setCell (by simp;omega) _).setCell (by simp;omega) _
theorem zhi (x:BitVec 256) (i:Nat) (hi:i<4):bits .xor .u64 IntKind.u64.max (wd x i)=wd (~~~ x) i:=by
 have hm:IntKind.u64.max=18446744073709551615:=rfl;rw [hm,u64_xor _ _ (by omega) (by omega) (zfe _ _) (zgs _ _)];refine zbv _ _ _ (Int.natCast_nonneg _) fun j=>?_
 rw [Int.toNat_natCast,Nat.testBit_xor,zbG,BitVec.getLsbD_not];have e:(18446744073709551615:Int).toNat=2 ^ 64 - 1:=rfl;rw [e,Nat.testBit_two_pow_sub_one];by_cases h:j<64
 ·have:64 * i+j<256:=by omega
  simp [h,this]
 ·simp [h]
theorem zgv (x:BitVec 256) (w:World) :
  Calls Tryz.prog 150 #[sv x] w (rB w (sv (~~~ x))):=by
 have hsg:IntKind.u64.signed=false:=rfl;go_enter Tryz.func150,Tryz.ntmps150;go_wp2
 refine wp_loop_rounds 5 ?_
 iterate 5
  rw [rounds_succ];go_wp2
 exact bodyPost_ret (v:=.agg #[.int .u64 (bits BinOp.xor IntKind.u64 IntKind.u64.max (wd x 0)),.int .u64 (bits BinOp.xor IntKind.u64 IntKind.u64.max (wd x 1)),.int .u64 (bits BinOp.xor IntKind.u64 IntKind.u64.max (wd x 2)),.int .u64 (bits BinOp.xor IntKind.u64 IntKind.u64.max (wd x 3))]) (by simp [results,Tryz.results150,go_sem]) rfl ⟨zcE (zhi x 0 (by omega)) (zhi x 1 (by omega)) (zhi x 2 (by omega)) (zhi x 3 (by omega)),(((bR _ _).alloc (nL _) _).alloc (by simp) _)⟩
theorem ziG (x y:BitVec 256) (w:World) :
  Calls Tryz.prog 161 #[sv x,sv y] w (rB w (sv (x ||| y))):=by
 go_enter Tryz.func161,Tryz.ntmps161;go_wp2
 refine wp_loop_rounds 5 ?_
 iterate 4
  rw [rounds_succ];go_wp2
  go_region
  go_wp2
 rw [rounds_succ];go_wp2
 exact bodyPost_ret (v:=.agg #[.int .u64 (bits BinOp.or IntKind.u64 (wd x 0) (wd y 0)),.int .u64 (bits BinOp.or IntKind.u64 (wd x 1) (wd y 1)),.int .u64 (bits BinOp.or IntKind.u64 (wd x 2) (wd y 2)),.int .u64 (bits BinOp.or IntKind.u64 (wd x 3) (wd y 3))]) (by simp [results,Tryz.results161,go_sem]) rfl ⟨zcE (zhR x y 0) (zhR x y 1) (zhR x y 2) (zhR x y 3),(Below.drew (Below.drew (Below.drew (Below.drew ((((bR _ _).alloc (nL _) _).alloc (by simp) _).alloc (by simp;omega) _)))))⟩
theorem zk9 (x y:BitVec 256) (w:World) :
  Calls Tryz.prog 181 #[sv x,sv y] w (rB w (sv (x &&& y))):=by
 go_enter Tryz.func181,Tryz.ntmps181;go_wp2
 refine wp_loop_rounds 5 ?_
 iterate 4
  rw [rounds_succ];go_wp2
  go_region
  go_wp2
 rw [rounds_succ];go_wp2
 exact bodyPost_ret (v:=.agg #[.int .u64 (bits BinOp.and IntKind.u64 (wd x 0) (wd y 0)),.int .u64 (bits BinOp.and IntKind.u64 (wd x 1) (wd y 1)),.int .u64 (bits BinOp.and IntKind.u64 (wd x 2) (wd y 2)),.int .u64 (bits BinOp.and IntKind.u64 (wd x 3) (wd y 3))]) (by simp [results,Tryz.results181,go_sem]) rfl ⟨zcE (zhf x y 0) (zhf x y 1) (zhf x y 2) (zhf x y 3),(Below.drew (Below.drew (Below.drew (Below.drew ((((bR _ _).alloc (nL _) _).alloc (by simp) _).alloc (by simp;omega) _)))))⟩
theorem zna (w:World) (a:Obj):(w.alloc a).heap.size=w.heap.size+1:=by simp
theorem znb (w:World) (a b:Obj):((w.alloc a).alloc b).heap.size=w.heap.size+1+1:=by simp
theorem zla (w:World) (a b c:Obj):(((w.alloc a).alloc b).alloc c).heap.size=w.heap.size+1+1+1:=by simp
theorem ziH (w:World) (a b:Obj):Holds (((w.alloc a).alloc b).alloc z4) (w.heap.size+1+1) 0#256:=by
 have h:=Holds.zero ((w.alloc a).alloc b);rw [znb] at h;exact h
theorem zce (w:World) (a b c:Obj):Below w.heap.size w (((w.alloc a).alloc b).alloc c) :=
 (((bR _ _).alloc (nL _) _).alloc (by simp) _).alloc (by simp;omega) _
theorem below2 (w:World) (a b:Obj):Below w.heap.size w ((w.alloc a).alloc b) :=
 ((bR _ _).alloc (nL _) _).alloc (by simp) _
theorem zas (x y:BitVec 256) (w:World) :
  Calls Tryz.prog 88 #[sv x,sv y] w (rB w (sv (x ||| y))):=by
 have hsz:=zla w (c4 x) (c4 y) z4;have HH:=hO (ziH w (c4 x) (c4 y));have HB:=hO (zce w (c4 x) (c4 y) z4);go_enter Tryz.func88,Tryz.ntmps88;go_wp2_with fail;refine (zk6 x y _).mono ?_;rintro e w1 ⟨rfl,hb⟩;have hl:=hb.size;have HR:=hO (HB.trans (hb.mono (by rw [hsz];omega)));obtain ⟨l0,c0,c1,c2,c3,f0,f1,f2,f3⟩:=HH.below hb (by rw [hsz];omega);rw [zhU];generalize hr:x ||| y=r;have Hr:=hO hr;clear hr;clear hsz hl;go_wp2
 exact bodyPost_ret (v:=sv r) (by simp [results,Tryz.results88,go_sem, *]) rfl ⟨by rw [Hr.out],(((HR.setCell (by simp;omega) _).setCell (by simp;omega) _).setCell (by simp;omega) _).setCell (by simp;omega) _⟩
theorem ziI (x y:BitVec 256) (w:World) :
  Calls Tryz.prog 117 #[sv x,sv y] w (rB w (sv (x &&& ~~~ y))):=by
 have hsz:=zla w (c4 x) (c4 y) z4;have HH:=hO (ziH w (c4 x) (c4 y));have HB:=hO (zce w (c4 x) (c4 y) z4);go_enter Tryz.func117,Tryz.ntmps117;go_wp2_with fail;refine (zk7 x y _).mono ?_;rintro e w1 ⟨rfl,hb⟩;have hl:=hb.size;have HR:=hO (HB.trans (hb.mono (by rw [hsz];omega)));obtain ⟨l0,c0,c1,c2,c3,f0,f1,f2,f3⟩:=HH.below hb (by rw [hsz];omega);rw [ziF];generalize hr:x &&& ~~~ y=r;have Hr:=hO hr;clear hr;clear hsz hl;go_wp2
 exact bodyPost_ret (v:=sv r) (by simp [results,Tryz.results117,go_sem, *]) rfl ⟨by rw [Hr.out],(((HR.setCell (by simp;omega) _).setCell (by simp;omega) _).setCell (by simp;omega) _).setCell (by simp;omega) _⟩
theorem zhj (x:BitVec 256) (w:World) :
  Calls Tryz.prog 91 #[sv x] w (rB w (sv (~~~ x))):=by
 have hsz:=znb w (c4 x) z4;have HH:=hO (Holds.zero' w (c4 x));have HB:=hO (below2 w (c4 x) z4);go_enter Tryz.func91,Tryz.ntmps91;go_wp2_with fail;refine (zk8 x x _).mono ?_;rintro e w1 ⟨rfl,hb⟩;have hl:=hb.size;have HR:=hO (HB.trans (hb.mono (by rw [hsz];omega)));obtain ⟨l0,c0,c1,c2,c3,f0,f1,f2,f3⟩:=HH.below hb (by rw [hsz];omega);rw [zk5];generalize hr : ~~~ x=r;have Hr:=hO hr;clear hr;clear hsz hl;go_wp2
 exact bodyPost_ret (v:=sv r) (by simp [results,Tryz.results91,go_sem, *]) rfl ⟨by rw [Hr.out],(((HR.setCell (by simp) _).setCell (by simp) _).setCell (by simp) _).setCell (by simp) _⟩
theorem zlb (x y:BitVec 256) (w:World) :
  Calls Tryz.prog 166 #[sv x,sv y] w (rB w (sv (x &&& ~~~ y))):=by
 have hsz:=zla w (c4 x) (c4 y) z4;have HX:=hO (((Holds.new w x).alloc (c4 y)).alloc z4);have HH:=hO (ziH w (c4 x) (c4 y));have HB:=hO (zce w (c4 x) (c4 y) z4);have HR:Hid (Below (w.heap.size+1+1+1) (((w.alloc (c4 x)).alloc (c4 y)).alloc z4) (((w.alloc (c4 x)).alloc (c4 y)).alloc z4)):=bR _ _;go_enter Tryz.func166,Tryz.ntmps166;go_wp2
 go_region_with (first | (go_at_call 150;refine (zgv _ _).mono ?_;rintro e w1 ⟨rfl,hb⟩;have hz1:=hb.size;(try simp at hz1);replace HR:Hid (Below (w.heap.size+1+1+1) (((w.alloc (c4 x)).alloc (c4 y)).alloc z4) w1):=(by first | exact HR.trans (hb.mono (by omega)) | exact HR.drew.trans (hb.mono (by simp)));obtain ⟨l5,p0,p1,p2,p3,q0,q1,q2,q3⟩:=HH.below HR (by omega);obtain ⟨l0,c0,c1,c2,c3,f0,f1,f2,f3⟩:=HX.below HR (by omega)) | (go_at_call 181;refine (zk9 _ _ _).mono ?_;rintro e w1 ⟨rfl,hb⟩;have hz1:=hb.size;(try simp at hz1);replace HR:Hid (Below (w.heap.size+1+1+1) (((w.alloc (c4 x)).alloc (c4 y)).alloc z4) w1):=(by first | exact HR.trans (hb.mono (by omega)) | exact HR.drew.trans (hb.mono (by simp)));obtain ⟨l5,p0,p1,p2,p3,q0,q1,q2,q3⟩:=HH.below HR (by omega);obtain ⟨l0,c0,c1,c2,c3,f0,f1,f2,f3⟩:=HX.below HR (by omega)))
 all_goals
  go_wp2
  exact bodyPost_ret (v:=sv (x &&& ~~~ y)) (by simp [results,Tryz.results166,go_sem, *]) rfl ⟨rfl,((((HB.trans (HR.mono (by omega))).setCell (by simp;omega) _).setCell (by simp;omega) _).setCell (by simp;omega) _).setCell (by simp;omega) _⟩
open Go.RowKit Go.Shelf
attribute [local go_sem] Oper.semAt_some
theorem zbx {w:World} {base base' e size:Nat} {v:Value} {n:Nat} {xs:List Value} (h:w.ownsRow base e size v n xs) (hb:base'<=base):w.ownsRow base' e size v n xs:=by
 refine ⟨h.1,h.2.imp id ?_⟩;rintro ⟨g,cap,cur,h1,h2,h3⟩;exact ⟨g,cap,cur,h1,by omega,h3⟩
theorem zcU (x:BitVec 256) (lo hi:Int) (w:World) (h0:0<=lo) (hle:lo<=hi) (h1:hi<=255) :
  Calls Tryz.prog 168 #[sv x,.int .i64 lo,.int .i64 hi] w (rB w (sv (x ||| spn lo hi))):=by
 go_enter Tryz.func168,Tryz.ntmps168;go_wp2
 go_loopw [7] (fun t wr=>∃b:Int,lo<=b/\b<=hi+1/\t=.int .i64 b/\Holds wr w.heap.size (x ||| spn lo (b - 1))/\(∃z,Holds wr (w.heap.size+1) z)/\Below w.heap.size w wr) (fun t _=>(hi+1 - intOf t).toNat)
 case atStart =>
  refine ⟨lo,by omega,by omega,rfl,?_,⟨0#256,Holds.zero' w _⟩,?_⟩
  ·rw [ziC lo h0 (by omega),BitVec.or_zero];exact (Holds.new w x).alloc _
  ·exact ((bR _ _).alloc (nL _) _).alloc (by simp) _
 case round =>
  obtain ⟨b,hb0,hb1,rfl,hx,⟨z,hz⟩,hbel⟩:=hrel;have hsz:w.heap.size+1<wr.heap.size:=hz.lt;by_cases hlt:b<=hi
  ·have HS:=hO (zhh lo b h0 hb0 (by omega))
   generalize hy:x ||| spn lo (b - 1)=y at hx;have HY:=hO hy;clear hy;have HX:=hO hx;have HZ:=hO hz;have HB:=hO hbel;obtain ⟨l0,c0,c1,c2,c3,f0,f1,f2,f3⟩:=hx;clear hz hbel;go_wp2_with fail;refine (zfh y b _ (by omega) (by omega)).mono ?_;rintro e w1 ⟨rfl,hb⟩;obtain ⟨l0,c0,c1,c2,c3,f0,f1,f2,f3⟩:=HX.below hb l0;go_wp2
   go_roundw
   case rel =>
    refine ⟨b+1,by omega,by omega,rfl,?_,⟨z,?_⟩,?_⟩
    ·rw [show b+1 - 1=b from by omega,HS.out,<-BitVec.or_assoc,HY.out]
     exact (HX.below hb (by omega)).put _
    ·exact (HZ.below hb (by omega)).put_other (by omega) _
    ·exact ((((HB.trans (hb.mono (by omega))).setCell (nL _) _).setCell (nL _) _).setCell (nL _) _).setCell (nL _) _
   case measure=>simp [intOf];omega
  ·have hbe:b - 1=hi:=by omega
   rw [hbe] at hx;generalize hy:x ||| spn lo hi=y at hx;have HY:=hO hy;clear hy;have HZ:=hO hz;have HB:=hO hbel;obtain ⟨l0,c0,c1,c2,c3,f0,f1,f2,f3⟩:=hx;obtain ⟨l1,d0,d1,d2,d3,g0,g1,g2,g3⟩:=hz;clear hbel;go_wp2
   rw [HY.out];refine bodyPost_ret (v:=sv y) (by simp [results,Tryz.results168,go_sem, *]) rfl ⟨rfl,?_⟩;exact (((HB.setCell (by simp) _).setCell (by simp) _).setCell (by simp) _).setCell (by simp) _
theorem zaL (w:World) (a:Obj):Below w.heap.size w (w.alloc a):=(bR _ _).alloc (nL _) _
theorem zei (lo hi:Int) (w:World) (h0:0<=lo) (hle:lo<=hi) (h1:hi<=255) :
  Calls Tryz.prog 168 #[.agg #[.int .u64 0,.int .u64 0,.int .u64 0,.int .u64 0],.int .i64 lo,.int .i64 hi] w (rB w (sv (spn lo hi))):=by
 have h:=zcU 0#256 lo hi w h0 hle h1;rw [BitVec.zero_or,sv,zak,zak,zak,zak] at h;exact h
def znc (b:Int):Bool:=decide (65<=b)&&decide (b<=90)
theorem zco (b:Int) (w:World) :
  Calls Tryz.prog 152 #[.int .i64 b] w (rU w (.bool (znc b))):=by
 by_cases h0:65<=b
 ·have hd:decide (65<=b)=true:=by simpa using h0
  go_enter Tryz.func152,Tryz.ntmps152;go_wp2
  go_ret
  exact ⟨by simp [znc,h0],rfl⟩
 ·have hd:decide (65<=b)=false:=by simpa using h0
  go_enter Tryz.func152,Tryz.ntmps152;go_wp2
  go_ret
  exact ⟨by unfold znc;rw [hd];rfl,rfl⟩
theorem zaC (lo hi:Int) (w:World) (h0:0<=lo) (hle:lo<=hi) (h1:hi<=255) :
  Calls Tryz.prog 165 #[.int .i64 lo,.int .i64 hi] w (rB w (sv (spn lo hi))):=by
 have HH:=hO (Holds.zero w);have HR:=hO (zaL w z4);have HQ:Hid (Below (w.heap.size+1) (w.alloc z4) (w.alloc z4)):=bR _ _;go_enter Tryz.func165,Tryz.ntmps165;go_wp2_with fail;refine (zei lo hi _ h0 hle h1).mono ?_;rintro e w1 ⟨rfl,hb⟩
 replace HQ:=(show Hid _ from HQ.trans (hb.mono (by first | exact HQ.size | (have h:=HQ.size;simp at h;omega) | simp)))
 have HR1:=hO (HR.trans (HQ.mono (by omega)));obtain ⟨l0,c0,c1,c2,c3,f0,f1,f2,f3⟩:=HH.below HQ (by omega);generalize hr:spn lo hi=r;have Hr:=hO hr;clear hr;go_wp2
 exact bodyPost_ret (v:=sv r) (by simp [results,Tryz.results165,go_sem, *]) rfl ⟨by rw [Hr.out],(((HR1.setCell (by simp) _).setCell (by simp) _).setCell (by simp) _).setCell (by simp) _⟩
theorem zej (w:World) :
  Calls Tryz.prog 163 #[] w (rB w (sv (spn 65 90 ||| spn 97 122))):=by
 have HH:=hO (Holds.zero w);have HR:=hO (zaL w z4);have HQ:Hid (Below (w.heap.size+1) (w.alloc z4) (w.alloc z4)):=bR _ _;go_enter Tryz.func163,Tryz.ntmps163;go_wp2_with fail;refine (zaC 65 90 _ (by omega) (by omega) (by omega)).mono ?_;rintro e w1 ⟨rfl,hb⟩
 replace HQ:=(show Hid _ from HQ.trans (hb.mono (by first | exact HQ.size | (have h:=HQ.size;simp at h;omega) | simp)))
 go_wp2_with fail;refine (zcU _ 97 122 _ (by omega) (by omega) (by omega)).mono ?_;rintro e w1 ⟨rfl,hb⟩
 replace HQ:=(show Hid _ from HQ.trans (hb.mono (by first | exact HQ.size | (have h:=HQ.size;simp at h;omega) | simp)))
 have HR1:=hO (HR.trans (HQ.mono (by omega)));obtain ⟨l0,c0,c1,c2,c3,f0,f1,f2,f3⟩:=HH.below HQ (by omega);generalize hr:spn 65 90 ||| spn 97 122=r;have Hr:=hO hr;clear hr;go_wp2
 exact bodyPost_ret (v:=sv r) (by simp [results,Tryz.results163,go_sem, *]) rfl ⟨by rw [Hr.out],(((HR1.setCell (by simp) _).setCell (by simp) _).setCell (by simp) _).setCell (by simp) _⟩
theorem zcf (w:World) :
  Calls Tryz.prog 167 #[] w (rB w (sv (spn 65 90 ||| spn 97 122 ||| spn 48 57))):=by
 have HH:=hO (Holds.zero w);have HR:=hO (zaL w z4);have HQ:Hid (Below (w.heap.size+1) (w.alloc z4) (w.alloc z4)):=bR _ _;go_enter Tryz.func167,Tryz.ntmps167;go_wp2_with fail;refine (zej _).mono ?_;rintro e w1 ⟨rfl,hb⟩
 replace HQ:=(show Hid _ from HQ.trans (hb.mono (by first | exact HQ.size | (have h:=HQ.size;simp at h;omega) | simp)))
 go_wp2_with fail;refine (zcU _ 48 57 _ (by omega) (by omega) (by omega)).mono ?_;rintro e w1 ⟨rfl,hb⟩
 replace HQ:=(show Hid _ from HQ.trans (hb.mono (by first | exact HQ.size | (have h:=HQ.size;simp at h;omega) | simp)))
 have HR1:=hO (HR.trans (HQ.mono (by omega)));obtain ⟨l0,c0,c1,c2,c3,f0,f1,f2,f3⟩:=HH.below HQ (by omega);generalize hr:spn 65 90 ||| spn 97 122 ||| spn 48 57=r;have Hr:=hO hr;clear hr;go_wp2
 exact bodyPost_ret (v:=sv r) (by simp [results,Tryz.results167,go_sem, *]) rfl ⟨by rw [Hr.out],(((HR1.setCell (by simp) _).setCell (by simp) _).setCell (by simp) _).setCell (by simp) _⟩
def zaP (b:Int):Bool:=(b==92)||((b==93)||((b==91)||((b==94)||((b==45)||(b==37)))))
def zhk (b:Int):Bool:=decide (32<=b)&&decide (b<=126)
theorem zcF (b:Int) (w:World) :
  Calls Tryz.prog 190 #[.int .i64 b] w (rU w (.bool (zhk b))):=by
 by_cases h0:32<=b
 ·have hd:decide (32<=b)=true:=by simpa using h0
  go_enter Tryz.func190,Tryz.ntmps190;go_wp2
  go_ret
  exact ⟨by simp [zhk,h0],rfl⟩
 ·have hd:decide (32<=b)=false:=by simpa using h0
  go_enter Tryz.func190,Tryz.ntmps190;go_wp2
  go_ret
  exact ⟨by unfold zhk;rw [hd];rfl,rfl⟩
theorem zeX (b:Int) (w:World) :
  Calls Tryz.prog 194 #[.int .i64 b] w (rU w (.bool (zaP b))):=by
 cases h1:(b==92)
 ·cases h2:(b==93)
  ·cases h3:(b==91)
   ·cases h4:(b==94)
    ·cases h5:(b==45)
     ·cases h6:(b==37)
      ·have HE:Hid (zaP b=false):=(by show zaP b=false;unfold zaP;rw [h1,h2,h3,h4,h5,h6];rfl)
       go_enter Tryz.func194,Tryz.ntmps194;go_wp2
       go_ret
       exact ⟨zaB HE.symm,rfl⟩
      ·have HE:Hid (zaP b=true):=(by show zaP b=true;unfold zaP;rw [h1,h2,h3,h4,h5,h6];rfl)
       go_enter Tryz.func194,Tryz.ntmps194;go_wp2
       go_ret
       exact ⟨zaB HE.symm,rfl⟩
     ·have HE:Hid (zaP b=true):=(by show zaP b=true;unfold zaP;rw [h5];simp)
      go_enter Tryz.func194,Tryz.ntmps194;go_wp2
      go_ret
      exact ⟨zaB HE.symm,rfl⟩
    ·have HE:Hid (zaP b=true):=(by show zaP b=true;unfold zaP;rw [h4];simp)
     go_enter Tryz.func194,Tryz.ntmps194;go_wp2
     go_ret
     exact ⟨zaB HE.symm,rfl⟩
   ·have HE:Hid (zaP b=true):=(by show zaP b=true;unfold zaP;rw [h3];simp)
    go_enter Tryz.func194,Tryz.ntmps194;go_wp2
    go_ret
    exact ⟨zaB HE.symm,rfl⟩
  ·have HE:Hid (zaP b=true):=(by show zaP b=true;unfold zaP;rw [h2];simp)
   go_enter Tryz.func194,Tryz.ntmps194;go_wp2
   go_ret
   exact ⟨zaB HE.symm,rfl⟩
 ·have HE:Hid (zaP b=true):=(by show zaP b=true;unfold zaP;rw [h1];simp)
  go_enter Tryz.func194,Tryz.ntmps194;go_wp2
  go_ret
  exact ⟨zaB HE.symm,rfl⟩
def sml (n:Nat):BitVec 256×Int :=
 if n=97 then (spn 65 90 ||| spn 97 122,0) else
 if n=99 then (spn 0 31 ||| bt 127,0) else
 if n=100 then (spn 48 57,0) else
 if n=103 then (spn 33 126,0) else
 if n=108 then (spn 97 122,0) else
 if n=112 then (spn 33 126 &&& ~~~ (spn 65 90 ||| spn 97 122 ||| spn 48 57),0) else
 if n=115 then (spn 9 13 ||| bt 32,0) else
 if n=117 then (spn 65 90,0) else
 if n=119 then (spn 65 90 ||| spn 97 122 ||| spn 48 57,0) else
 if n=120 then (spn 48 57 ||| spn 65 70 ||| spn 97 102,0) else
 (0#256,10)
theorem znd:sml 97=(spn 65 90 ||| spn 97 122,0):=by unfold sml;rw [iP rfl]
theorem zne:sml 99=(spn 0 31 ||| bt 127,0):=by unfold sml;rw [iN (by omega),iP rfl]
theorem ziJ:sml 100=(spn 48 57,0):=by unfold sml;rw [iN (by omega),iN (by omega),iP rfl]
theorem ziK:sml 103=(spn 33 126,0):=by unfold sml;rw [iN (by omega),iN (by omega),iN (by omega),iP rfl]
theorem ziL:sml 108=(spn 97 122,0):=by unfold sml;rw [iN (by omega),iN (by omega),iN (by omega),iN (by omega),iP rfl]
theorem ziM:sml 112=(spn 33 126 &&& ~~~ (spn 65 90 ||| spn 97 122 ||| spn 48 57),0):=by unfold sml;rw [iN (by omega),iN (by omega),iN (by omega),iN (by omega),iN (by omega),iP rfl]
theorem ziN:sml 115=(spn 9 13 ||| bt 32,0):=by unfold sml;rw [iN (by omega),iN (by omega),iN (by omega),iN (by omega),iN (by omega),iN (by omega),iP rfl]
theorem ziO:sml 117=(spn 65 90,0):=by unfold sml;rw [iN (by omega),iN (by omega),iN (by omega),iN (by omega),iN (by omega),iN (by omega),iN (by omega),iP rfl]
theorem ziP:sml 119=(spn 65 90 ||| spn 97 122 ||| spn 48 57,0):=by unfold sml;rw [iN (by omega),iN (by omega),iN (by omega),iN (by omega),iN (by omega),iN (by omega),iN (by omega),iN (by omega),iP rfl]
theorem ziQ:sml 120=(spn 48 57 ||| spn 65 70 ||| spn 97 102,0):=by unfold sml;rw [iN (by omega),iN (by omega),iN (by omega),iN (by omega),iN (by omega),iN (by omega),iN (by omega),iN (by omega),iN (by omega),iP rfl]
theorem zfl (n:Nat) (h97:n≠97) (h99:n≠99) (h100:n≠100) (h103:n≠103) (h108:n≠108) (h112:n≠112) (h115:n≠115) (h117:n≠117) (h119:n≠119) (h120:n≠120):sml n=(0#256,10):=by unfold sml;rw [iN h97,iN h99,iN h100,iN h103,iN h108,iN h112,iN h115,iN h117,iN h119,iN h120]
def cls (n:Nat):BitVec 256×Int :=
 if 65<=n/\n<=90 then (if (sml (n+32)).2=0 then (~~~ (sml (n+32)).1,0) else (0#256,(sml (n+32)).2)) else sml n
theorem zdJ (n:Nat):(sml n).2=0∨(sml n).2=10:=by
 by_cases h97:n=97
 ·rw [h97,znd];exact .inl rfl
 by_cases h99:n=99
 ·rw [h99,zne];exact .inl rfl
 by_cases h100:n=100
 ·rw [h100,ziJ];exact .inl rfl
 by_cases h103:n=103
 ·rw [h103,ziK];exact .inl rfl
 by_cases h108:n=108
 ·rw [h108,ziL];exact .inl rfl
 by_cases h112:n=112
 ·rw [h112,ziM];exact .inl rfl
 by_cases h115:n=115
 ·rw [h115,ziN];exact .inl rfl
 by_cases h117:n=117
 ·rw [h117,ziO];exact .inl rfl
 by_cases h119:n=119
 ·rw [h119,ziP];exact .inl rfl
 by_cases h120:n=120
 ·rw [h120,ziQ];exact .inl rfl
 rw [zfl n h97 h99 h100 h103 h108 h112 h115 h117 h119 h120];exact .inr rfl
def chr (s:ByteArray) (i:Nat):Int:=if h:i<s.size then (s[i].toNat:Int) else -1
theorem zal {s:ByteArray} {i:Nat} (h:i<s.size):chr s i=(s[i].toNat:Int):=by unfold chr;rw [dif_pos h]
theorem zau {s:ByteArray} {i:Nat} (h:¬i<s.size):chr s i = -1:=by unfold chr;rw [dif_neg h]
theorem zbf (s:ByteArray) (i:Nat):-1<=chr s i/\chr s i<=255:=by
 unfold chr
 split
 ·have:=s[i].toNat_lt;omega
 ·omega
theorem zaz {s:ByteArray} {i:Nat} (h:0<=chr s i):i<s.size:=by
 by_cases hi:i<s.size
 ·exact hi
 ·rw [zau hi] at h;omega
def zaG (c:Int):Int:=if 48<=c/\c<=57 then c - 48 else if 97<=c/\c<=102 then c - 87 else -1
def zbe (s:ByteArray) (i:Nat):Option (Nat×Nat) :=
 if 0<=zaG (chr s (i+2))/\0<=zaG (chr s (i+3)) then some ((16 * zaG (chr s (i+2))+zaG (chr s (i+3))).toNat,i+4) else none
def zaI (s:ByteArray) (i:Nat):Option (Nat×Nat) :=
 if chr s (i+1)=110 then some (10,i+2) else if chr s (i+1)=114 then some (13,i+2) else if chr s (i+1)=116 then some (9,i+2) else
 if chr s (i+1)=120 then zbe s i else if zaP (chr s (i+1)) then some ((chr s (i+1)).toNat,i+2) else none
def zaj (s:ByteArray) (i:Nat):Option (Nat×Nat) :=
 if chr s i=92 then zaI s i else if chr s i=93∨chr s i=45∨chr s i=37∨zhk (chr s i)=false then none else some ((chr s i).toNat,i+1)
abbrev Rd (α:Type):=Sum α (Nat×Int)
def zaV (s:ByteArray) (i:Nat):Rd (BitVec 256×Nat) :=
 if i+1<s.size/\(cls (chr s (i+1)).toNat).2=0 then .inl ((cls (chr s (i+1)).toNat).1,i+2) else .inr (i,10)
def zab (s:ByteArray) (i:Nat):Rd (BitVec 256×Nat) :=
 if chr s i=37 then zaV s i else
 match zaj s i with
 | none=>.inr (i,6)
 | some (lo,n) =>
  if chr s n=45 then
   match zaj s (n+1) with
   | none=>.inr ((n+1),6)
   | some (hi,e)=>if hi<lo then .inr (i,1) else .inl (spn lo hi,e)
  else .inl (spn lo lo,n)
def zaf (s:ByteArray):Nat->BitVec 256->Nat->Rd (BitVec 256×Nat)
 | 0,_,i=>.inr (i,6)
 | f+1,x,i =>
  if chr s i=93 then .inl (x,i) else
  match zab s i with
  | .inr (a,c)=>.inr (a,c)
  | .inl (y,n)=>zaf s f (x ||| y) n
theorem zbg (c:Int):-1<=zaG c/\zaG c<=15:=by unfold zaG;split;omega;split <;> omega
theorem zea {s:ByteArray} {i:Nat} (h:0<=zaG (chr s i)):i<s.size:=by
 by_cases hi:i<s.size
 ·exact hi
 ·rw [zau hi] at h;simp [zaG] at h
theorem zfm {s:ByteArray} {i b n:Nat} (h:zbe s i=some (b,n)):b<256/\i<n/\n<=s.size:=by
 unfold zbe at h
 split at h
 ·rename_i hh
  have h1:=zbg (chr s (i+2));have h2:=zbg (chr s (i+3));have h3:=zea hh.2
  simp at h;omega
 ·simp at h
theorem zfn {s:ByteArray} {i b n:Nat} (h:zaI s i=some (b,n)):b<256/\i<n/\n<=s.size:=by
 unfold zaI at h;have hc:=zbf s (i+1);by_cases hi:i+1<s.size
 ·split at h;(simp at h;omega)
  split at h;(simp at h;omega)
  split at h;(simp at h;omega)
  split at h;(exact zfm h)
  split at h
  ·simp at h;omega
  ·simp at h
 ·rw [zau hi] at h;simp [zaP] at h
theorem za7 {s:ByteArray} {i b n:Nat} (h:zaj s i=some (b,n)):b<256/\i<n/\n<=s.size:=by
 unfold zaj at h
 split at h
 ·exact zfn h
 ·split at h
  ·simp at h
  ·rename_i h1
   have hc:=zbf s i;have hi:i<s.size:=by
    by_cases hi:i<s.size
    ·exact hi
    ·rw [zau hi] at h1;simp [zhk] at h1
   simp at h;omega
theorem zc9 {s:ByteArray} {i n:Nat} {y:BitVec 256} (h:zab s i=.inl (y,n)):i<n/\n<=s.size:=by
 unfold zab at h
 split at h
 ·unfold zaV at h
  split at h
  ·simp at h;omega
  ·simp at h
 ·split at h
  ·simp at h
  ·rename_i lo m hm
   have b1:=za7 hm
   split at h
   ·split at h
    ·simp at h
    ·rename_i hi e he
     have b2:=za7 he
     split at h
     ·simp at h
     ·simp at h;omega
   ·simp at h;omega
end Go.Proofs.YtkihfkcmcdiajaaGreatDoor
