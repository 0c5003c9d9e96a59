import Derived.Laws.MakeOwn
import Derived.Test.YtkihfkcmcdiajabGreatDoorPo06
set_option maxRecDepth 100000
set_option maxHeartbeats 8000000
namespace Go.Proofs.YtkihfkcmcdiajabGreatDoor.R
open Go.RowKit
structure VB (W:World):Prop where
 lt:2<W.heap.size
 c0:W.cell? ⟨2,0,none⟩=some (.int .i32 0)
 c1:W.cell? ⟨2,1,none⟩=some (.int .i32 127)
 c2:W.cell? ⟨2,2,none⟩=some (.int .i32 128)
 c3:W.cell? ⟨2,3,none⟩=some (.int .i32 2047)
 c4:W.cell? ⟨2,4,none⟩=some (.int .i32 2048)
 c5:W.cell? ⟨2,5,none⟩=some (.int .i32 55295)
 c6:W.cell? ⟨2,6,none⟩=some (.int .i32 57344)
 c7:W.cell? ⟨2,7,none⟩=some (.int .i32 65535)
 c8:W.cell? ⟨2,8,none⟩=some (.int .i32 65536)
 c9:W.cell? ⟨2,9,none⟩=some (.int .i32 1114111)
theorem VB.below {B:Nat} {W W':World} (h:VB W) (hb:Below B W W') (hB:2<B):VB W':=by
 have key:∀k,W'.cell? ⟨2,k,none⟩=W.cell? ⟨2,k,none⟩:=fun k=>hb.cell (p:=⟨2,k,none⟩) hB
 exact ⟨nM h.lt hb.size,(key 0).trans h.c0,(key 1).trans h.c1,(key 2).trans h.c2,(key 3).trans h.c3,(key 4).trans h.c4,(key 5).trans h.c5,(key 6).trans h.c6,(key 7).trans h.c7,(key 8).trans h.c8,(key 9).trans h.c9⟩
def ShV (w w':World) (lo hi:Int) (e:Ending):Prop :=
 if bdB lo=true/\bdB hi=true then
  (if lo<=hi then ∃v xs,e=.returned (.tuple #[v,.int .i64 0])/\RR w' w.heap.size v (zcK lo hi) xs else e=.returned (.tuple #[.slice none 0 0,.int .i64 1]))
 else e=.returned (.tuple #[.slice none 0 0,.int .i64 30])
def zn7:Value:=.agg #[.int .i32 0,.int .i32 127,.int .i32 128,.int .i32 2047,.int .i32 2048,.int .i32 55295,.int .i32 57344,.int .i32 65535,.int .i32 65536,.int .i32 1114111]
theorem zgT (k:Nat) (b:Int×Int) (h:blks[k]?=some b) (W:World):(Instr.index 175 zn7 (.int .i64 (k:Int))).run Tryz.prog W=.ok (.agg #[.int .i32 b.1,.int .i32 b.2]) W:=by
 match k,h with
 | 0,h=>cases h;simp [zn7,Instr.index,run_underlying Tryz.underlying175,asIntOf,go_sem]
 | 1,h=>cases h;simp [zn7,Instr.index,run_underlying Tryz.underlying175,asIntOf,go_sem]
 | 2,h=>cases h;simp [zn7,Instr.index,run_underlying Tryz.underlying175,asIntOf,go_sem]
 | 3,h=>cases h;simp [zn7,Instr.index,run_underlying Tryz.underlying175,asIntOf,go_sem]
 | 4,h=>cases h;simp [zn7,Instr.index,run_underlying Tryz.underlying175,asIntOf,go_sem]
structure AtB (w wr:World) (v:Value) (ss:List zaY):Prop where
 r:∃xs,RR wr w.heap.size v ss xs
 b:bW w wr
theorem zjy (lo hi:Int) (h0:0<=lo) (h1:lo<=hi) (h2:hi<=1114111) (w:World) (hv:VB w) :
  Cl 177 #[.int .i64 lo,.int .i64 hi] w fun e w'=>(∃v xs,e=.returned (.tuple #[v,.int .i64 0])/\RR w' w.heap.size v (zcK lo hi) xs)/\bW w w':=by
 have HB1:Hid (∀w,Cl 179 #[.int .i64 lo] w (rU w (.bool true))):=fun w=>by
  have e:=zb9 lo w
  rwa [zdp ⟨h0,by omega⟩] at e
 have HB2:Hid (∀w,Cl 179 #[.int .i64 hi] w (rU w (.bool true))):=fun w=>by
  have e:=zb9 hi w
  rwa [zdp ⟨by omega,h2⟩] at e
 have HV:=hO hv;obtain ⟨_,c0,c1,c2,c3,c4,c5,c6,c7,c8,c9⟩:=hv;have hnl:decide (hi<lo)=false:=dF (by omega);go_enter Tryz.func177,Tryz.ntmps177;go_wp2_with fail;refine (HB1 _).mono ?_;rintro e w' ⟨rfl,rfl⟩;go_wp2_with fail;refine (HB2 _).mono ?_;rintro e w' ⟨rfl,rfl⟩;go_wp2_with fail;clear c0 c1 c2 c3 c4 c5 c6 c7 c8 c9 HB1 HB2;have hidx:=fun k b h=>zgT k b h
 unfold zn7 at hidx;have HI:=hO hidx;clear hidx;go_loopw [6,22] (fun v t wr=>∃k:Nat,k<=5/\t=.int .i64 k/\Hid (AtB w' wr v (zfE lo hi k))) (fun _ t _=>6 - (intOf t).toNat)
 case atStart=>exact ⟨0,by omega,by go_num,⟨⟨[],RR.nil _ _⟩,bR _ _⟩⟩
 case round =>
  obtain ⟨k,hk,rfl,HW⟩:=hrel;by_cases hk5:k<5
  ·obtain ⟨b,hb⟩:∃b,blks[k]?=some b:=⟨_,gE (by show k<5;exact hk5)⟩
   have hix:=HI k b hb wr;obtain ⟨hb0,hb1,hb2,hbB⟩:=zfF hb;have HT:=hO (zgb lo hi k b hb);have HLen:=hO (zgd lo hi k b hb);have HO:Hid (zec lo hi b=if max b.1 lo<=min b.2 hi then shs (max b.1 lo) (min b.2 hi) else []):=rfl;have HBB:=hO (hbB lo hi);obtain ⟨b1,b2⟩:=b;dsimp only at *;have hz5:(k:Int)<5:=by omega
   clear hbB hb;have q1:IntKind.i32.wrap lo=lo:=by rw [IntKind.wrap_i32];omega
   have q2:IntKind.i32.wrap hi=hi:=by rw [IntKind.wrap_i32];omega
   by_cases hmm:max b1 lo<=min b2 hi
   ·have HT2:Hid (zfE lo hi (k+1)=zfE lo hi k++shs (max b1 lo) (min b2 hi)):=(by show _=_;rw [HT.out,HO.out,iP hmm])
    have HA:Hid (AppS (max b1 lo) (min b2 hi)):=zbU _ _ _ (HBB hmm) (nL _);have HN:Hid ((zfE lo hi k).length+(min b2 hi - max b1 lo+1).toNat<=1114112):=(by have e:=HLen.out;show _<=_;omega);clear HT HO HBB HLen;obtain ⟨⟨xs,hR⟩,hBw⟩:=HW.out;have HR:=hO hR;have HBw:=hO hBw;clear hR hBw HW;have HR2:Hid (RR ((wr.alloc (.cells #[.int .i32 b1,.int .i32 b2] 174)).alloc (.cells #[.int .i32 (max b1 lo),.int .i32 (min b2 hi)] 174)) w'.heap.size u6 (zfE lo hi k) xs):=(HR.alloc _).alloc _;have HB2:Hid (bW w' ((wr.alloc (.cells #[.int .i32 b1,.int .i32 b2] 174)).alloc (.cells #[.int .i32 (max b1 lo),.int .i32 (min b2 hi)] 174))):=(HBw.alloc HBw.size _).alloc (by simp;exact Nat.le_succ_of_le HBw.size) _;go_wp2_with fail;refine (HA _ _ _ _ _ HR2.out HB2.size HN.out).mono ?_;rintro e w2 ⟨v2,xs2,rfl,hR3,hg3,_⟩;have HW2:=(show Hid (AtB w' w2 v2 (zfE lo hi (k+1))) from (by
     rw [HT2.out];exact ⟨⟨xs2,hR3⟩,HB2.grown hg3 HB2.size (fun j e=>(HR.o.lt j e).1)⟩))
    clear hR3 hg3 HR HBw HR2 HB2 hix;go_wp2
    go_roundw
    case rel=>exact ⟨k+1,by omega,by go_num,HW2⟩
    case measure=>simp [intOf];omega
   ·have HT2:Hid (zfE lo hi (k+1)=zfE lo hi k):=(by show _=_;rw [HT.out,HO.out,iN hmm,List.append_nil])
    clear HT HO HBB HLen;obtain ⟨⟨xs,hR⟩,hBw⟩:=HW.out;have HW2:=(show Hid (AtB w' ((wr.alloc (.cells #[.int .i32 b1,.int .i32 b2] 174)).alloc (.cells #[.int .i32 (max b1 lo),.int .i32 (min b2 hi)] 174)) u6 (zfE lo hi (k+1))) from (by
     rw [HT2.out];exact ⟨⟨xs,(hR.alloc _).alloc _⟩,(hBw.alloc hBw.size _).alloc (by simp;exact Nat.le_succ_of_le hBw.size) _⟩))
    clear hR hBw HW;go_wp2
    go_roundw
    case rel=>exact ⟨k+1,by omega,by go_num,HW2⟩
    case measure=>simp [intOf];omega
  ·obtain rfl:k=5:=by omega
   rw [zds] at HW;obtain ⟨⟨xs,hR⟩,hBw⟩:=HW.out;go_wp2
   go_ret2
   exact ⟨⟨_,xs,rfl,hR⟩,hBw⟩
theorem zij (lo hi:Int) (w:World) (hv:VB w) :
  Cl 177 #[.int .i64 lo,.int .i64 hi] w fun e w'=>ShV w w' lo hi e/\bW w w':=by
 have HB1:Hid (∀w,Cl 179 #[.int .i64 lo] w (rU w (.bool (bdB lo)))):=fun w=>zb9 lo w
 have HB2:Hid (∀w,Cl 179 #[.int .i64 hi] w (rU w (.bool (bdB hi)))):=fun w=>zb9 hi w
 by_cases h0:0<=lo/\lo<=1114111
 ·by_cases h1:0<=hi/\hi<=1114111
  ·by_cases h2:lo<=hi
   ·refine (zjy lo hi h0.1 h2 h1.2 w hv).mono fun e w' ⟨h3,h4⟩=>⟨?_,h4⟩
    unfold ShV;rw [iP ⟨zdp h0,zdp h1⟩,iP h2];exact h3
   ·have HE:=(show Hid (∀w' e,e=.returned (.tuple #[.slice none 0 0,.int .i64 1])->ShV w w' lo hi e) from fun w' e he=>by
     unfold ShV;rw [iP ⟨zdp h0,zdp h1⟩,iN h2];exact he)
    rw [zdp h0] at HB1;rw [zdp h1] at HB2;have h3:hi<lo:=by omega
    clear h0 h1 h2 hv;go_enter Tryz.func177,Tryz.ntmps177;go_wp2_with fail;refine (HB1 _).mono ?_;rintro e w' ⟨rfl,rfl⟩;go_wp2_with fail;refine (HB2 _).mono ?_;rintro e w' ⟨rfl,rfl⟩;go_wp2
    go_ret2
    exact ⟨HE _ _ rfl,bR _ _⟩
  ·have HE:=(show Hid (∀w' e,e=.returned (.tuple #[.slice none 0 0,.int .i64 30])->ShV w w' lo hi e) from fun w' e he=>by
    unfold ShV;rw [iN (by rw [zga h1];simp)];exact he)
   rw [zdp h0] at HB1;rw [zga h1] at HB2;clear h0 h1 hv;go_enter Tryz.func177,Tryz.ntmps177;go_wp2_with fail;refine (HB1 _).mono ?_;rintro e w' ⟨rfl,rfl⟩;go_wp2_with fail;refine (HB2 _).mono ?_;rintro e w' ⟨rfl,rfl⟩;go_wp2
   go_ret2
   exact ⟨HE _ _ rfl,bR _ _⟩
 ·have HE:=(show Hid (∀w' e,e=.returned (.tuple #[.slice none 0 0,.int .i64 30])->ShV w w' lo hi e) from fun w' e he=>by
   unfold ShV;rw [iN (by rw [zga h0];simp)];exact he)
  rw [zga h0] at HB1;clear h0 hv;go_enter Tryz.func177,Tryz.ntmps177;go_wp2_with fail;refine (HB1 _).mono ?_;rintro e w' ⟨rfl,rfl⟩;go_wp2
  go_ret2
  exact ⟨HE _ _ rfl,bR _ _⟩
def byO:Option Value->Int
 | some (.int .u8 x)=>x
 | _=>0
def isO:Option Value->Bool
 | some (.int .u8 _)=>true
 | _=>false
theorem zlM (x:Int):byO (some (.int .u8 x))=x:=rfl
theorem zlN (x:Int):isO (some (.int .u8 x))=true:=rfl
theorem zc8 {o:Option Value} (h:isO o=true):o=some (.int .u8 (byO o)):=by
 cases o with
 | none=>cases h
 | some v =>
  cases v with
  | int k x=>cases k <;> first | rfl | cases h
  | _=>cases h
theorem zc0 (W:World) (B c:Nat) (l:List Int) (h:∀(j:Nat) (x:Int),l[j]?=some x->W.cell? ⟨B,j,none⟩=some (.int .u8 x)) :
  (convert 104 9 (.slice (some ⟨B,0,none⟩) l.length c)).run Tryz.prog W=.ok (.string (zat l)) W:=by
 rw [run_convert_bytes_string W 104 9 5 _ _ _ Tryz.underlying104 Tryz.underlying5 Tryz.underlying9];refine run_bytesToString W ⟨B,0,none⟩ l.length c l ?_;have h2:=run_loadCells_list (P:=Tryz.prog) (w:=W) ⟨B,0,none⟩ (l.map (Value.int .u8)) (fun j u hj=>by
  rw [List.getElem?_map] at hj
  cases hq:l[j]? with
  | none=>rw [hq] at hj;cases hj
  | some x=>rw [hq] at hj;cases hj;rw [Addr.add_lit,Nat.zero_add];exact h j x hq)
 rwa [List.length_map] at h2
theorem conv1 (W:World) (B c:Nat) (h0:isO (W.cell? ⟨B,0,none⟩)=true) :
  (convert 104 9 (.slice (some ⟨B,0,none⟩) 1 c)).run Tryz.prog W=.ok (.string (zat [byO (W.cell? ⟨B,0,none⟩)])) W :=
 zc0 W B c [_] fun j x hj=>by
  match j,hj with
  | 0,hj=>cases hj;exact zc8 h0
theorem conv2 (W:World) (B c:Nat) (h0:isO (W.cell? ⟨B,0,none⟩)=true) (h1:isO (W.cell? ⟨B,1,none⟩)=true) :
  (convert 104 9 (.slice (some ⟨B,0,none⟩) 2 c)).run Tryz.prog W=.ok (.string (zat [byO (W.cell? ⟨B,0,none⟩),byO (W.cell? ⟨B,1,none⟩)])) W :=
 zc0 W B c [_,_] fun j x hj=>by
  match j,hj with
  | 0,hj=>cases hj;exact zc8 h0
  | 1,hj=>cases hj;exact zc8 h1
theorem conv3 (W:World) (B c:Nat) (h0:isO (W.cell? ⟨B,0,none⟩)=true) (h1:isO (W.cell? ⟨B,1,none⟩)=true) (h2:isO (W.cell? ⟨B,2,none⟩)=true) :
  (convert 104 9 (.slice (some ⟨B,0,none⟩) 3 c)).run Tryz.prog W=.ok (.string (zat [byO (W.cell? ⟨B,0,none⟩),byO (W.cell? ⟨B,1,none⟩),byO (W.cell? ⟨B,2,none⟩)])) W :=
 zc0 W B c [_,_,_] fun j x hj=>by
  match j,hj with
  | 0,hj=>cases hj;exact zc8 h0
  | 1,hj=>cases hj;exact zc8 h1
  | 2,hj=>cases hj;exact zc8 h2
theorem conv4 (W:World) (B c:Nat) (h0:isO (W.cell? ⟨B,0,none⟩)=true) (h1:isO (W.cell? ⟨B,1,none⟩)=true) (h2:isO (W.cell? ⟨B,2,none⟩)=true) (h3:isO (W.cell? ⟨B,3,none⟩)=true) :
  (convert 104 9 (.slice (some ⟨B,0,none⟩) 4 c)).run Tryz.prog W=.ok (.string (zat [byO (W.cell? ⟨B,0,none⟩),byO (W.cell? ⟨B,1,none⟩),byO (W.cell? ⟨B,2,none⟩),byO (W.cell? ⟨B,3,none⟩)])) W :=
 zc0 W B c [_,_,_,_] fun j x hj=>by
  match j,hj with
  | 0,hj=>cases hj;exact zc8 h0
  | 1,hj=>cases hj;exact zc8 h1
  | 2,hj=>cases hj;exact zc8 h2
  | 3,hj=>cases hj;exact zc8 h3
attribute [local go_sem] zlM zlN conv1 conv2 conv3 conv4
theorem Tryz.info5:(Tryz.prog.info? 5).map (fun i=>(i.zero,i.size,i.bytes))=some (some (.int .u8 0),1,1):=by kernel_rfl
theorem make2 (w:World):(Instr.makeSlice 104 (.int .i64 2) (.int .i64 2)).run Tryz.prog w=.ok (.slice (some ⟨w.heap.size,0,none⟩) 2 2) (w.alloc (.cells #[.int .u8 0,.int .u8 0] 5)):=by
 obtain ⟨i0,hinf,hz0,hz1,hz2⟩:=info_parts Tryz.info5;rw [run_make w 104 5 i0 (.int .u8 0) Tryz.underlying104 hinf hz0 .i64 .i64 2 2 (by omega) (by omega) (by rw [hz2];decide) (by omega),hz1]
 kernel_rfl
theorem make3 (w:World):(Instr.makeSlice 104 (.int .i64 3) (.int .i64 3)).run Tryz.prog w=.ok (.slice (some ⟨w.heap.size,0,none⟩) 3 3) (w.alloc (.cells #[.int .u8 0,.int .u8 0,.int .u8 0] 5)):=by
 obtain ⟨i0,hinf,hz0,hz1,hz2⟩:=info_parts Tryz.info5;rw [run_make w 104 5 i0 (.int .u8 0) Tryz.underlying104 hinf hz0 .i64 .i64 3 3 (by omega) (by omega) (by rw [hz2];decide) (by omega),hz1]
 kernel_rfl
theorem make4 (w:World):(Instr.makeSlice 104 (.int .i64 4) (.int .i64 4)).run Tryz.prog w=.ok (.slice (some ⟨w.heap.size,0,none⟩) 4 4) (w.alloc (.cells #[.int .u8 0,.int .u8 0,.int .u8 0,.int .u8 0] 5)):=by
 obtain ⟨i0,hinf,hz0,hz1,hz2⟩:=info_parts Tryz.info5;rw [run_make w 104 5 i0 (.int .u8 0) Tryz.underlying104 hinf hz0 .i64 .i64 4 4 (by omega) (by omega) (by rw [hz2];decide) (by omega),hz1]
 kernel_rfl
attribute [local go_sem] make2 make3 make4
theorem zlO (n:Int) (h0:0<=n) (h1:n<=127) (w:World):Cl 174 #[.int .i64 n] w (rB w (.string (zat [n]))):=by
 have HS:Hid (∀w,Cl 173 #[.int .i64 n] w (rU w (.int .i64 1))):=fun w=>by
  have h:=zcL n w
  rwa [show szI n=1 from by unfold szI;rw [iP h1]] at h
 have q1:IntKind.u8.wrap n=n:=by rw [IntKind.wrap_u8'];omega
 go_enter Tryz.func174,Tryz.ntmps174;go_wp2_with fail;refine (HS _).mono ?_;rintro e w' ⟨rfl,rfl⟩;go_wp2
 go_ret
 exact ⟨rfl,(bR _ _).alloc (nL _) _⟩
theorem zlP (n:Int) (h0:128<=n) (h1:n<=2047) (w:World):Cl 174 #[.int .i64 n] w (rB w (.string (zat [192+n / 64,128+n%64]))):=by
 have HS:Hid (∀w,Cl 173 #[.int .i64 n] w (rU w (.int .i64 2))):=fun w=>by
  have h:=zcL n w
  rwa [show szI n=2 from by unfold szI;rw [iN (by omega),iP (by omega)]] at h
 have p0:(n).tmod 64=n%64:=Int.tmod_eq_emod_of_nonneg (by omega);have q0:(n).tdiv 64=n / 64:=by rw [Int.tdiv_eq_ediv_of_nonneg (by omega)]
 have r0:IntKind.u8.wrap (128+n%64)=128+n%64:=by rw [IntKind.wrap_u8'];omega
 have v0:IntKind.i64.wrap (128+n%64)=128+n%64:=by rw [wI];omega
 have v10:IntKind.i64.wrap (n / 64)=n / 64:=by rw [wI];omega
 have r9:IntKind.u8.wrap (192+n / 64)=192+n / 64:=by rw [IntKind.wrap_u8'];omega
 have v9:IntKind.i64.wrap (192+n / 64)=192+n / 64:=by rw [wI];omega
 clear h0 h1;go_enter Tryz.func174,Tryz.ntmps174;go_wp2_with fail;refine (HS _).mono ?_;rintro e w' ⟨rfl,rfl⟩;go_wp2_with fail;refine wp_loop_rounds 2 ?_;rw [rounds_succ];go_wp2_with fail;rw [rounds_succ];go_wp2_with fail;go_ret
 exact ⟨rfl,((bR _ _).alloc (nL _) _).alloc (by simp) _⟩
theorem zik (n:Int) (h0:2048<=n) (h1:n<=65535) (w:World):Cl 174 #[.int .i64 n] w (rB w (.string (zat [224+n / 4096,128+n / 64%64,128+n%64]))):=by
 have HS:Hid (∀w,Cl 173 #[.int .i64 n] w (rU w (.int .i64 3))):=fun w=>by
  have h:=zcL n w
  rwa [show szI n=3 from by unfold szI;rw [iN (by omega),iN (by omega),iP (by omega)]] at h
 have p0:(n).tmod 64=n%64:=Int.tmod_eq_emod_of_nonneg (by omega);have q0:(n).tdiv 64=n / 64:=by rw [Int.tdiv_eq_ediv_of_nonneg (by omega)]
 have r0:IntKind.u8.wrap (128+n%64)=128+n%64:=by rw [IntKind.wrap_u8'];omega
 have v0:IntKind.i64.wrap (128+n%64)=128+n%64:=by rw [wI];omega
 have v10:IntKind.i64.wrap (n / 64)=n / 64:=by rw [wI];omega
 have p1:(n / 64).tmod 64=n / 64%64:=Int.tmod_eq_emod_of_nonneg (by omega);have q1:(n / 64).tdiv 64=n / 4096:=by rw [Int.tdiv_eq_ediv_of_nonneg (by omega)];omega
 have r1:IntKind.u8.wrap (128+n / 64%64)=128+n / 64%64:=by rw [IntKind.wrap_u8'];omega
 have v1:IntKind.i64.wrap (128+n / 64%64)=128+n / 64%64:=by rw [wI];omega
 have v11:IntKind.i64.wrap (n / 4096)=n / 4096:=by rw [wI];omega
 have r9:IntKind.u8.wrap (224+n / 4096)=224+n / 4096:=by rw [IntKind.wrap_u8'];omega
 have v9:IntKind.i64.wrap (224+n / 4096)=224+n / 4096:=by rw [wI];omega
 clear h0 h1;go_enter Tryz.func174,Tryz.ntmps174;go_wp2_with fail;refine (HS _).mono ?_;rintro e w' ⟨rfl,rfl⟩;go_wp2_with fail;refine wp_loop_rounds 3 ?_;rw [rounds_succ];go_wp2_with fail;rw [rounds_succ];go_wp2_with fail;rw [rounds_succ];go_wp2_with fail;go_ret
 exact ⟨rfl,((bR _ _).alloc (nL _) _).alloc (by simp) _⟩
theorem zjz (n:Int) (h0:65536<=n) (h1:n<=1114111) (w:World):Cl 174 #[.int .i64 n] w (rB w (.string (zat [240+n / 262144,128+n / 4096%64,128+n / 64%64,128+n%64]))):=by
 have HS:Hid (∀w,Cl 173 #[.int .i64 n] w (rU w (.int .i64 4))):=fun w=>by
  have h:=zcL n w
  rwa [show szI n=4 from by unfold szI;rw [iN (by omega),iN (by omega),iN (by omega)]] at h
 have p0:(n).tmod 64=n%64:=Int.tmod_eq_emod_of_nonneg (by omega);have q0:(n).tdiv 64=n / 64:=by rw [Int.tdiv_eq_ediv_of_nonneg (by omega)]
 have r0:IntKind.u8.wrap (128+n%64)=128+n%64:=by rw [IntKind.wrap_u8'];omega
 have v0:IntKind.i64.wrap (128+n%64)=128+n%64:=by rw [wI];omega
 have v10:IntKind.i64.wrap (n / 64)=n / 64:=by rw [wI];omega
 have p1:(n / 64).tmod 64=n / 64%64:=Int.tmod_eq_emod_of_nonneg (by omega);have q1:(n / 64).tdiv 64=n / 4096:=by rw [Int.tdiv_eq_ediv_of_nonneg (by omega)];omega
 have r1:IntKind.u8.wrap (128+n / 64%64)=128+n / 64%64:=by rw [IntKind.wrap_u8'];omega
 have v1:IntKind.i64.wrap (128+n / 64%64)=128+n / 64%64:=by rw [wI];omega
 have v11:IntKind.i64.wrap (n / 4096)=n / 4096:=by rw [wI];omega
 have p2:(n / 4096).tmod 64=n / 4096%64:=Int.tmod_eq_emod_of_nonneg (by omega);have q2:(n / 4096).tdiv 64=n / 262144:=by rw [Int.tdiv_eq_ediv_of_nonneg (by omega)];omega
 have r2:IntKind.u8.wrap (128+n / 4096%64)=128+n / 4096%64:=by rw [IntKind.wrap_u8'];omega
 have v2:IntKind.i64.wrap (128+n / 4096%64)=128+n / 4096%64:=by rw [wI];omega
 have v12:IntKind.i64.wrap (n / 262144)=n / 262144:=by rw [wI];omega
 have r9:IntKind.u8.wrap (240+n / 262144)=240+n / 262144:=by rw [IntKind.wrap_u8'];omega
 have v9:IntKind.i64.wrap (240+n / 262144)=240+n / 262144:=by rw [wI];omega
 clear h0 h1;go_enter Tryz.func174,Tryz.ntmps174;go_wp2_with fail;refine (HS _).mono ?_;rintro e w' ⟨rfl,rfl⟩;go_wp2_with fail;refine wp_loop_rounds 4 ?_;rw [rounds_succ];go_wp2_with fail;rw [rounds_succ];go_wp2_with fail;rw [rounds_succ];go_wp2_with fail;rw [rounds_succ];go_wp2_with fail;go_ret
 exact ⟨rfl,((bR _ _).alloc (nL _) _).alloc (by simp) _⟩
theorem zge (n:Int) (h:cp n) (w:World):Cl 174 #[.int .i64 n] w (rB w (.string (Utf8.encode n))):=by
 rw [zeE h]
 rcases zei h with q | q | q | q
 ·rw [zeB q.1 q.2];exact zlO n q.1 q.2 w
 ·rw [zeC q.1 q.2];exact zlP n q.1 q.2 w
 ·rw [zcJ q];exact zik n (by omega) (by omega) w
 ·rw [zdo q.1 q.2];exact zjz n q.1 q.2 w
def SpL (W:World) (g off:Nat) (s:zaY):Prop:=∀(j:Nat) p,s[j]?=some p->W.cell? ⟨g,off+j * 2,none⟩=some (.int .i64 p.1)/\W.cell? ⟨g,off+j * 2+1,none⟩=some (.int .i64 p.2)
theorem zn8 (s:zaY) (j:Nat) (p:Int×Int) (h:s[j]?=some p):(spc s)[j * 2]?=some (.int .i64 p.1)/\(spc s)[j * 2+1]?=some (.int .i64 p.2):=by
 induction s generalizing j with
 | nil=>cases h
 | cons a s ih =>
  have e:spc (a::s)=.int .i64 a.1::.int .i64 a.2::spc s:=rfl;rw [e]
  cases j with
  | zero=>cases h;exact ⟨rfl,rfl⟩
  | succ j =>
   have h2:s[j]?=some p:=by simpa using h
   rw [show (j+1) * 2=j * 2+1+1 from by omega];exact ih j h2
theorem zn9 {W:World} {B g n cap:Nat} {s:zaY} (h:W.ownsRow B 159 2 (.slice (some ⟨g,0,none⟩) n cap) s.length (spc s)):SpL W g 0 s:=fun j p hp=>by
 have hc:=h.cells (g:=g) rfl;obtain ⟨h1,h2⟩:=zn8 s j p hp;have c1:=hc _ _ h1;have c2:=hc _ _ h2;rw [Addr.add_lit] at c1 c2;exact ⟨c1,by rw [Nat.add_assoc];exact c2⟩
theorem RR.get {W:World} {B:Nat} {v:Value} {ss:List zaY} {xs:List Value} (h:RR W B v ss xs) {i:Nat} {s:zaY} (hs:ss[i]?=some s) :
  ∃g cap gx cx,v=.slice (some ⟨g,0,none⟩) ss.length cap/\g<W.heap.size/\xs[i]?=some (.slice (some ⟨gx,0,none⟩) s.length cx)/\W.cell? ⟨g,i,none⟩=some (.slice (some ⟨gx,0,none⟩) s.length cx)/\gx<W.heap.size/\SpL W gx 0 s:=by
 have hi:i<ss.length:=by
  by_cases q:i<ss.length
  ·exact q
  ·rw [List.getElem?_eq_none (by omega)] at hs;cases hs
 have hx:xs[i]?=some (xs[i]'(by rw [h.len];exact hi)):=gE (by rw [h.len];exact hi);obtain ⟨h1,h2,_⟩:=h.each i _ s hx hs;obtain ⟨g,cap,hv,_,hlt⟩:=h.o.form (by rw [h.len];omega);obtain ⟨gx,hgx,_,hlt2⟩:=h.lt hx;have hform:∃cx,xs[i]'(by rw [h.len];exact hi)=.slice (some ⟨gx,0,none⟩) s.length cx:=by
  rcases h1.2 with ⟨q,_⟩ | ⟨g2,cx,cur,q,_⟩
  ·rw [q] at h2;exact absurd rfl h2
  ·rw [q] at hgx
   have e:g2=gx:=Option.some.inj hgx;exact ⟨cx,by rw [q,e]⟩
 obtain ⟨cx,hq⟩:=hform;rw [hq] at hx h1;have hcell:=h.o.cells (g:=g) (by rw [hv];rfl) i _ hx;rw [Addr.add_lit,Nat.zero_add] at hcell;exact ⟨g,cap,gx,cx,by rw [hv,h.len],hlt,hx,hcell,hlt2,zn9 h1⟩
theorem zdt (w:World) (o:Obj):(w.alloc o).heap.size=w.heap.size+1:=by simp
abbrev Nd:=Int×BitVec 256
def ndV (n:Nd):List Value:=[.int .i64 n.1,.int .i64 0,.string ⟨#[]⟩,.int .u64 (wd n.2 0),.int .u64 (wd n.2 1),.int .u64 (wd n.2 2),.int .u64 (wd n.2 3)]
def ndc (l:List Nd):List Value:=l.flatMap ndV
theorem zch (a b:List Nd):ndc (a++b)=ndc a++ndc b:=List.flatMap_append
theorem zdO (n:Nd):ndc [n]=ndV n:=by unfold ndc;rw [List.flatMap_cons,List.flatMap_nil,List.append_nil]
def ndI (s:zaY) (i:Nat):List Nd:=match s[i]? with
 | some p=>(5,spn p.1 p.2)::(if 0<i then [(7,0#256)] else [])
 | none=>[]
def zcx (s:zaY) (k:Nat):List Nd:=(List.range k).flatMap (ndI s)
theorem zcM (s:zaY) (k:Nat):zcx s (k+1)=zcx s k++ndI s k:=by unfold zcx;rw [List.range_succ,List.flatMap_append];simp
def ptI (ss:List zaY) (i:Nat):List Nd:=match ss[i]? with
 | some s=>zcx s s.length++(if 0<i then [(8,0#256)] else [])
 | none=>[]
def zdG (ss:List zaY) (k:Nat):List Nd:=(List.range k).flatMap (ptI ss)
theorem zcN (ss:List zaY) (k:Nat):zdG ss (k+1)=zdG ss k++ptI ss k:=by unfold zdG;rw [List.range_succ,List.flatMap_append];simp
theorem zoa (s:zaY) (i:Nat):(ndI s i).length<=2:=by
 unfold ndI
 split
 ·split <;> simp
 ·simp
theorem zel (s:zaY) (k:Nat):(zcx s k).length<=2 * k:=by
 induction k with
 | zero=>simp [zcx]
 | succ k ih=>rw [zcM,lA];have:=zoa s k;omega
theorem zfH (ss:List zaY) (k:Nat) (h:∀s∈ss,s.length<=4):(zdG ss k).length<=9 * k:=by
 induction k with
 | zero=>simp [zdG]
 | succ k ih =>
  rw [zcN,lA];have:(ptI ss k).length<=9:=by
   unfold ptI
   split
   ·next s hs =>
    have h1:=h s (List.mem_of_getElem? hs);have h2:=zel s s.length;rw [lA]
    split <;> simp <;> omega
   ·simp
  omega
theorem Tryz.info80:(Tryz.prog.info? 65).map (fun i=>(i.zero,i.size,i.bytes))=some (some (.agg #[.int .i64 0,.int .i64 0,.string ⟨#[]⟩,.int .u64 0,.int .u64 0,.int .u64 0,.int .u64 0]),7,64):=by kernel_rfl
abbrev ndA (op:Int) (x:BitVec 256):Array Value:=#[.int .i64 op,.int .i64 0,.string ⟨#[]⟩,.int .u64 (wd x 0),.int .u64 (wd x 1),.int .u64 (wd x 2),.int .u64 (wd x 3)]
abbrev ndZ (op:Int):Array Value:=#[.int .i64 op,.int .i64 0,.string ⟨#[]⟩,.int .u64 0,.int .u64 0,.int .u64 0,.int .u64 0]
theorem zdu (op:Int):(ndZ op).toList=ndV (op,0#256):=by unfold ndV;simp only [zal]
theorem zlQ (w:World) (a:Obj) (cs:Array Value):∀(j:Nat) u,cs.toList[j]?=some u->((w.alloc a).alloc (.cells cs 65)).cell? ((⟨w.heap.size+1,0,none⟩:Addr).add j)=some u :=
 World.news_of_block (t:=65) (fr:=(0,0)) (by have h:=heap_alloc_new (w.alloc a) (.cells cs 65);rwa [zdt] at h)
theorem zdv (w:World) (cs:Array Value):∀(j:Nat) u,cs.toList[j]?=some u->(w.alloc (.cells cs 65)).cell? ((⟨w.heap.size,0,none⟩:Addr).add j)=some u :=
 World.news_of_block (t:=65) (fr:=(0,0)) (heap_alloc_new w _)
theorem zc7 (n:Nd):∀u∈ndV n,u.oneCell'=true:=fun u hu=>by
 unfold ndV at hu;simp only [List.mem_cons,List.not_mem_nil,or_false] at hu
 rcases hu with rfl | rfl | rfl | rfl | rfl | rfl | rfl <;> rfl
theorem zjA {W W':World} {g off:Nat} {s:zaY} {row:Option Nat} (h:SpL W g off s) (hg:W.grownBy W' row) (hlt:g<W.heap.size) (hne:some g≠row):SpL W' g off s:=fun j p hp =>
 ⟨(hg.cell_far ⟨g,off+j * 2,none⟩ hlt hne).trans (h j p hp).1,(hg.cell_far ⟨g,off+j * 2+1,none⟩ hlt hne).trans (h j p hp).2⟩
structure AtN (w wr:World) (B:Nat) (v v':Value) (L:List Nd):Prop where
 o:wr.ownsRow B 65 7 v' L.length (ndc L)
 g:w.grownBy wr v.ownBlock
 k:∀k,v'.ownBlock=some k->v.ownBlock=some k∨w.heap.size<=k
theorem AtN.below {w wr w2:World} {B:Nat} {v v':Value} {L:List Nd} (h:AtN w wr B v v' L) (hb:bW wr w2):AtN w w2 B v v' L :=
 ⟨zbB h.o hb,h.g.trans (Below.grow hb _),h.k⟩
theorem AtN.alloc {w wr:World} {B:Nat} {v v':Value} {L:List Nd} (h:AtN w wr B v v' L) (o:Obj):AtN w (wr.alloc o) B v v' L:=h.below ((bR _ _).alloc (nL _) _)
theorem AtN.push {w wr w1:World} {B g cap:Nat} {v v':Value} {L:List Nd} {n:Nd} {ob:Obj} (h:AtN w wr B v v' L) (hown:w1.ownsRow B 65 7 (.slice (some ⟨g,0,none⟩) (L.length+1) cap) (L.length+1) (ndc L++ndV n)) (hgrow:(wr.alloc ob).grownBy w1 v'.ownBlock) (hat:v'.ownBlock=some g∨g=wr.heap.size+1) :
  AtN w w1 B v (.slice (some ⟨g,0,none⟩) (L.length+1) cap) (L++[n]):=by
 refine ⟨by rw [lA,zch,zdO];exact hown,(h.g.trans (World.grownBy_alloc wr ob _)).andThen hgrow (fun j e=>?_),fun k e=>?_⟩
 ·rcases h.k j e with q | q
  ·exact .inr q
  ·exact .inl q
 ·have e2:g=k:=Option.some.inj e
  rcases hat with q | q
  ·rcases h.k g q with q2 | q2
   ·exact .inl (by rw [q2,e2])
   ·exact .inr (by omega)
  ·have:=h.g.size
   exact .inr (by omega)
theorem zeF (v:Value) (L:List Nd) (B gx cx:Nat) (s:zaY) (hs:∀p∈s,0<=p.1/\p.1<=p.2/\p.2<=255) (hsl:s.length<=4) (hL:L.length<=20000000) (w:World) (ho:w.ownsRow B 65 7 v L.length (ndc L)) (hB:B<=w.heap.size) (hx:SpL w gx 0 s) (hgx:gx<w.heap.size) (hne:v.ownBlock≠some gx) :
  Cl 178 #[v,.slice (some ⟨gx,0,none⟩) s.length cx] w fun e w'=>∃v',e=.returned v'/\AtN w w' B v v' (L++zcx s s.length):=by
 obtain ⟨i0,hinf,hz0,hz1,hz2⟩:=info_parts Tryz.info80;have HA:Hid (AtN w w B v v (L++zcx s 0)):=⟨by unfold zcx;simpa using ho,World.grownBy.refl _ _,fun k e=>.inl e⟩;have HX:=hO hx;have HNe:Hid (some gx≠v.ownBlock):=Ne.symm hne;have HS:=hO hs;have HG:Hid (∀k,k<s.length->∃p,s[k]?=some p):=fun k hk=>⟨_,gE hk⟩
 clear ho hx hne hs;go_enter Tryz.func178,Tryz.ntmps178;go_wp2_with fail;go_loopw [0,11] (fun u t wr=>∃k:Nat,k<=s.length/\t=.int .i64 k/\Hid (AtN w wr B v u (L++zcx s k))) (fun _ t _=>s.length - (intOf t).toNat)
 case atStart=>exact ⟨0,by omega,by go_num,HA⟩
 case round =>
  obtain ⟨k,hk,rfl,HW⟩:=hrel;clear HA;by_cases hlt:k<s.length
  ·obtain ⟨⟨p1,p2⟩,hp⟩:=HG k hlt
   have HN:Hid (zcx s (k+1)=zcx s k++((5,spn p1 p2)::(if 0<k then [(7,0#256)] else []))):=(by show _=_;rw [zcM];unfold ndI;rw [hp]);obtain ⟨b0,b1,b2⟩:=HS _ (List.mem_of_getElem? hp);obtain ⟨c0,c1⟩:=(zjA HX.out HW.g hgx HNe.out) k _ hp;dsimp only at b0 b1 b2 c0 c1;rw [Nat.zero_add] at c0 c1;have HR:Hid (∀w,Cl 181 #[.int .i64 p1,.int .i64 p2] w (rB w (.tuple #[sv (spn p1 p2),.int .i64 0]))):=fun w=>zju p1 p2 w b0 b1 b2
   have hll:=zel s k;have z0:(0:Int)<=(k:Int):=by omega
   have z1:(k:Int)<(s.length:Int):=by omega
   have hLl:(L++zcx s k).length<=20000008:=by rw [lA];omega
   have hwB:B<=wr.heap.size:=Nat.le_trans hB HW.g.size;generalize zcx s k=T at *;generalize hM:L++T=M at *;have HM:=hO hM;clear hp hM HG HS hll;generalize spn p1 p2=x at *;generalize s.length=m at *;go_wp2_with fail;refine (HR _).mono ?_;rintro e w2 ⟨rfl,hb2⟩;have HW2:Hid (AtN w w2 B v u0 M):=(HW.alloc _).below hb2;have hsz2:=hb2.size;rw [zdt] at hsz2;clear hb2 HW c0 c1;have hO2:=HW2.o;go_wp2_with (at_builtin;refine wpList_append_lies _ rfl _ _ 34 rfl B 65 i0 (.agg #[.int .i64 0,.int .i64 0,.string ⟨#[]⟩,.int .u64 0,.int .u64 0,.int .u64 0,.int .u64 0]) 7 64 Tryz.underlying34 hinf hz0 hz1 hz2 rfl (by decide) _ _ _ rfl ((hO2.alloc _).alloc _) ⟨w2.heap.size+1,0,none⟩ 1 1 (ndV (5,x)) rfl rfl (zlQ w2 _ (ndA 5 x)) (zc7 _) (by decide) ?c3 ?c4 ?c5 (w2.heap.size+1+1) (by simp) ?_)
   case c3=>unfold maxLen;omega
   case c4=>omega
   case c5=>simp;omega
   intro g cap w3 hown hgrow hat hlt3;have HW3:Hid (AtN w w3 B v (.slice (some ⟨g,0,none⟩) (M.length+1) cap) (M++[(5,x)])):=(HW2.alloc _).push hown hgrow (by rw [zdt];exact hat);have hsz3:=hgrow.size;rw [zdt,zdt] at hsz3;clear hown hgrow hat hO2 HW2;by_cases hk0:0<k
   ·have z2:(0:Int)<(k:Int):=by omega
    have hO3:=HW3.o;have HN2:Hid (L++zcx s (k+1)=(M++[(5,x)])++[(7,0#256)]):=(by show _=_;rw [HN.out,iP hk0,<-HM.out];simp);go_wp2_with (at_builtin;refine wpList_append_lies _ rfl _ _ 34 rfl B 65 i0 (.agg #[.int .i64 0,.int .i64 0,.string ⟨#[]⟩,.int .u64 0,.int .u64 0,.int .u64 0,.int .u64 0]) 7 64 Tryz.underlying34 hinf hz0 hz1 hz2 rfl (by decide) _ _ _ rfl (hO3.alloc _) ⟨w3.heap.size,0,none⟩ 1 1 (ndZ 7).toList rfl rfl (zdv w3 (ndZ 7)) (by rw [zdu];exact zc7 _) (by decide) ?c3 ?c4 ?c5 (w3.heap.size+1) (by simp) ?_)
    case c3=>simp;unfold maxLen;omega
    case c4=>simp;omega
    case c5=>simp;omega
    intro g2 cap2 w4 hown hgrow hat hlt4;have HW4:=(show Hid (AtN w w4 B v (.slice (some ⟨g2,0,none⟩) (M.length+1+1) cap2) (L++zcx s (k+1))) from (by
     have e:(M++[(5,x)]).length=M.length+1:=by simp
     rw [HN2.out];have hp:=HW3.push (g:=g2) (cap:=cap2) (n:=(7,0#256)) (by rw [e,<-zdu];exact hown) hgrow hat
     rwa [e] at hp))
    clear hown hgrow hat hO3 HW3;go_wp2
    go_roundw
    case rel=>exact ⟨k+1,by omega,by go_num,HW4⟩
    case measure=>simp [intOf];omega
   ·have hk00:k=0:=by omega
    have HN2:Hid (L++zcx s (k+1)=M++[(5,x)]):=(by show _=_;rw [HN.out,iN hk0,<-HM.out];simp);rw [<-HN2.out] at HW3;subst hk00;go_wp2
    go_roundw
    case rel=>exact ⟨0+1,by omega,by go_num,HW3⟩
    case measure=>simp [intOf];omega
  ·obtain rfl:k=s.length:=by omega
   clear HG HS HX;go_wp2
   go_ret
   exact ⟨_,rfl,HW.out⟩
theorem zfI:∀(f:Nat) (lo hi:Int),Blk lo hi->(hi - lo).toNat<=f->∀p∈pcs f lo hi,Blk p.1 p.2/\zdq p.1 p.2=none
 | 0,lo,hi,h,hf,p,hp=>by
  have hs:zdq lo hi=none:=by
   cases hs:zdq lo hi with
   | none=>rfl
   | some c=>have:=zbr h.cpl.2.2.2.1 h.cpl.2.2.2.2.1 hs;omega
  rw [zbL hs,List.mem_singleton] at hp;rw [hp];exact ⟨h,hs⟩
 | f+1,lo,hi,h,hf,p,hp=>by
  cases hs:zdq lo hi with
  | none =>
   rw [zbL hs,List.mem_singleton] at hp;rw [hp];exact ⟨h,hs⟩
  | some c =>
   have:=zbr h.cpl.2.2.2.1 h.cpl.2.2.2.2.1 hs;rw [zdr hs] at hp
   rcases List.mem_append.1 hp with hp | hp
   ·exact zfI f lo (c - 1) (h.cut hs).1 (by omega) p hp
   ·exact zfI f c hi (h.cut hs).2 (by omega) p hp
theorem zdk {lo hi m:Int} (h:zb8 lo hi m=none):lo / m=hi / m∨(lo%m=0/\(hi+1)%m=0):=by
 unfold zb8 at h
 split at h
 ·next q=>exact .inl q
 ·split at h
  ·cases h
  ·split at h
   ·cases h
   ·next q1 q2 q3=>exact .inr ⟨by omega,by omega⟩
theorem zob {lo hi:Int} (h:zdq lo hi=none):(2<=szI lo->lo / 64=hi / 64∨(lo%64=0/\(hi+1)%64=0))/\(3<=szI lo->lo / 4096=hi / 4096∨(lo%4096=0/\(hi+1)%4096=0))/\(4<=szI lo->lo / 262144=hi / 262144∨(lo%262144=0/\(hi+1)%262144=0)):=by
 unfold zdq at h;have hb:=zeD lo;have key:∀(k:Nat) (m:Int),zcD lo hi (k+1) m=none->zb8 lo hi (m * 64)=none/\zcD lo hi k (m * 64)=none:=fun k m hk=>by
  rw [zcD] at hk
  split at hk
  ·cases hk
  ·next q=>exact ⟨q,hk⟩
 refine ⟨fun h2=>?_,fun h3=>?_,fun h4=>?_⟩
 ·rw [show szI lo - 1=(szI lo - 2)+1 from by omega] at h
  exact zdk (key _ _ h).1
 ·rw [show szI lo - 1=(szI lo - 3)+1+1 from by omega] at h
  exact zdk (key _ _ (key _ _ h).2).1
 ·rw [show szI lo - 1=(szI lo - 4)+1+1+1 from by omega] at h
  exact zdk (key _ _ (key _ _ (key _ _ h).2).2).1
def ordS (s:zaY):Prop:=∀p∈s,0<=p.1/\p.1<=p.2/\p.2<=255
theorem zlR {lo hi:Int} (h:Blk lo hi) (hs:zdq lo hi=none):ordS (shp (lo,hi)):=by
 obtain ⟨h1,h2,h3,h4,h5,h6⟩:=h.cpl;obtain ⟨k2,k3,k4⟩:=zob hs;unfold ordS shp;unfold szI at *;unfold Blk at h;intro p hp
 rcases zei h1 with q | q | q | q
 ·dsimp only at hp
  rw [zeB q.1 q.2,zeB (by omega) (by omega)] at hp;simp only [List.zip_cons_cons,List.zip_nil_right,List.mem_cons,List.not_mem_nil,or_false] at hp;rw [hp];dsimp only;omega
 ·rw [iN (by omega),iP (by omega)] at k2
  have k2:=k2 (by omega);dsimp only at hp;rw [zeC q.1 q.2,zeC (by omega) (by omega)] at hp;simp only [List.zip_cons_cons,List.zip_nil_right,List.mem_cons,List.not_mem_nil,or_false] at hp
  rcases hp with hp | hp
  ·rw [hp];dsimp only;omega
  ·rw [hp];dsimp only;omega
 ·rw [iN (by omega),iN (by omega),iP (by omega)] at k2 k3
  have k2:=k2 (by omega);have k3:=k3 (by omega);dsimp only at hp;rw [zcJ q,zcJ (by omega)] at hp;simp only [List.zip_cons_cons,List.zip_nil_right,List.mem_cons,List.not_mem_nil,or_false] at hp
  rcases hp with hp | hp | hp
  ·rw [hp];dsimp only;omega
  ·rw [hp];dsimp only;omega
  ·rw [hp];dsimp only;omega
 ·rw [iN (by omega),iN (by omega),iN (by omega)] at k2 k3 k4
  have k2:=k2 (by omega);have k3:=k3 (by omega);have k4:=k4 (by omega);dsimp only at hp;rw [zdo q.1 q.2,zdo (by omega) (by omega)] at hp;simp only [List.zip_cons_cons,List.zip_nil_right,List.mem_cons,List.not_mem_nil,or_false] at hp
  rcases hp with hp | hp | hp | hp
  ·rw [hp];dsimp only;omega
  ·rw [hp];dsimp only;omega
  ·rw [hp];dsimp only;omega
  ·rw [hp];dsimp only;omega
theorem zoc {lo hi:Int} (h:Blk lo hi):∀s∈shs lo hi,ordS s/\1<=s.length/\s.length<=4:=fun s hs=>by
 obtain ⟨p,hp,rfl⟩:=List.mem_map.1 hs;obtain ⟨h1,h2⟩:=zfI _ _ _ h (nL _) p hp;have hl:=zfD h1;have:=zeD p.1;exact ⟨zlR h1 h2,by rw [show p=(p.1,p.2) from rfl,hl];omega,by rw [show p=(p.1,p.2) from rfl,hl];omega⟩
theorem zdw (lo hi:Int):∀s∈zcK lo hi,ordS s/\1<=s.length/\s.length<=4:=fun s hs=>by
 unfold zcK at hs;obtain ⟨b,hb,h2⟩:=List.mem_flatMap.1 hs;unfold zec at h2;obtain ⟨k,hk,rfl⟩:=List.getElem_of_mem hb
 split at h2
 ·next q=>exact zoc ((zfF (gE hk)).2.2.2 lo hi q) s h2
 ·cases h2
def zgy (ss:List zaY):List Nd:=if ss.length=0 then [(2,0#256)] else zdG ss ss.length
def PnV (w w':World) (lo hi:Int) (e:Ending):Prop :=
 if bdB lo=true/\bdB hi=true then
  (if lo<=hi then ∃v,e=.returned (.tuple #[v,.int .i64 0])/\w'.ownsRow w.heap.size 65 7 v (zgy (zcK lo hi)).length (ndc (zgy (zcK lo hi))) else e=.returned (.tuple #[.slice none 0 0,.int .i64 1]))
 else e=.returned (.tuple #[.slice none 0 0,.int .i64 30])
theorem zb4 {w w':World} (h:w.grownBy w' none):bW w w':=⟨h.os,h.tape,h.output,h.size,fun k hk=>h.block k hk (by simp)⟩
theorem zhK (w:World) (op:Int):(w.alloc (.cells (ndZ op) 65)).ownsRow w.heap.size 65 7 (.slice (some ⟨w.heap.size,0,none⟩) 1 1) 1 (ndc [(op,0#256)]):=by
 rw [zdO,<-zdu];exact ⟨rfl,.inr ⟨w.heap.size,1,ndZ op,rfl,nL _,heap_alloc_new w _,nL _,by unfold maxLen;omega,rfl,rfl⟩⟩
theorem ShV.err {w w':World} {lo hi:Int} {e:Ending} (h:ShV w w' lo hi e):(∃c,e=.returned (.tuple #[.slice none 0 0,.int .i64 c])/\c≠0/\∀w2 w3 e2,e2=.returned (.tuple #[.slice none 0 0,.int .i64 c])->PnV w2 w3 lo hi e2) ∨
  ((∃v xs,e=.returned (.tuple #[v,.int .i64 0])/\RR w' w.heap.size v (zcK lo hi) xs)/\∀w2 w3 e2,(∃v,e2=.returned (.tuple #[v,.int .i64 0])/\w3.ownsRow w2.heap.size 65 7 v (zgy (zcK lo hi)).length (ndc (zgy (zcK lo hi))))->PnV w2 w3 lo hi e2):=by
 unfold ShV at h
 split at h
 ·next q =>
  split at h
  ·next q2=>exact .inr ⟨h,fun _ _ _ h2=>by unfold PnV;rw [iP q,iP q2];exact h2⟩
  ·next q2=>exact .inl ⟨1,h,by omega,fun _ _ _ h2=>by unfold PnV;rw [iP q,iN q2];exact h2⟩
 ·next q=>exact .inl ⟨30,h,by omega,fun _ _ _ h2=>by unfold PnV;rw [iN q];exact h2⟩
theorem zgU (lo hi:Int) (w:World) (hv:VB w):Cl 172 #[.int .i64 lo,.int .i64 hi] w fun e w'=>PnV w w' lo hi e/\bW w w':=by
 obtain ⟨i0,hinf,hz0,hz1,hz2⟩:=info_parts Tryz.info80;have HS:Hid (Cl 177 #[.int .i64 lo,.int .i64 hi] w fun e w'=>ShV w w' lo hi e/\bW w w'):=zij lo hi w hv;have HO:=hO (zdw lo hi);have HLn:=hO (zfG lo hi 5);rw [zds] at HLn;clear hv;go_enter Tryz.func172,Tryz.ntmps172;go_wp2_with fail;refine HS.mono ?_;rintro e w1 ⟨hsh,hb1⟩;have HB1:=hO hb1;clear hb1 HS
 rcases hsh.err with ⟨c,rfl,hc,hP⟩ | ⟨⟨sv,xs,rfl,hR⟩,hP⟩
 ·have HP:=hO hP
  have ec:(c != 0)=true:=bne_iff_ne.2 hc;clear hsh hP hc;go_wp2
  go_ret2
  exact ⟨HP _ _ _ rfl,HB1.out⟩
 ·have HP:=hO hP
  have HR:=hO hR;clear hsh hP;generalize zcK lo hi=ss at *;have hlx:=hR.len;obtain ⟨A,cs,rfl⟩:∃A cs,sv=.slice A ss.length cs:=by
   rcases hR.o.2 with ⟨rfl,h0⟩ | ⟨g,cap,cur,rfl,_⟩
   ·exact ⟨none,0,by rw [<-hlx,h0]⟩
   ·exact ⟨_,_,by rw [hlx]⟩
  clear hR hlx;by_cases hn:ss.length=0
  ·have HE:Hid (zgy ss=[(2,0#256)]):=(by show _=_;unfold zgy;rw [iP hn])
   have e0:((ss.length:Int)==0)=true:=by rw [hn];rfl
   have HN:=hO (zhK w1 2);have HB2:Hid (bW w (w1.alloc (.cells (ndZ 2) 65))):=HB1.alloc HB1.size _;have hz1':=HB1.size;clear HO HR HLn hn;generalize ss.length=m at *;go_wp2
   go_ret2
   exact ⟨HP _ _ _ ⟨_,rfl,by rw [HE.out];exact za7 HN hz1'⟩,HB2.out⟩
  ·have HE:Hid (zgy ss=zdG ss ss.length):=(by show _=_;unfold zgy;rw [iN hn])
   have e0:((ss.length:Int)==0)=false:=bF (by omega);have HG:Hid (∀k,k<ss.length->∃s,ss[k]?=some s):=fun k hk=>⟨_,gE hk⟩
   have HPl:Hid (∀k,(zdG ss k).length<=9 * k):=fun k=>zfH ss k fun s hs=>(HO s hs).2.2
   clear hn;go_wp2_with fail;go_loopw [8,27] (fun u t wr=>∃k:Nat,k<=ss.length/\t=.int .i64 k/\Hid (AtN w1 wr w1.heap.size (.slice none 0 0) u (zdG ss k))) (fun _ t _=>ss.length - (intOf t).toNat)
   case atStart=>exact ⟨0,by omega,by go_num,⟨World.ownsRow_nil _ _ _ _,World.grownBy.refl _ _,fun k e=>.inl e⟩⟩
   case round =>
    obtain ⟨k,hk,rfl,HW⟩:=hrel;by_cases hlt:k<ss.length
    ·obtain ⟨s,hs⟩:=HG k hlt
     have HBw:Hid (bW w1 wr):=zb4 HW.g;obtain ⟨g,cap,gx,cx,hA,hgl,_,hcell,hgx,hspl⟩:=(HR.below HBw.out).get hs
     cases hA
     have HI:Hid (zdG ss (k+1)=(zdG ss k++zcx s s.length)++(if 0<k then [(8,0#256)] else [])):=(by show _=_;rw [zcN];unfold ptI;rw [hs,List.append_assoc]);obtain ⟨ho1,_,ho3⟩:=HO s (List.mem_of_getElem? hs);have hplk:=HPl k;have hln:=HLn.out;obtain ⟨gx0,hgx0⟩:∃q:Nat,gx<w1.heap.size:=⟨0,by
      obtain ⟨g',cap',gx',cx',hA',_,_,hc',hgx',_⟩:=HR.get hs
      cases hA'
      have e1:=HBw.cell (p:=⟨g,k,none⟩) (World.block_lt_of_cell? w1 _ hc');rw [hcell] at e1;rw [hc'] at e1
      cases e1
      exact hgx'⟩
     have HAS:Hid (Cl 178 #[u8,.slice (some ⟨gx,0,none⟩) s.length cx] wr fun e w'=>∃v',e=.returned v'/\AtN wr w' w1.heap.size u8 v' (zdG ss k++zcx s s.length)):=zeF u8 (zdG ss k) w1.heap.size gx cx s ho1 ho3 (by omega) wr HW.o HBw.size hspl hgx (fun e=>by
      rcases HW.out.k gx e with q | q
      ·cases q
      ·omega)
     have z0:(0:Int)<=(k:Int):=by omega
     have z1:(k:Int)<(ss.length:Int):=by omega
     have z9:(ss.length:Int)<=1114112:=by omega
     have hndl:=zel s s.length;have hLl:(zdG ss k++zcx s s.length).length<=20000000:=by rw [lA];omega
     generalize hM:zdG ss k++zcx s s.length=M at *;clear hM hplk hln hspl ho1 hndl;go_wp2_with fail;refine HAS.mono ?_;rintro e w2 ⟨v2,rfl,hA2⟩;have HW2:=(show Hid (AtN w1 w2 w1.heap.size (.slice none 0 0) v2 M) from ⟨hA2.o,HW.g.andThen hA2.g (fun j e=>by
      rcases HW.out.k j e with q | q
      ·cases q
      ·exact .inl q),fun j e=>by
       rcases hA2.k j e with q | q
       ·exact HW.k j q
       ·have:=HBw.size;exact .inr (by omega)⟩)
     have hsz2:=hA2.g.size;have hszw:=HBw.size;clear hA2 HAS HW HBw hcell;by_cases hk0:0<k
     ·have z2:(0:Int)<(k:Int):=by omega
      have hO3:=HW2.o;have HI2:Hid (zdG ss (k+1)=M++[(8,0#256)]):=(by show _=_;rw [HI.out,iP hk0]);go_wp2_with (at_builtin;refine wpList_append_lies _ rfl _ _ 34 rfl w1.heap.size 65 i0 (.agg #[.int .i64 0,.int .i64 0,.string ⟨#[]⟩,.int .u64 0,.int .u64 0,.int .u64 0,.int .u64 0]) 7 64 Tryz.underlying34 hinf hz0 hz1 hz2 rfl (by decide) _ _ _ rfl (hO3.alloc _) ⟨w2.heap.size,0,none⟩ 1 1 (ndZ 8).toList rfl rfl (zdv w2 (ndZ 8)) (by rw [zdu];exact zc7 _) (by decide) ?c3 ?c4 ?c5 (w2.heap.size+1) (by simp) ?_)
      case c3=>unfold maxLen;omega
      case c4=>omega
      case c5=>simp;omega
      intro g2 cap2 w4 hown hgrow hat hlt4;have HW4:=(show Hid (AtN w1 w4 w1.heap.size (.slice none 0 0) (.slice (some ⟨g2,0,none⟩) (M.length+1) cap2) (zdG ss (k+1))) from (by
       rw [HI2.out];exact HW2.push (n:=(8,0#256)) (by rw [<-zdu];exact hown) hgrow hat))
      clear hown hgrow hat hO3 HW2;go_wp2
      go_roundw
      case rel=>exact ⟨k+1,by omega,by go_num,HW4⟩
      case measure=>simp [intOf];omega
     ·have hk00:k=0:=by omega
      have HI2:Hid (zdG ss (k+1)=M):=(by show _=_;rw [HI.out,iN hk0,List.append_nil]);rw [<-HI2.out] at HW2;subst hk00;go_wp2
      go_roundw
      case rel=>exact ⟨0+1,by omega,by go_num,HW2⟩
      case measure=>simp [intOf];omega
    ·obtain rfl:k=ss.length:=by omega
     have HB3:Hid (bW w wr):=HB1.trans ((zb4 HW.g).mono HB1.size);have hz:=HB1.size;rw [<-HE.out] at HW;clear HG HR HO HPl HE;go_wp2
     go_ret2
     exact ⟨HP _ _ _ ⟨_,rfl,za7 HW.o hz⟩,HB3.out⟩
end Go.Proofs.YtkihfkcmcdiajabGreatDoor.R
namespace Go.Proofs.YtkihfkcmcdiajabGreatDoor.N
open Go.RowKit
def cvN (n:R.Nd):Nd:=⟨n.1,0,⟨#[]⟩,wd n.2 0,wd n.2 1,wd n.2 2,wd n.2 3⟩
theorem zjB (l:List R.Nd):R.ndc l=T.ndc (l.map cvN):=by
 unfold R.ndc T.ndc;rw [List.flatMap_map];rfl
def rnP (lo hi:Int):List Nd:=(R.zgy (R.zcK lo hi)).map cvN
def tmL (tx:ByteArray):List Nd:=[⟨1,0,⟨#[]⟩,0,0,0,0⟩,⟨22,0,tx,0,0,0,0⟩]
theorem ck_tm (tx:ByteArray):((T.ck (tmL tx)).2==0)=T.tmB tx:=by
 have e:(⟨#[]⟩:ByteArray)=ByteArray.empty:=rfl
 cases h:T.tmB tx <;> simp [tmL,T.ck,T.zlE,T.er,T.alE,T.fdF,T.txF,T.nuF,T.seF,T.ar,T.run,T.pt,T.mk,T.arN,T.zdF,h,e]
theorem rd_two (w:World) (a b:Nd):T.RdN (w.alloc (.cells #[.int .i64 a.op,.int .i64 a.nn,.string a.tx,.int .u64 a.s0,.int .u64 a.s1,.int .u64 a.s2,.int .u64 a.s3,.int .i64 b.op,.int .i64 b.nn,.string b.tx,.int .u64 b.s0,.int .u64 b.s1,.int .u64 b.s2,.int .u64 b.s3] 65)) (some ⟨w.heap.size,0,none⟩) [a,b]:=fun _=>by
 refine ⟨w.heap.size,0,rfl,by rw [sA];omega,?_⟩;refine T.zjr (B:=w.heap.size) (n:=2) (cap:=2) (xs:=[]) ?_;rw [List.append_nil];exact ⟨rfl,.inr ⟨w.heap.size,2,_,rfl,nL _,heap_alloc_new w _,nL _,by unfold maxLen;omega,rfl,rfl⟩⟩
theorem zjC (tx:ByteArray) (hs:tx.size<=140737488355328) (W:World):Cl 167 #[.string tx] W (rB W (.bool (T.tmB tx))):=by
 have HC:Hid (∀_:Unit,Cl 35 #[.slice (some ⟨W.heap.size,0,none⟩) 2 2] (W.alloc (.cells #[.int .i64 1,.int .i64 0,.string ⟨#[]⟩,.int .u64 0,.int .u64 0,.int .u64 0,.int .u64 0,.int .i64 22,.int .i64 0,.string tx,.int .u64 0,.int .u64 0,.int .u64 0,.int .u64 0] 65)) fun e w'=>e=.returned (.tuple #[.int .i64 (T.ck (tmL tx)).1,.int .i64 (T.ck (tmL tx)).2])/\Below (W.heap.size+1) (W.alloc (.cells #[.int .i64 1,.int .i64 0,.string ⟨#[]⟩,.int .u64 0,.int .u64 0,.int .u64 0,.int .u64 0,.int .i64 22,.int .i64 0,.string tx,.int .u64 0,.int .u64 0,.int .u64 0,.int .u64 0] 65)) w'):=fun _=>by
  have h:=T.zf7 (tmL tx) (some ⟨W.heap.size,0,none⟩) 2 (by show 2<=_;omega) (by intro n hn;rcases List.mem_cons.1 hn with rfl | hn;exact Nat.zero_le _;rw [List.mem_singleton.1 hn];exact hs) _ (rd_two W _ _);(try unfold rB at h);rw [sA] at h;exact h
 have HE:Hid (((T.ck (tmL tx)).2==0)=T.tmB tx):=ck_tm tx;generalize T.ck (tmL tx)=r at *;go_enter Tryz.func167,Tryz.ntmps167;go_wp2_with fail;refine (HC ()).mono ?_;rintro e w1 ⟨rfl,hb⟩;have HB:Hid (bW W w1):=(zaa W _).trans (hb.mono (Nat.le_succ _));clear hb HC;go_wp2_with fail;go_ret
 exact ⟨by rw [<-HE.out];rfl,HB.out⟩
def lfN (t:Tk):List Nd:=if t.kd=2 then (if t.tx.size=0 then [nd0 1] else [⟨4,0,t.tx,0,0,0,0⟩]) else if t.kd=3∨t.kd=28 then [⟨5,0,⟨#[]⟩,t.s0,t.s1,t.s2,t.s3⟩] else if t.kd=5 then rnP t.nn t.s0 else if t.kd=18 then [nd0 3] else if t.kd=30 then [nd0 2] else if t.kd=1 then [⟨6,0,t.tx,0,0,0,0⟩] else [nd0 1]
theorem own_nd (W:World) (n:Nd) (B:Nat) (hB:B<=W.heap.size):(W.alloc (.cells #[.int .i64 n.op,.int .i64 n.nn,.string n.tx,.int .u64 n.s0,.int .u64 n.s1,.int .u64 n.s2,.int .u64 n.s3] 65)).ownsRow B 65 7 (.slice (some ⟨W.heap.size,0,none⟩) 1 1) 1 (T.ndc [n]):=by
 rw [T.zdO];exact ⟨rfl,.inr ⟨W.heap.size,1,_,rfl,hB,heap_alloc_new W _,nL _,by unfold maxLen;omega,rfl,rfl⟩⟩
theorem zcO (w:World) (a b:Obj) (n:Nd):(((w.alloc a).alloc b).alloc (.cells #[.int .i64 n.op,.int .i64 n.nn,.string n.tx,.int .u64 n.s0,.int .u64 n.s1,.int .u64 n.s2,.int .u64 n.s3] 65)).ownsRow w.heap.size 65 7 (.slice (some ⟨w.heap.size+1+1,0,none⟩) 1 1) 1 (T.ndc [n]):=by
 have h:=own_nd ((w.alloc a).alloc b) n w.heap.size (by rw [sA,sA];omega)
 rwa [sA,sA] at h
theorem zcf (w:World) (a b c:Obj):bW w (((w.alloc a).alloc b).alloc c):=(((bR _ _).alloc (nL _) _).alloc (by rw [sA];omega) _).alloc (by rw [sA,sA];omega) _
def LfV (w w':World) (M:List Nd) (e:Ending):Prop:=∃v,e=.returned v/\w'.ownsRow w.heap.size 65 7 v M.length (T.ndc M)
theorem zod (t:Tk) (hk:t.kd=18) (w:World):Cl 166 #[tkG t] w fun e w'=>LfV w w' [nd0 3] e/\bW w w':=by
 obtain ⟨kd,nn,fr,en,tx,s0,s1,s2,s3⟩:=t;obtain rfl:kd=18:=hk;go_enter Tryz.func166,Tryz.ntmps166;go_wp2_with fail;go_ret
 exact ⟨⟨_,rfl,zcO w _ _ (nd0 3)⟩,zcf _ _ _ _⟩
theorem zoe (t:Tk) (hk:t.kd=30) (w:World):Cl 166 #[tkG t] w fun e w'=>LfV w w' [nd0 2] e/\bW w w':=by
 obtain ⟨kd,nn,fr,en,tx,s0,s1,s2,s3⟩:=t;obtain rfl:kd=30:=hk;go_enter Tryz.func166,Tryz.ntmps166;go_wp2_with fail;go_ret
 exact ⟨⟨_,rfl,zcO w _ _ (nd0 2)⟩,zcf _ _ _ _⟩
theorem leaf_1 (t:Tk) (hk:t.kd=1) (w:World):Cl 166 #[tkG t] w fun e w'=>LfV w w' [⟨6,0,t.tx,0,0,0,0⟩] e/\bW w w':=by
 obtain ⟨kd,nn,fr,en,tx,s0,s1,s2,s3⟩:=t;obtain rfl:kd=1:=hk;go_enter Tryz.func166,Tryz.ntmps166;go_wp2_with fail;go_ret
 exact ⟨⟨_,rfl,zcO w _ _ (⟨6,0,tx,0,0,0,0⟩)⟩,zcf _ _ _ _⟩
theorem leaf_3 (t:Tk) (hk:t.kd=3) (w:World):Cl 166 #[tkG t] w fun e w'=>LfV w w' [⟨5,0,⟨#[]⟩,t.s0,t.s1,t.s2,t.s3⟩] e/\bW w w':=by
 obtain ⟨kd,nn,fr,en,tx,s0,s1,s2,s3⟩:=t;obtain rfl:kd=3:=hk;go_enter Tryz.func166,Tryz.ntmps166;go_wp2_with fail;go_ret
 exact ⟨⟨_,rfl,zcO w _ _ (⟨5,0,⟨#[]⟩,s0,s1,s2,s3⟩)⟩,zcf _ _ _ _⟩
theorem zof (t:Tk) (hk:t.kd=28) (w:World):Cl 166 #[tkG t] w fun e w'=>LfV w w' [⟨5,0,⟨#[]⟩,t.s0,t.s1,t.s2,t.s3⟩] e/\bW w w':=by
 obtain ⟨kd,nn,fr,en,tx,s0,s1,s2,s3⟩:=t;obtain rfl:kd=28:=hk;go_enter Tryz.func166,Tryz.ntmps166;go_wp2_with fail;go_ret
 exact ⟨⟨_,rfl,zcO w _ _ (⟨5,0,⟨#[]⟩,s0,s1,s2,s3⟩)⟩,zcf _ _ _ _⟩
theorem zog (t:Tk) (hk:t.kd=29) (w:World):Cl 166 #[tkG t] w fun e w'=>LfV w w' [nd0 1] e/\bW w w':=by
 obtain ⟨kd,nn,fr,en,tx,s0,s1,s2,s3⟩:=t;obtain rfl:kd=29:=hk;go_enter Tryz.func166,Tryz.ntmps166;go_wp2_with fail;go_ret
 exact ⟨⟨_,rfl,zcO w _ _ (nd0 1)⟩,zcf _ _ _ _⟩
theorem zoh (t:Tk) (hk:t.kd=2) (ht:t.tx.size=0) (w:World):Cl 166 #[tkG t] w fun e w'=>LfV w w' [nd0 1] e/\bW w w':=by
 obtain ⟨kd,nn,fr,en,tx,s0,s1,s2,s3⟩:=t;obtain rfl:kd=2:=hk;have e1:tx=⟨#[]⟩:=by
  have h:tx.size=0:=ht;obtain ⟨d⟩:=tx;rw [Array.eq_empty_of_size_eq_zero (show d.size=0 from h)]
 subst e1;clear ht;go_enter Tryz.func166,Tryz.ntmps166;go_wp2_with fail;go_ret
 exact ⟨⟨_,rfl,zcO w _ _ (nd0 1)⟩,zcf _ _ _ _⟩
theorem leaf_2 (t:Tk) (hk:t.kd=2) (ht:¬t.tx.size=0) (w:World):Cl 166 #[tkG t] w fun e w'=>LfV w w' [⟨4,0,t.tx,0,0,0,0⟩] e/\bW w w':=by
 obtain ⟨kd,nn,fr,en,tx,s0,s1,s2,s3⟩:=t;obtain rfl:kd=2:=hk;have e1:tx.toList.isEmpty=false:=T.zdP ht;clear ht;go_enter Tryz.func166,Tryz.ntmps166;go_wp2_with fail;go_ret
 exact ⟨⟨_,rfl,zcO w _ _ (⟨4,0,tx,0,0,0,0⟩)⟩,zcf _ _ _ _⟩
theorem leaf_5 (t:Tk) (hk:t.kd=5) (hn:0<=t.nn/\t.nn<=t.s0/\t.s0<=1114111) (w:World) (hv:R.VB w):Cl 166 #[tkG t] w fun e w'=>LfV w w' (rnP t.nn t.s0) e/\bW w w':=by
 obtain ⟨kd,nn,fr,en,tx,s0,s1,s2,s3⟩:=t;obtain rfl:kd=5:=hk;dsimp only at hn ⊢;have HP:Hid (∀W,R.VB W->Cl 172 #[.int .i64 nn,.int .i64 s0] W fun e w'=>(∃v,e=.returned (.tuple #[v,.int .i64 0])/\w'.ownsRow W.heap.size 65 7 v (rnP nn s0).length (T.ndc (rnP nn s0)))/\bW W w'):=fun W h=>by
  refine (R.zgU nn s0 W h).mono ?_;rintro e w' ⟨h1,h2⟩;refine ⟨?_,h2⟩;unfold R.PnV at h1;rw [iP ⟨by unfold R.bdB;exact decide_eq_true (by omega),by unfold R.bdB;exact decide_eq_true (by omega)⟩,iP hn.2.1] at h1;obtain ⟨v,h3,h4⟩:=h1;exact ⟨v,h3,by unfold rnP;rw [List.length_map,<-zjB];exact h4⟩
 have HV:=hO hv;have u1:IntKind.i64.wrap s0=s0:=by rw [wI];omega
 clear hv hn;generalize rnP nn s0=M at *;go_enter Tryz.func166,Tryz.ntmps166;go_wp2_with fail;have hb2:∀a b:Obj,bW w ((w.alloc a).alloc b):=fun a b=>((bR _ _).alloc (nL _) _).alloc (by rw [sA];omega) _
 refine (HP _ (HV.below (hb2 _ _) HV.lt)).mono ?_;rintro e w1 ⟨⟨v,rfl,ho⟩,hb⟩;have HO:Hid (w1.ownsRow w.heap.size 65 7 v M.length (T.ndc M)/\bW w w1):=⟨za7 ho (by rw [sA,sA];omega),(hb2 _ _).trans (hb.mono (by rw [sA,sA];omega))⟩;clear ho hb hb2 HP HV;go_wp2_with fail;go_ret
 exact ⟨⟨v,rfl,HO.1⟩,HO.2⟩
theorem zlS (t:Tk) (hk:t.kd=2∨t.kd=3∨t.kd=28∨t.kd=5∨t.kd=18∨t.kd=29∨t.kd=30∨t.kd=1) (hn:t.kd=5->0<=t.nn/\t.nn<=t.s0/\t.s0<=1114111) (w:World) (hv:R.VB w):Cl 166 #[tkG t] w fun e w'=>LfV w w' (lfN t) e/\bW w w':=by
 rcases hk with h | h | h | h | h | h | h | h
 ·by_cases q:t.tx.size=0
  ·rw [show lfN t=[nd0 1] from by unfold lfN;rw [iP h,iP q]];exact zoh t h q w
  ·rw [show lfN t=[⟨4,0,t.tx,0,0,0,0⟩] from by unfold lfN;rw [iP h,iN q]];exact leaf_2 t h q w
 ·rw [show lfN t=[⟨5,0,⟨#[]⟩,t.s0,t.s1,t.s2,t.s3⟩] from by unfold lfN;rw [iN (by omega),iP (.inl h)]];exact leaf_3 t h w
 ·rw [show lfN t=[⟨5,0,⟨#[]⟩,t.s0,t.s1,t.s2,t.s3⟩] from by unfold lfN;rw [iN (by omega),iP (.inr h)]];exact zof t h w
 ·rw [show lfN t=rnP t.nn t.s0 from by unfold lfN;rw [iN (by omega),iN (by omega),iP h]];exact leaf_5 t h (hn h) w hv
 ·rw [show lfN t=[nd0 3] from by unfold lfN;rw [iN (by omega),iN (by omega),iN (by omega),iP h]];exact zod t h w
 ·rw [show lfN t=[nd0 1] from by unfold lfN;rw [iN (by omega),iN (by omega),iN (by omega),iN (by omega),iN (by omega),iN (by omega)]];exact zog t h w
 ·rw [show lfN t=[nd0 2] from by unfold lfN;rw [iN (by omega),iN (by omega),iN (by omega),iN (by omega),iP h]];exact zoe t h w
 ·rw [show lfN t=[⟨6,0,t.tx,0,0,0,0⟩] from by unfold lfN;rw [iN (by omega),iN (by omega),iN (by omega),iN (by omega),iN (by omega),iP h]];exact leaf_1 t h w
theorem zjD {rn:Int->Int->List Nd} (hr:∀a b,(rn a b).length+1<=10027010) {t:Tk} {k2:Int} {p:List Nd×Nat} (h:zb2 rn t k2=.inl p):p.1.length+1<=10027010:=by
 unfold zb2 at h;by_cases c0:t.kd=2
 ·rw [iP c0] at h
  cases h;first | exact hr _ _ | (show List.length _+1<=_;simp;done) | (show (if _ then _ else _:List Nd).length+1<=_;split <;> simp)
 rw [iN c0] at h;by_cases c1:t.kd=3∨t.kd=28
 ·rw [iP c1] at h
  cases h;first | exact hr _ _ | (show List.length _+1<=_;simp;done) | (show (if _ then _ else _:List Nd).length+1<=_;split <;> simp)
 rw [iN c1] at h;by_cases c2:t.kd=5
 ·rw [iP c2] at h
  cases h;first | exact hr _ _ | (show List.length _+1<=_;simp;done) | (show (if _ then _ else _:List Nd).length+1<=_;split <;> simp)
 rw [iN c2] at h;by_cases c3:t.kd=18
 ·rw [iP c3] at h
  cases h;first | exact hr _ _ | (show List.length _+1<=_;simp;done) | (show (if _ then _ else _:List Nd).length+1<=_;split <;> simp)
 rw [iN c3] at h;by_cases c4:t.kd=29
 ·rw [iP c4] at h
  cases h;first | exact hr _ _ | (show List.length _+1<=_;simp;done) | (show (if _ then _ else _:List Nd).length+1<=_;split <;> simp)
 rw [iN c4] at h;by_cases c5:t.kd=30
 ·rw [iP c5] at h
  cases h;first | exact hr _ _ | (show List.length _+1<=_;simp;done) | (show (if _ then _ else _:List Nd).length+1<=_;split <;> simp)
 rw [iN c5] at h;by_cases c6:t.kd=1
 ·rw [iP c6] at h
  cases h;first | exact hr _ _ | (show List.length _+1<=_;simp;done) | (show (if _ then _ else _:List Nd).length+1<=_;split <;> simp)
 rw [iN c6] at h;by_cases c7:t.kd=16
 ·rw [iP c7] at h
  cases h
 rw [iN c7] at h;by_cases c8:t.kd=19
 ·rw [iP c8] at h
  by_cases d:k2=20
  ·rw [iP d] at h
   cases h;show List.length _+1<=_;simp
  ·rw [iN d] at h
   cases h
 rw [iN c8] at h;by_cases c9:t.kd=21
 ·rw [iP c9] at h
  cases h
 rw [iN c9] at h;by_cases c10:t.kd=23
 ·rw [iP c10] at h
  cases h
 rw [iN c10] at h
 cases h
theorem zil {rn:Int->Int->List Nd} {t:Tk} {k2:Int} {p:Int×List Nd} (h:zb2 rn t k2=.inr p):p.2.length<=1:=by
 unfold zb2 at h;by_cases c0:t.kd=2
 ·rw [iP c0] at h
  cases h
 rw [iN c0] at h;by_cases c1:t.kd=3∨t.kd=28
 ·rw [iP c1] at h
  cases h
 rw [iN c1] at h;by_cases c2:t.kd=5
 ·rw [iP c2] at h
  cases h
 rw [iN c2] at h;by_cases c3:t.kd=18
 ·rw [iP c3] at h
  cases h
 rw [iN c3] at h;by_cases c4:t.kd=29
 ·rw [iP c4] at h
  cases h
 rw [iN c4] at h;by_cases c5:t.kd=30
 ·rw [iP c5] at h
  cases h
 rw [iN c5] at h;by_cases c6:t.kd=1
 ·rw [iP c6] at h
  cases h
 rw [iN c6] at h;by_cases c7:t.kd=16
 ·rw [iP c7] at h
  cases h;show List.length _<=1;simp
 rw [iN c7] at h;by_cases c8:t.kd=19
 ·rw [iP c8] at h
  by_cases d:k2=20
  ·rw [iP d] at h
   cases h
  ·rw [iN d] at h
   cases h;show List.length _<=1;simp
 rw [iN c8] at h;by_cases c9:t.kd=21
 ·rw [iP c9] at h
  cases h;show List.length _<=1;simp
 rw [iN c9] at h;by_cases c10:t.kd=23
 ·rw [iP c10] at h
  cases h;show List.length _<=1;simp
 rw [iN c10] at h
 cases h;show List.length _<=1;simp
theorem PF_len (E:PE) (hr:∀a b,(E.rn a b).length+1<=10027010):∀(f m i d a:Nat) (ns:List Nd),i<=E.l.length->(m=5->i<E.l.length)->PF E f m i d=.inl (a,ns)->(m=0∨m=2∨m=4∨m=5->ns.length+1<=10027010 * (a - i))/\ns.length<=10027010 * (a - i):=by
 intro f
 induction f with
 | zero=>intro m i d a ns _ _ h;rw [PF] at h;cases h
 | succ f ih =>
  intro m i d a ns hi h5 h;rw [PF] at h;by_cases m0:m=0
  ·rw [iP m0] at h
   obtain ⟨a1,n1,r1,h⟩:=zaO h;obtain ⟨n2,r2,e2⟩:=zaZ h;obtain ⟨x1,x2,x3⟩:=za5 E _ _ _ _ _ _ hi (by omega) r1;obtain ⟨y1,y2,_⟩:=za5 E _ _ _ _ _ _ x2 (by omega) r2;obtain ⟨u1,u2⟩:=ih _ _ _ _ _ hi (by omega) r1;obtain ⟨v1,v2⟩:=ih _ _ _ _ _ x2 (by omega) r2;have:=u1 (by omega);dsimp only at y1 y2 e2 v2;rw [e2,lA];exact ⟨fun _=>by omega,by omega⟩
  rw [iN m0] at h;by_cases m1:m=1
  ·rw [iP m1] at h
   by_cases k7:kdA E i=7
   ·have hlt:=za9 (E:=E) (i:=i) (by omega)
    rw [iP k7] at h;obtain ⟨a1,n1,r1,h⟩:=zaO h;obtain ⟨n2,r2,e2⟩:=zaZ h;obtain ⟨x1,x2,x3⟩:=za5 E _ _ _ _ _ _ (by omega) (by omega) r1;obtain ⟨y1,y2,_⟩:=za5 E _ _ _ _ _ _ x2 (by omega) r2;obtain ⟨u1,u2⟩:=ih _ _ _ _ _ (by omega) (by omega) r1;obtain ⟨v1,v2⟩:=ih _ _ _ _ _ x2 (by omega) r2;have:=u1 (by omega);dsimp only at y1 y2 e2 v2;rw [e2,lA,lA,List.length_singleton];exact ⟨fun q=>by omega,by omega⟩
   ·rw [iN k7] at h
    cases h
    exact ⟨fun q=>by omega,by simp⟩
  rw [iN m1] at h;by_cases m2:m=2
  ·rw [iP m2] at h
   obtain ⟨a1,n1,r1,h⟩:=zaO h;obtain ⟨n2,r2,e2⟩:=zaZ h;obtain ⟨x1,x2,x3⟩:=za5 E _ _ _ _ _ _ hi (by omega) r1;obtain ⟨y1,y2,_⟩:=za5 E _ _ _ _ _ _ x2 (by omega) r2;obtain ⟨u1,u2⟩:=ih _ _ _ _ _ hi (by omega) r1;obtain ⟨v1,v2⟩:=ih _ _ _ _ _ x2 (by omega) r2;have:=u1 (by omega);dsimp only at y1 y2 e2 v2;rw [e2,lA];exact ⟨fun _=>by omega,by omega⟩
  rw [iN m2] at h;by_cases m3:m=3
  ·rw [iP m3] at h
   by_cases kb:bgn E i=true
   ·have hlt:=zc6 kb
    rw [iP kb] at h;obtain ⟨a1,n1,r1,h⟩:=zaO h;obtain ⟨n2,r2,e2⟩:=zaZ h;obtain ⟨x1,x2,x3⟩:=za5 E _ _ _ _ _ _ (by omega) (by omega) r1;obtain ⟨y1,y2,_⟩:=za5 E _ _ _ _ _ _ x2 (by omega) r2;obtain ⟨u1,u2⟩:=ih _ _ _ _ _ (by omega) (by omega) r1;obtain ⟨v1,v2⟩:=ih _ _ _ _ _ x2 (by omega) r2;have:=u1 (by omega);dsimp only at y1 y2 e2 v2;rw [e2,lA,lA,List.length_singleton];exact ⟨fun q=>by omega,by omega⟩
   ·rw [iN kb] at h
    cases h
    exact ⟨fun q=>by omega,by simp⟩
  rw [iN m3] at h;by_cases m4:m=4
  ·rw [iP m4] at h
   by_cases kb:bgn E i=true
   ·have hlt:=zc6 kb
    rw [iP kb] at h;by_cases k8:kdA E i=8∨kdA E i=9
    ·rw [iP k8] at h
     split at h
     ·cases h
     ·obtain ⟨a1,n1,r1,h⟩:=zaO h
      cases h
      obtain ⟨x1,x2,x3⟩:=za5 E _ _ _ _ _ _ (by omega) (by omega) r1;obtain ⟨u1,u2⟩:=ih _ _ _ _ _ (by omega) (by omega) r1;have:=u1 (by omega);rw [lA,List.length_singleton];exact ⟨fun _=>by omega,by omega⟩
    ·rw [iN k8] at h
     obtain ⟨a1,n1,r1,h⟩:=zaO h;obtain ⟨n2,r2,e2⟩:=zaZ h;obtain ⟨x1,x2,x3⟩:=za5 E _ _ _ _ _ _ (by omega) (fun _=>hlt) r1;obtain ⟨y1,y2,_⟩:=za5 E _ _ _ _ _ _ x2 (by omega) r2;obtain ⟨u1,u2⟩:=ih _ _ _ _ _ (by omega) (fun _=>hlt) r1;obtain ⟨v1,v2⟩:=ih _ _ _ _ _ x2 (by omega) r2;have:=u1 (by omega);dsimp only at y1 y2 e2 v2;rw [e2,lA];exact ⟨fun _=>by omega,by omega⟩
   ·rw [iN kb] at h;cases h
  rw [iN m4] at h;by_cases m5:m=5
  ·rw [iP m5] at h
   have hlt:=h5 m5
   cases hp:zbw E i with
   | inl p =>
    rw [hp] at h
    cases h
    have h1:=zjb hlt hp;have h2:=zjD hr hp;exact ⟨fun _=>by omega,by omega⟩
   | inr p =>
    rw [hp] at h;dsimp only at h;have h2:=zil hp
    split at h
    ·cases h
    ·obtain ⟨a1,n1,r1,h⟩:=zaO h
     obtain ⟨x1,x2,x3⟩:=za5 E _ _ _ _ _ _ (by omega) (by omega) r1;obtain ⟨u1,u2⟩:=ih _ _ _ _ _ (by omega) (by omega) r1;have:=u1 (by omega)
     split at h
     ·cases h
      rw [lA];exact ⟨fun _=>by omega,by omega⟩
     ·cases h
  rw [iN m5] at h
  cases hp:zgG E i with
  | inr q =>
   rw [hp] at h
   cases q with
   | none=>cases h;exact ⟨fun q=>by omega,by simp⟩
   | some c=>cases h
  | inl p =>
   rw [hp] at h;dsimp only at h;obtain ⟨n2,r2,e2⟩:=zaZ h;have h1:=zhx hp;obtain ⟨y1,y2,_⟩:=za5 E _ _ _ _ _ _ h1.2 (by omega) r2;obtain ⟨v1,v2⟩:=ih _ _ _ _ _ h1.2 (by omega) r2;dsimp only at y1 y2 e2 v2;rw [e2,lA,List.length_singleton];exact ⟨fun q=>by omega,by omega⟩
theorem zbW {E:PE} (hr:∀a b,(E.rn a b).length+1<=10027010) {m i d a:Nat} {ns:List Nd} (hi:i<=E.l.length) (h5:m=5->i<E.l.length) (h:gN E m i d=.inl (a,ns)):(m=0∨m=2∨m=4∨m=5->ns.length+1<=10027010 * (a - i))/\ns.length<=10027010 * (a - i):=PF_len E hr _ _ _ _ _ _ hi h5 h
end Go.Proofs.YtkihfkcmcdiajabGreatDoor.N
