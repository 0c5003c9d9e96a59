import Derived.Test.YtkihfkcmcdiajabGreatDoorCards
import Derived.Test.YtkihfkcmcdiajabGreatDoorTie
import Derived.OpenShut
import Derived.ShutString
import Derived.ChangeOld
import Derived.ChangeSame
import Derived.SizedLaws
import Derived.FnData
import Derived.Deep.DeepHandedRow
import Derived.Lib.LaidTab
import Derived.Test.YtkihfkcmcdiajabGreatDoorPo16
set_option maxRecDepth 100000
set_option maxHeartbeats 8000000
namespace Go.Proofs.YtkihfkcmcdiajabGreatDoor
open Go.ChangeShapes Go.WideShapes Go.ChangeAt Go.RowKit
theorem own:ownKnob Tryz.prog.godebug=none:=by kernel_rfl
theorem gTab : Tryz.prog.globalNamed "harrow/token.signs" = some 0 := by kernel_rfl
theorem gTabType:(Tryz.prog.globals[0]?).map (·.type)=some 144:=by kernel_rfl
theorem gBlk : Tryz.prog.globalNamed "harrow/runes.blocks" = some 2 := by kernel_rfl
theorem gBlkType:(Tryz.prog.globals[2]?).map (·.type)=some 175:=by kernel_rfl
theorem Tryz.cells132:Tryz.prog.cellsOf 132=2:=by kernel_rfl
theorem Tryz.cellsInt:Tryz.prog.cellsOf 3=1:=by kernel_rfl
theorem Tryz.cellsStr:Tryz.prog.cellsOf 9=1:=by kernel_rfl
theorem Tryz.cells175:Tryz.prog.cellsOf 175=10:=by kernel_rfl
theorem Tryz.cells174:Tryz.prog.cellsOf 174=2:=by kernel_rfl
theorem Tryz.cells21:Tryz.prog.cellsOf 21=1:=by kernel_rfl
theorem zmx {H:Type} {enc:TypeId×Value->H} {W:World} {base fuel:Nat} {sp:Nat->Bool} {held:Bool} {cs:List Value} {z:DataW H×List MemPlace}
  (h:DataW.trod enc Tryz.prog W base sp held fuel 132 cs=some z):∃a s,cs=[.int .i64 a,.string s]/\z.1=.agg [.lit (.int .i64 a),.lit (.string s.data.toList)]:=by
 obtain ⟨y0,y1,n,rfl,hl,h0,h1⟩:=trod_struct2 Tryz.underlying132 h;rw [Tryz.cells132] at hl
 match cs,hl with
 | [c0,c1],_ =>
  dsimp only at h0 h1;rw [Tryz.cellsInt] at h0;rw [Tryz.cellsStr] at h1;obtain ⟨a,e0,e0',_⟩:=DataW.trod_int Tryz.underlying3 h0;obtain ⟨b,e1,e1',_⟩:=DataW.trod_string Tryz.underlying9 h1;have e0:[c0]=[Value.int .i64 a]:=e0;have e1:[c1]=[Value.string b]:=e1
  cases e0
  cases e1
  exact ⟨a,b,rfl,by rw [e0',e1']⟩
theorem zmy {H:Type}:(Rows.laid_harrow_token_signs:DataW H)=.agg (sgTab.map fun p=>.agg [.lit (.int .i64 p.1),.lit (.string p.2)]):=rfl
theorem zo7:∀(i:Nat) v,tabL[i]?=some v->∃j p,sgTab[j]?=some p/\((i=2 * j/\v=.int .i64 p.1)∨(i=2 * j+1/\v=.string ⟨p.2.toArray⟩)):=by
 have key:∀(l:List (Int×List UInt8)) (i:Nat) (v:Value),(l.flatMap fun p=>[Value.int .i64 p.1,.string ⟨p.2.toArray⟩])[i]?=some v->∃j p,l[j]?=some p/\((i=2 * j/\v=.int .i64 p.1)∨(i=2 * j+1/\v=.string ⟨p.2.toArray⟩)):=by
  intro l
  induction l with
  | nil=>intro i v h;simp at h
  | cons p l ih =>
   intro i v h;rw [List.flatMap_cons] at h
   match i,h with
   | 0,h=>exact ⟨0,p,rfl,.inl ⟨rfl,by simpa using h.symm⟩⟩
   | 1,h=>exact ⟨0,p,rfl,.inr ⟨rfl,by simpa using h.symm⟩⟩
   | i+2,h =>
    obtain ⟨j,q,h1,h2⟩:=ih i v (by simpa using h);exact ⟨j+1,q,by simpa using h1,by
     rcases h2 with ⟨x,y⟩ | ⟨x,y⟩
     ·exact .inl ⟨by omega,y⟩
     ·exact .inr ⟨by omega,y⟩⟩
 exact key sgTab
theorem ziA {W : World} {ps : List MemPlace} (h : DataW.LaidVars Tryz.prog W [("harrow/token.signs", Rows.laid_harrow_token_signs)] ps) : SG W := by
 obtain ⟨g',t',cs,fuel,p,q,hg',ht',hvar,hd,_,_⟩:=h;obtain rfl:=Option.some.inj (gTab.symm.trans hg');obtain rfl:=Option.some.inj (gTabType.symm.trans ht');obtain ⟨xs,m,rfl,hx,hl,hn,hel⟩:=DataW.trod_array Tryz.underlying144 hd;have hx1:=congrArg Prod.fst hx;dsimp only at hx1;rw [zmy] at hx1
 injection hx1 with hx1
 rw [Tryz.cells132] at hel;have hcell:=World.var?_cell gTab hvar;have key:∀j p,sgTab[j]?=some p->W.cell? ⟨0,2 * j,none⟩=some (.int .i64 p.1)/\W.cell? ⟨0,2 * j+1,none⟩=some (.string ⟨p.2.toArray⟩):=fun j p hp=>by
  have hj:j<24:=(List.getElem?_eq_some_iff.1 hp).1;have k0:=hel j hj;obtain ⟨x,hxj⟩:∃x,xs[j]?=some x:=⟨_,gE (by omega)⟩;rw [hxj] at k0;obtain ⟨a,s,e1,e2⟩:=zmx k0;have h3:(xs.map (·.1))[j]?=some x.1:=by rw [List.getElem?_map,hxj];rfl
  rw [<-hx1,List.getElem?_map,hp] at h3;have h3:DataW.agg [.lit (.int .i64 p.1),.lit (.string p.2)]=x.1:=Option.some.inj h3;rw [e2] at h3
  injection h3 with h3
  injection h3 with h4 h5
  injection h5 with h5 _
  injection h4 with h4
  injection h4 with h4 h4
  injection h5 with h5
  injection h5 with h5
  have hs:s=⟨p.2.toArray⟩:=by rw [h5]
  have c0:cs.toList[2 * j]?=some (.int .i64 p.1):=by
   have:=congrArg (fun l=>l[0]?) e1;simp only [List.getElem?_take,List.getElem?_drop,List.getElem?_cons_zero] at this;rw [iP (by omega),show j * 2+0=2 * j from by omega,<-h4] at this;exact this
  have c1:cs.toList[2 * j+1]?=some (.string ⟨p.2.toArray⟩):=by
   have:=congrArg (fun l=>l[1]?) e1;simp only [List.getElem?_take,List.getElem?_drop,List.getElem?_cons_succ,List.getElem?_cons_zero] at this;rw [iP (by omega),show j * 2+1=2 * j+1 from by omega,hs] at this;exact this
  exact ⟨(hcell (2 * j)).trans (by simpa using c0),(hcell (2 * j+1)).trans (by simpa using c1)⟩
 refine ⟨World.block_lt_of_cell? W _ (key 0 _ rfl).1,fun i v hv=>?_⟩;obtain ⟨j,p,hp,hor⟩:=zo7 i v hv;obtain ⟨h1,h2⟩:=key j p hp;rw [Nat.zero_add]
 rcases hor with ⟨rfl,rfl⟩ | ⟨rfl,rfl⟩
 ·exact h1
 ·exact h2
theorem zkE {P:Program} {W:World} {x:String×DataW Unit} {r:List (String×DataW Unit)} {ps:List MemPlace} (h:DataW.LaidVars P W (x::r) ps):∃q,DataW.LaidVars P W r q:=by
 obtain ⟨_,_,_,_,_,q,_,_,_,_,hq,_⟩:=h;exact ⟨q,hq⟩
theorem zcX {H:Type} {enc:TypeId×Value->H} {W:World} {base fuel:Nat} {sp:Nat->Bool} {held:Bool} {c0 c1:Value} {z:DataW H×List MemPlace}
  (h:DataW.trod enc Tryz.prog W base sp held fuel 174 [c0,c1]=some z):∃a b,c0=.int .i32 a/\c1=.int .i32 b/\z.1=.agg [.lit (.int .i32 a),.lit (.int .i32 b)]:=by
 obtain ⟨y0,y1,n,rfl,_,h0,h1⟩:=trod_struct2 Tryz.underlying174 h;dsimp only at h0 h1;rw [Tryz.cells21] at h0 h1;obtain ⟨a,e0,e0',_⟩:=DataW.trod_int Tryz.underlying21 h0;obtain ⟨b,e1,e1',_⟩:=DataW.trod_int Tryz.underlying21 h1;have e0:[c0]=[Value.int .i32 a]:=e0;have e1:[c1]=[Value.int .i32 b]:=e1
 cases e0
 cases e1
 exact ⟨a,b,rfl,rfl,by rw [e0',e1']⟩
theorem ziB {W : World} {rest : List (String × DataW Unit)} {ps : List MemPlace} (h : DataW.LaidVars Tryz.prog W (("harrow/runes.blocks", Rows.laid_harrow_runes_blocks) :: rest) ps) : R.VB W := by
 obtain ⟨g',t',cs,fuel,p,q,hg',ht',hvar,hd,_,_⟩:=h;obtain rfl:=Option.some.inj (gBlk.symm.trans hg');obtain rfl:=Option.some.inj (gBlkType.symm.trans ht');obtain ⟨xs,m,rfl,hx,hl,hn,hel⟩:=DataW.trod_array Tryz.underlying175 hd;have hx1:=congrArg Prod.fst hx;dsimp only at hx1;rw [Tryz.cells175] at hl;have hcell:=World.var?_cell gBlk hvar;obtain ⟨l⟩:=cs
 match l,hl with
 | [a0,a1,a2,a3,a4,a5,a6,a7,a8,a9],_ =>
  match xs,hn with
  | [x0,x1,x2,x3,x4],_ =>
   have k0:=hel 0 (by omega);have k1:=hel 1 (by omega);have k2:=hel 2 (by omega);have k3:=hel 3 (by omega);have k4:=hel 4 (by omega);rw [Tryz.cells174] at k0 k1 k2 k3 k4;obtain ⟨p0,q0,rfl,rfl,r0⟩:=zcX (show DataW.trod _ Tryz.prog _ _ _ _ m 174 [a0,a1]=some x0 from k0);obtain ⟨p1,q1,rfl,rfl,r1⟩:=zcX (show DataW.trod _ Tryz.prog _ _ _ _ m 174 [a2,a3]=some x1 from k1);obtain ⟨p2,q2,rfl,rfl,r2⟩:=zcX (show DataW.trod _ Tryz.prog _ _ _ _ m 174 [a4,a5]=some x2 from k2);obtain ⟨p3,q3,rfl,rfl,r3⟩:=zcX (show DataW.trod _ Tryz.prog _ _ _ _ m 174 [a6,a7]=some x3 from k3);obtain ⟨p4,q4,rfl,rfl,r4⟩:=zcX (show DataW.trod _ Tryz.prog _ _ _ _ m 174 [a8,a9]=some x4 from k4);simp only [Rows.laid_harrow_runes_blocks,List.map_cons,List.map_nil,r0,r1,r2,r3,r4,DataW.agg.injEq,List.cons.injEq,DataW.lit.injEq,Lit.int.injEq,and_true,true_and] at hx1;obtain ⟨⟨e0,e1⟩,⟨e2,e3⟩,⟨e4,e5⟩,⟨e6,e7⟩,e8,e9⟩:=hx1;subst e0 e1 e2 e3 e4 e5 e6 e7 e8 e9;have c0:=hcell 0;exact ⟨World.block_lt_of_cell? W _ c0,c0,hcell 1,hcell 2,hcell 3,hcell 4,hcell 5,hcell 6,hcell 7,hcell 8,hcell 9⟩
abbrev laidL : List (String × DataW Unit) := [("harrow/runes.blocks", Rows.laid_harrow_runes_blocks), ("harrow/token.signs", Rows.laid_harrow_token_signs)]
theorem ziC {W:World} (h:laidMetH Tryz.prog laidL W):N.GW W:=by
 have h:laidMet Tryz.prog laidL W:=h;obtain ⟨ps,h1,_⟩:=h;obtain ⟨q2,h2⟩:=zkE h1;exact ⟨ziA h2,ziB h1⟩
def layAt (k:Nat) (cs:Array Value) (w:World):World:={ w with heap:=w.heap.modify k fun
   | .cells _ t frozen=>.cells cs t frozen
   | o=>o }
def zkF (w:World):World:=layAt 2 #[.int .i32 0,.int .i32 127,.int .i32 128,.int .i32 2047,.int .i32 2048,.int .i32 55295,.int .i32 57344,.int .i32 65535,.int .i32 65536,.int .i32 1114111] (layAt 0 #[.int .i64 29,.string ⟨#[37,101]⟩,.int .i64 30,.string ⟨#[37,102]⟩,.int .i64 14,.string ⟨#[94,43]⟩,.int .i64 15,.string ⟨#[94,45]⟩,.int .i64 13,.string ⟨#[94]⟩,.int .i64 6,.string ⟨#[60,45]⟩,.int .i64 27,.string ⟨#[45,62]⟩,.int .i64 7,.string ⟨#[47]⟩,.int .i64 8,.string ⟨#[38]⟩,.int .i64 9,.string ⟨#[33]⟩,.int .i64 10,.string ⟨#[63]⟩,.int .i64 11,.string ⟨#[42]⟩,.int .i64 12,.string ⟨#[43]⟩,.int .i64 16,.string ⟨#[40]⟩,.int .i64 17,.string ⟨#[41]⟩,.int .i64 18,.string ⟨#[46]⟩,.int .i64 21,.string ⟨#[123,58]⟩,.int .i64 22,.string ⟨#[58,125]⟩,.int .i64 23,.string ⟨#[123,124]⟩,.int .i64 24,.string ⟨#[124,125]⟩,.int .i64 25,.string ⟨#[123,126]⟩,.int .i64 26,.string ⟨#[126,125]⟩,.int .i64 19,.string ⟨#[123]⟩,.int .i64 20,.string ⟨#[125]⟩] w)
end Go.Proofs.YtkihfkcmcdiajabGreatDoor
namespace Go.Proofs.YtkihfkcmcdiajabGreatDoor.N
open Go.RowKit
structure DB (W:World) (k:Nat) (a0 a1 a2 a3 a4 a5 a6:Value):Prop where
 heap:W.heap[k]?=some (.cells #[a0,a1,a2,a3,a4,a5,a6] 44 (0,0))
section
variable {W:World} {k:Nat} {a0 a1 a2 a3 a4 a5 a6:Value}
theorem DB.lt (h:DB W k a0 a1 a2 a3 a4 a5 a6):k<W.heap.size:=(Array.getElem?_eq_some_iff.1 h.heap).1
theorem DB.same (h:DB W k a0 a1 a2 a3 a4 a5 a6) {W':World} (hb:W'.heap[k]?=W.heap[k]?):DB W' k a0 a1 a2 a3 a4 a5 a6:=⟨hb.trans h.heap⟩
theorem DB.below (h:DB W k a0 a1 a2 a3 a4 a5 a6) {W':World} (hb:bW W W'):DB W' k a0 a1 a2 a3 a4 a5 a6:=h.same (hb.block k h.lt)
theorem DB.cl (h:DB W k a0 a1 a2 a3 a4 a5 a6):W.cell? ⟨k,0,none⟩=some a0/\W.cell? ⟨k,1,none⟩=some a1/\W.cell? ⟨k,2,none⟩=some a2/\W.cell? ⟨k,3,none⟩=some a3/\W.cell? ⟨k,4,none⟩=some a4/\W.cell? ⟨k,5,none⟩=some a5/\W.cell? ⟨k,6,none⟩=some a6:=by
 have key:∀(j:Nat) u,(#[a0,a1,a2,a3,a4,a5,a6]:Array Value)[j]?=some u->W.cell? ⟨k,j,none⟩=some u:=fun j u hu=>by
  rw [cell_of_row W k j _ 44 (0,0) h.heap];exact hu
 exact ⟨key 0 _ rfl,key 1 _ rfl,key 2 _ rfl,key 3 _ rfl,key 4 _ rfl,key 5 _ rfl,key 6 _ rfl⟩
theorem DB.fz (h:DB W k a0 a1 a2 a3 a4 a5 a6) (j:Nat):W.frozen? ⟨k,j,none⟩=false:=frozen_of_row W k j _ 44 h.heap
theorem DB.fzs (h:DB W k a0 a1 a2 a3 a4 a5 a6):W.frozen? ⟨k,0,none⟩=false/\W.frozen? ⟨k,1,none⟩=false/\W.frozen? ⟨k,2,none⟩=false/\W.frozen? ⟨k,3,none⟩=false/\W.frozen? ⟨k,4,none⟩=false/\W.frozen? ⟨k,5,none⟩=false/\W.frozen? ⟨k,6,none⟩=false:=⟨h.fz 0,h.fz 1,h.fz 2,h.fz 3,h.fz 4,h.fz 5,h.fz 6⟩
theorem DB.ne (h:DB W k a0 a1 a2 a3 a4 a5 a6) {B e s n:Nat} {u:Value} {xs:List Value} (ho:W.ownsRow B e s u n xs) (he:e≠44) {j:Nat} (hj:u.ownBlock=some j):j≠k:=fun q=>by
 subst q;obtain ⟨cs,hc⟩:=zd0 ho hj;rw [h.heap] at hc
 injection hc with h4
 injection h4 with _ h5
 exact he h5.symm
end
abbrev st7 (W:World) (k:Nat) (a0 a1 a2 a3 a4 a5 a6:Value):World:=((((((W.setCell ⟨k,0,none⟩ a0).setCell ⟨k,1,none⟩ a1).setCell ⟨k,2,none⟩ a2).setCell ⟨k,3,none⟩ a3).setCell ⟨k,4,none⟩ a4).setCell ⟨k,5,none⟩ a5).setCell ⟨k,6,none⟩ a6
theorem zaH {W:World} {k:Nat} {b0 b1 b2 b3 b4 b5 b6:Value} (h:DB W k b0 b1 b2 b3 b4 b5 b6) (a0 a1 a2 a3 a4 a5 a6:Value):DB (st7 W k a0 a1 a2 a3 a4 a5 a6) k a0 a1 a2 a3 a4 a5 a6:=by
 have h0:=heap_setCell_same _ k 0 _ 44 a0 h.heap;have h1:=heap_setCell_same _ k 1 _ 44 a1 h0;have h2:=heap_setCell_same _ k 2 _ 44 a2 h1;have h3:=heap_setCell_same _ k 3 _ 44 a3 h2;have h4:=heap_setCell_same _ k 4 _ 44 a4 h3;have h5:=heap_setCell_same _ k 5 _ 44 a5 h4;have h6:=heap_setCell_same _ k 6 _ 44 a6 h5;refine ⟨?_⟩;rw [h6];simp
theorem zaw {W:World} {k j:Nat} (a0 a1 a2 a3 a4 a5 a6:Value) (h:j≠k):(st7 W k a0 a1 a2 a3 a4 a5 a6).heap[j]?=W.heap[j]? :=
 (bS _ _ _ _ h).trans ((bS _ _ _ _ h).trans ((bS _ _ _ _ h).trans ((bS _ _ _ _ h).trans ((bS _ _ _ _ h).trans ((bS _ _ _ _ h).trans (bS _ _ _ _ h))))))
theorem zaq {B:Nat} {w W:World} {k:Nat} (h:Below B w W) (hk:B<=k) (a0 a1 a2 a3 a4 a5 a6:Value):Below B w (st7 W k a0 a1 a2 a3 a4 a5 a6):=((((((h.setCell (p:=⟨k,0,none⟩) hk _).setCell (p:=⟨k,1,none⟩) hk _).setCell (p:=⟨k,2,none⟩) hk _).setCell (p:=⟨k,3,none⟩) hk _).setCell (p:=⟨k,4,none⟩) hk _).setCell (p:=⟨k,5,none⟩) hk _).setCell (p:=⟨k,6,none⟩) hk _
theorem zem (W:World) (k:Nat) (a0 a1 a2 a3 a4 a5 a6:Value):(st7 W k a0 a1 a2 a3 a4 a5 a6).heap.size=W.heap.size:=by simp [World.setCell]
theorem DB.s1 {W:World} {k:Nat} {a0 a1 a2 a3 a4 a5 a6:Value} (h:DB W k a0 a1 a2 a3 a4 a5 a6) (x:Value):DB (W.setCell ⟨k,1,none⟩ x) k a0 x a2 a3 a4 a5 a6:=⟨by rw [heap_setCell_same _ k 1 _ 44 x h.heap];simp⟩
theorem DB.s3 {W:World} {k:Nat} {a0 a1 a2 a3 a4 a5 a6:Value} (h:DB W k a0 a1 a2 a3 a4 a5 a6) (x:Value):DB (W.setCell ⟨k,3,none⟩ x) k a0 a1 a2 x a4 a5 a6:=⟨by rw [heap_setCell_same _ k 3 _ 44 x h.heap];simp⟩
theorem DB.s4 {W:World} {k:Nat} {a0 a1 a2 a3 a4 a5 a6:Value} (h:DB W k a0 a1 a2 a3 a4 a5 a6) (x:Value):DB (W.setCell ⟨k,4,none⟩ x) k a0 a1 a2 a3 x a5 a6:=⟨by rw [heap_setCell_same _ k 4 _ 44 x h.heap];simp⟩
theorem DB.s5 {W:World} {k:Nat} {a0 a1 a2 a3 a4 a5 a6:Value} (h:DB W k a0 a1 a2 a3 a4 a5 a6) (x:Value):DB (W.setCell ⟨k,5,none⟩ x) k a0 a1 a2 a3 a4 x a6:=⟨by rw [heap_setCell_same _ k 5 _ 44 x h.heap];simp⟩
theorem DB.s6 {W:World} {k:Nat} {a0 a1 a2 a3 a4 a5 a6:Value} (h:DB W k a0 a1 a2 a3 a4 a5 a6) (x:Value):DB (W.setCell ⟨k,6,none⟩ x) k a0 a1 a2 a3 a4 a5 x:=⟨by rw [heap_setCell_same _ k 6 _ 44 x h.heap];simp⟩
theorem zaV {fn:Func} {R:Ending->World->Prop} {act:Act} {W:World} {s k:Nat} {a0 a1 a2 a3 a4 a5 a6:Value} (hF:fn.results=#[.cell s 44]) (hd:act.defers=[]) (h2:act.tmps.getD s undef=.pointer (some ⟨k,0,none⟩)) (hT:DB W k a0 a1 a2 a3 a4 a5 a6) (hR:R (.returned (.agg #[a0,a1,a2,a3,a4,a5,a6])) W):bodyPost Tryz.prog fn R .ret act W:=by
 obtain ⟨c0,c1,c2,c3,c4,c5,c6⟩:=hT.cl;refine bodyPost_ret (v:=.agg #[a0,a1,a2,a3,a4,a5,a6]) ?_ hd hR;simp only [Array.getD_eq_getD_getElem?] at h2;simp [results,hF,go_sem,h2,c0,c1,c2,c3,c4,c5,c6]
abbrev rdV (tv:Value) (i z d:Int) (v:Value) (p c:Int):Value:=.agg #[tv,.int .i64 i,.int .i64 z,.int .i64 d,v,.int .i64 p,.int .i64 c]
abbrev rdO (tv:Value) (i z d:Int) (v:Value) (p c:Int):Obj:=.cells #[tv,.int .i64 i,.int .i64 z,.int .i64 d,v,.int .i64 p,.int .i64 c] 44
abbrev rdZ:Obj:=.cells #[.slice none 0 0,.int .i64 0,.int .i64 0,.int .i64 0,.slice none 0 0,.int .i64 0,.int .i64 0] 44
structure DS (E:PE) (w0 W:World) (tv:Value) (i d:Nat) (v:Value) (L:List Nd):Prop where
 bl:bW w0 W
 t:W.ownsRow w0.heap.size 69 9 tv E.l.length (tkc E.l)
 o:W.ownsRow w0.heap.size 65 7 v L.length (T.ndc L)
 hi:i<=E.l.length
 hd:d<=240
structure Fd (W W':World) (v v':Value):Prop where
 size:W.heap.size<=W'.heap.size
 block:∀k,k<W.heap.size->v.ownBlock≠some k->W'.heap[k]?=W.heap[k]?
 own:∀k,v'.ownBlock=some k->v.ownBlock=some k∨W.heap.size<=k
theorem Fd.trans {W W1 W2:World} {v v1 v2:Value} (h:Fd W W1 v v1) (h2:Fd W1 W2 v1 v2):Fd W W2 v v2 :=
 ⟨Nat.le_trans h.size h2.size,fun k hk hv=>(h2.block k (nM hk h.size) (fun q=>by
  rcases h.own k q with r | r
  ·exact hv r
  ·omega)).trans (h.block k hk hv),fun k hk=>by
  rcases h2.own k hk with r | r
  ·exact h.own k r
  ·exact .inr (Nat.le_trans h.size r)⟩
theorem Fd.below {W W':World} (v:Value) (h:bW W W'):Fd W W' v v:=⟨h.size,fun k hk _=>h.block k hk,fun _ h=>.inl h⟩
theorem Fd.set {W W':World} {v v':Value} (h:Fd W W' v v') {k:Nat} (hk:W.heap.size<=k) (j:Nat) (u:Value):Fd W (W'.setCell ⟨k,j,none⟩ u) v v' :=
 ⟨Nat.le_trans h.size (by simp [World.setCell]),fun q hq hv=>(bS _ _ _ _ (by show q≠k;omega)).trans (h.block q hq hv),h.own⟩
theorem Fd.st7 {W W':World} {v v':Value} (h:Fd W W' v v') {k:Nat} (hk:W.heap.size<=k) (a0 a1 a2 a3 a4 a5 a6:Value):Fd W (st7 W' k a0 a1 a2 a3 a4 a5 a6) v v' :=
 ⟨by rw [zem];exact h.size,fun q hq hv=>(zaw a0 a1 a2 a3 a4 a5 a6 (by omega)).trans (h.block q hq hv),h.own⟩
theorem Fd.grow {W W':World} {v:Value} {g n c:Nat} (h:W.grownBy W' v.ownBlock) (hat:v.ownBlock=some g∨g=W.heap.size):Fd W W' v (.slice (some ⟨g,0,none⟩) n c) :=
 ⟨h.size,fun k hk hv=>h.block k hk (fun e=>hv e.symm),fun k hk=>by
  have e:g=k:=Option.some.inj hk
  rcases hat with q | q
  ·exact .inl (by rw [q,e])
  ·exact .inr (by omega)⟩
section
variable {E:PE} {w0 W:World} {tv:Value} {i d:Nat} {v:Value} {L:List Nd}
theorem DS.later (h:DS E w0 W tv i d v L) {W':World} (hb:bW W W'):DS E w0 W' tv i d v L :=
 ⟨h.bl.trans (hb.mono h.bl.size),zf1 h.t hb,zf1 h.o hb,h.hi,h.hd⟩
theorem DS.at (h:DS E w0 W tv i d v L) {i2:Nat} (hi:i2<=E.l.length):DS E w0 W tv i2 d v L:=⟨h.bl,h.t,h.o,hi,h.hd⟩
theorem DS.dp (h:DS E w0 W tv i d v L) {d2:Nat} (hd:d2<=240):DS E w0 W tv i d2 v L:=⟨h.bl,h.t,h.o,h.hi,hd⟩
theorem DS.set (h:DS E w0 W tv i d v L) {k:Nat} {a0 a1 a2 a3 a4 a5 a6:Value} (hk:w0.heap.size<=k) (hx:DB W k a0 a1 a2 a3 a4 a5 a6) (j:Nat) (u:Value):DS E w0 (W.setCell ⟨k,j,none⟩ u) tv i d v L :=
 ⟨h.bl.setCell (p:=⟨k,j,none⟩) hk _,zaj h.t fun q hq=>bS _ _ _ _ (hx.ne h.t (by decide) hq),zaj h.o fun q hq=>bS _ _ _ _ (hx.ne h.o (by decide) hq),h.hi,h.hd⟩
theorem DS.st7 (h:DS E w0 W tv i d v L) {k:Nat} {b0 b1 b2 b3 b4 b5 b6:Value} (hk:w0.heap.size<=k) (hx:DB W k b0 b1 b2 b3 b4 b5 b6) (a0 a1 a2 a3 a4 a5 a6:Value):DS E w0 (st7 W k a0 a1 a2 a3 a4 a5 a6) tv i d v L :=
 ⟨zaq h.bl hk _ _ _ _ _ _ _,zaj h.t fun q hq=>zaw _ _ _ _ _ _ _ (hx.ne h.t (by decide) hq),zaj h.o fun q hq=>zaw _ _ _ _ _ _ _ (hx.ne h.o (by decide) hq),h.hi,h.hd⟩
theorem DS.grow (h:DS E w0 W tv i d v L) {W':World} {v2:Value} {L2:List Nd} (hg:W.grownBy W' v.ownBlock) (ho:W'.ownsRow w0.heap.size 65 7 v2 L2.length (T.ndc L2)):DS E w0 W' tv i d v2 L2 :=
 ⟨h.bl.grown hg h.bl.size (fun k e=>(h.o.lt k e).1),zaj h.t fun k hk=>hg.block k (h.t.lt k hk).2 (fun e=>za2 h.t h.o (by decide) hk e.symm),ho,h.hi,h.hd⟩
theorem DS.tk (h:DS E w0 W tv i d v L):∃A c,tv=.slice A E.l.length c/\∀k,k<E.l.length->∃g,A=some ⟨g,0,none⟩/\g<W.heap.size/\TR W g (k * 9) (tkA E k):=by
 obtain ⟨A,c,e,hr⟩:=zjh h.t rfl;refine ⟨A,c,e,fun k hk=>?_⟩;obtain ⟨g,h1,h2,hc⟩:=hr.rd (by rintro q;rw [q] at hk;simp at hk);refine ⟨g,h1,h2,?_⟩;have:tkA E k=E.l[k]:=by unfold tkA;rw [gE hk];rfl
 rw [this];exact hc k _ (gE hk)
end
theorem znm {E:PE} {i:Nat} (h:¬i<E.l.length):kdA E i=0:=by unfold kdA;rw [List.getElem?_eq_none (by omega)]
theorem zaP (At:Option Addr) (nt ct:Nat) (i z d:Int) (A:Option Addr) (n c:Nat) (p q:Int) (W:World):Cl 15 #[rdV (.slice At nt ct) i z d (.slice A n c) p q] W (rB W (.bool (q==0))):=by
 have HB:Hid (bW W (W.alloc (rdO (.slice At nt ct) i z d (.slice A n c) p q))):=zaa _ _;go_enter Tryz.func15,Tryz.ntmps15;go_wp2_with fail;go_ret
 exact ⟨rfl,HB.out⟩
theorem zhU (At:Option Addr) (nt ct:Nat) (i z d:Int) (A:Option Addr) (n c:Nat) (p q x:Int) (hq:q≠0) (W:World):Cl 26 #[rdV (.slice At nt ct) i z d (.slice A n c) p q,.int .i64 x] W (rB W (rdV (.slice At nt ct) i z d (.slice A n c) p q)):=by
 have t1:(q==0)=false:=by simpa using hq
 have HK:Hid (∀W,Cl 15 #[rdV (.slice At nt ct) i z d (.slice A n c) p q] W (rB W (.bool false))):=fun W=>by
  have:=zaP At nt ct i z d A n c p q W;rw [t1] at this;exact this
 have HB:=(show Hid (bW W ((W.alloc (rdO (.slice At nt ct) i z d (.slice A n c) p q)).alloc rdZ)/\DB ((W.alloc (rdO (.slice At nt ct) i z d (.slice A n c) p q)).alloc rdZ) W.heap.size (.slice At nt ct) (.int .i64 i) (.int .i64 z) (.int .i64 d) (.slice A n c) (.int .i64 p) (.int .i64 q)/\DB ((W.alloc (rdO (.slice At nt ct) i z d (.slice A n c) p q)).alloc rdZ) (W.heap.size+1) (.slice none 0 0) (.int .i64 0) (.int .i64 0) (.int .i64 0) (.slice none 0 0) (.int .i64 0) (.int .i64 0)) from
  ⟨((bR _ _).alloc (nL _) _).alloc (by rw [sA];omega) _,(DB.mk (heap_alloc_new W _)).below (zaa _ _),⟨by have h:=heap_alloc_new (W.alloc (rdO (.slice At nt ct) i z d (.slice A n c) p q)) rdZ;rw [sA] at h;exact h⟩⟩)
 clear t1 hq;go_enter Tryz.func26,Tryz.ntmps26;go_wp2_with fail;generalize (W.alloc (rdO (.slice At nt ct) i z d (.slice A n c) p q)).alloc rdZ=w1 at *;refine (HK _).mono ?_;rintro e w2 ⟨rfl,hb⟩;have HB2:Hid (bW W w2/\DB w2 W.heap.size (.slice At nt ct) (.int .i64 i) (.int .i64 z) (.int .i64 d) (.slice A n c) (.int .i64 p) (.int .i64 q)/\DB w2 (W.heap.size+1) (.slice none 0 0) (.int .i64 0) (.int .i64 0) (.int .i64 0) (.slice none 0 0) (.int .i64 0) (.int .i64 0)):=⟨HB.1.trans (hb.mono HB.1.size),HB.2.1.below hb,HB.2.2.below hb⟩;clear hb HK HB;obtain ⟨k0,k1,k2,k3,k4,k5,k6⟩:=HB2.2.1.cl;obtain ⟨f0,f1,f2,f3,f4,f5,f6⟩:=HB2.2.2.fzs;obtain ⟨m0,m1,m2,m3,m4,m5,m6⟩:=HB2.2.2.cl;go_wp2_with fail;refine zaV (s:=4) rfl rfl rfl (zaH HB2.2.2 _ _ _ _ _ _ _) ?_;exact ⟨rfl,zaq HB2.1 (Nat.le_succ _) _ _ _ _ _ _ _⟩
structure BX (k:Nat) (W:World) (tv:Value) (i z d:Int) (v:Value) (p c:Int):Prop where
 s:DB W k tv (.int .i64 i) (.int .i64 z) (.int .i64 d) v (.int .i64 p) (.int .i64 c)
 r:DB W (k+1) (.slice none 0 0) (.int .i64 0) (.int .i64 0) (.int .i64 0) (.slice none 0 0) (.int .i64 0) (.int .i64 0)
theorem BX.new (W:World) (tv:Value) (i z d:Int) (v:Value) (p c:Int):BX W.heap.size ((W.alloc (rdO tv i z d v p c)).alloc rdZ) tv i z d v p c/\bW W ((W.alloc (rdO tv i z d v p c)).alloc rdZ) :=
 ⟨⟨(DB.mk (heap_alloc_new W _)).below (zaa _ _),⟨by have h:=heap_alloc_new (W.alloc (rdO tv i z d v p c)) rdZ;rw [sA] at h;exact h⟩⟩,((bR _ _).alloc (nL _) _).alloc (by rw [sA];omega) _⟩
theorem BX.later {k:Nat} {W W':World} {tv:Value} {i z d:Int} {v:Value} {p c:Int} (h:BX k W tv i z d v p c) (hb:bW W W'):BX k W' tv i z d v p c:=⟨h.s.below hb,h.r.below hb⟩
theorem DB.fd {W W':World} {k:Nat} {a0 a1 a2 a3 a4 a5 a6:Value} (h:DB W k a0 a1 a2 a3 a4 a5 a6) {B n:Nat} {v v':Value} {xs:List Value} (ho:W.ownsRow B 65 7 v n xs) (hf:Fd W W' v v'):DB W' k a0 a1 a2 a3 a4 a5 a6:=h.same (hf.block k h.lt (fun q=>h.ne ho (by decide) q rfl))
theorem BX.fd {k:Nat} {W W':World} {tv:Value} {i z d:Int} {v0:Value} {p c:Int} (h:BX k W tv i z d v0 p c) {B n:Nat} {v v':Value} {xs:List Value} (ho:W.ownsRow B 65 7 v n xs) (hf:Fd W W' v v'):BX k W' tv i z d v0 p c:=⟨h.s.fd ho hf,h.r.fd ho hf⟩
theorem BX.st {k:Nat} {W:World} {tv:Value} {i z d:Int} {v:Value} {p c:Int} (h:BX k W tv i z d v p c) (tv2:Value) (i2 z2 d2:Int) (v2:Value) (p2 c2:Int):BX k (st7 W k tv2 (.int .i64 i2) (.int .i64 z2) (.int .i64 d2) v2 (.int .i64 p2) (.int .i64 c2)) tv2 i2 z2 d2 v2 p2 c2 :=
 ⟨zaH h.s _ _ _ _ _ _ _,h.r.same (zaw _ _ _ _ _ _ _ (by omega))⟩
theorem BX.s1 {k:Nat} {W:World} {tv:Value} {i z d:Int} {v:Value} {p c:Int} (h:BX k W tv i z d v p c) (x:Int):BX k (W.setCell ⟨k,1,none⟩ (.int .i64 x)) tv x z d v p c:=⟨h.s.s1 _,h.r.same (bS _ _ _ _ (by show k+1≠k;omega))⟩
theorem BX.s3 {k:Nat} {W:World} {tv:Value} {i z d:Int} {v:Value} {p c:Int} (h:BX k W tv i z d v p c) (x:Int):BX k (W.setCell ⟨k,3,none⟩ (.int .i64 x)) tv i z x v p c:=⟨h.s.s3 _,h.r.same (bS _ _ _ _ (by show k+1≠k;omega))⟩
theorem BX.s4 {k:Nat} {W:World} {tv:Value} {i z d:Int} {v:Value} {p c:Int} (h:BX k W tv i z d v p c) (x:Value):BX k (W.setCell ⟨k,4,none⟩ x) tv i z d x p c:=⟨h.s.s4 _,h.r.same (bS _ _ _ _ (by show k+1≠k;omega))⟩
theorem BX.s5 {k:Nat} {W:World} {tv:Value} {i z d:Int} {v:Value} {p c:Int} (h:BX k W tv i z d v p c) (x:Int):BX k (W.setCell ⟨k,5,none⟩ (.int .i64 x)) tv i z d v x c:=⟨h.s.s5 _,h.r.same (bS _ _ _ _ (by show k+1≠k;omega))⟩
theorem BX.s6 {k:Nat} {W:World} {tv:Value} {i z d:Int} {v:Value} {p c:Int} (h:BX k W tv i z d v p c) (x:Int):BX k (W.setCell ⟨k,6,none⟩ (.int .i64 x)) tv i z d v p x:=⟨h.s.s6 _,h.r.same (bS _ _ _ _ (by show k+1≠k;omega))⟩
theorem zmz {E:PE} {w0 W:World} {tv:Value} {i d:Nat} {v:Value} {L:List Nd} (h:DS E w0 W tv i d v L) (zz dd p q x:Int) (j:Nat) (hj:(j:Int)=(i:Int)+x) (hjl:j<E.l.length) (hz:E.l.length<=1000000) :
  Cl 39 #[rdV tv i zz dd v p q,.int .i64 x] W (rB W (.int .i64 (kdA E j))):=by
 obtain ⟨A,c,rfl,hc⟩:=h.tk;obtain ⟨g,rfl,lg,hr⟩:=hc j hjl;obtain ⟨B,n,rfl⟩:=zaf h.o;have hk:kdA E j=(tkA E j).kd:=(zc4 hjl).symm;rw [hk];have a0:=hr.c0;have hn:¬g=W.heap.size:=by omega
 have u1:IntKind.i64.wrap ((i:Int)+x)=(j:Int):=by rw [<-hj,wI];omega
 have z0:(0:Int)<=(j:Int):=by omega
 have z1:(j:Int)<(E.l.length:Int):=by omega
 have z2:¬(E.l.length:Int)<=(j:Int):=by omega
 have HB:Hid (bW W (W.alloc (rdO (.slice (some ⟨g,0,none⟩) E.l.length c) i zz dd (.slice B L.length n) p q))):=zaa _ _;clear hc hr h hk hj hjl hz;generalize (tkA E j).kd=kk at *;go_enter Tryz.func39,Tryz.ntmps39;go_wp2_with fail;go_ret
 exact ⟨rfl,HB.out⟩
theorem zkG {E:PE} {w0 W:World} {tv:Value} {i d:Nat} {v:Value} {L:List Nd} (h:DS E w0 W tv i d v L) (zz dd p q x:Int) (j:Nat) (hj:(j:Int)=(i:Int)+x) (hjl:¬j<E.l.length) (hz:j<=1000010) :
  Cl 39 #[rdV tv i zz dd v p q,.int .i64 x] W (rB W (.int .i64 (kdA E j))):=by
 obtain ⟨A,c,rfl,_⟩:=h.tk;obtain ⟨B,n,rfl⟩:=zaf h.o;rw [znm hjl];have u1:IntKind.i64.wrap ((i:Int)+x)=(j:Int):=by rw [<-hj,wI];omega
 have z2:(E.l.length:Int)<=(j:Int):=by omega
 have HB:Hid (bW W (W.alloc (rdO (.slice A E.l.length c) i zz dd (.slice B L.length n) p q))):=zaa _ _;clear h hj hjl hz;go_enter Tryz.func39,Tryz.ntmps39;go_wp2_with fail;go_ret
 exact ⟨rfl,HB.out⟩
theorem za4 {E:PE} {w0 W:World} {tv:Value} {i d:Nat} {v:Value} {L:List Nd} (h:DS E w0 W tv i d v L) (zz dd p q x:Int) (j:Nat) (hj:(j:Int)=(i:Int)+x) (hx:x<=1) (hz:E.l.length<=1000000) :
  Cl 39 #[rdV tv i zz dd v p q,.int .i64 x] W (rB W (.int .i64 (kdA E j))):=by
 by_cases hl:j<E.l.length
 ·exact zmz h zz dd p q x j hj hl hz
 ·exact zkG h zz dd p q x j hj hl (by have:=h.hi;omega)
theorem zmA {E:PE} {w0 W:World} {tv:Value} {i d:Nat} {v:Value} {L:List Nd} (h:DS E w0 W tv i d v L) (z:Nat) (dd p x:Int) (hi:i<E.l.length) :
  Cl 26 #[rdV tv i z dd v p 0,.int .i64 x] W (rB W (rdV tv i z dd v (plA E z i) x)):=by
 obtain ⟨B,n,rfl⟩:=zaf h.o;have HX:=BX.new W tv i z dd (.slice B L.length n) p 0;have HBX:=hO HX.1;have HBL:=hO HX.2;have HD:Hid (DS E w0 ((W.alloc (rdO tv i z dd (.slice B L.length n) p 0)).alloc rdZ) tv i d (.slice B L.length n) L):=h.later HX.2;obtain ⟨A,c,rfl,_⟩:=h.tk;have HK:Hid (∀W,Cl 15 #[rdV (.slice A E.l.length c) i z dd (.slice B L.length n) p 0] W (rB W (.bool true))):=fun W=>zaP A E.l.length c i z dd B L.length n p 0 W
 have hP:plA E z i=(tkA E i).fr:=by unfold plA;rw [iP hi]
 rw [hP];have z0:(0:Int)<=(i:Int):=by omega
 have z1:(i:Int)<(E.l.length:Int):=by omega
 have HI:Hid (i<E.l.length):=hi;clear h HX hP hi;go_enter Tryz.func26,Tryz.ntmps26;go_wp2_with fail;generalize (W.alloc (rdO (.slice A E.l.length c) i z dd (.slice B L.length n) p 0)).alloc rdZ=w1 at *;refine (HK _).mono ?_;rintro e w2 ⟨rfl,hb⟩;have HX2:=hO (HBX.later hb);have HB2:Hid (bW W w2):=HBL.trans (hb.mono HBL.size);have HD2:=hO (HD.later hb);clear hb HK HBX HBL HD;obtain ⟨k0,k1,k2,k3,k4,k5,k6⟩:=HX2.s.cl;obtain ⟨f0,f1,f2,f3,f4,f5,f6⟩:=HX2.r.fzs;obtain ⟨m0,m1,m2,m3,m4,m5,m6⟩:=HX2.r.cl;have g5:=HX2.s.fz 5;have g6:=HX2.s.fz 6;obtain ⟨A',c',e',hc⟩:=HD2.tk;obtain ⟨g,hA,lg,hr⟩:=hc i HI.out
 cases e'
 subst hA;have q2:=hr.c2;have hgk:¬g=W.heap.size:=by
  have:=HX2.s.ne HD2.t (by decide) (j:=g) rfl;exact this
 clear hc hr HD2;go_wp2_with fail;refine zaV (s:=4) rfl rfl rfl (zaH (((HX2.s5 _).s6 _).s5 _).r _ _ _ _ _ _ _) ?_;exact ⟨rfl,zaq (((HB2.setCell (p:=⟨W.heap.size,5,none⟩) (nL _) _).setCell (p:=⟨W.heap.size,6,none⟩) (nL _) _).setCell (p:=⟨W.heap.size,5,none⟩) (nL _) _) (Nat.le_succ _) _ _ _ _ _ _ _⟩
theorem zkH {E:PE} {w0 W:World} {tv:Value} {i d:Nat} {v:Value} {L:List Nd} (h:DS E w0 W tv i d v L) (z:Nat) (dd p x:Int) (hi:¬i<E.l.length) :
  Cl 26 #[rdV tv i z dd v p 0,.int .i64 x] W (rB W (rdV tv i z dd v (plA E z i) x)):=by
 obtain ⟨B,n,rfl⟩:=zaf h.o;have HX:=BX.new W tv i z dd (.slice B L.length n) p 0;have HBX:=hO HX.1;have HBL:=hO HX.2;have HD:Hid (DS E w0 ((W.alloc (rdO tv i z dd (.slice B L.length n) p 0)).alloc rdZ) tv i d (.slice B L.length n) L):=h.later HX.2;obtain ⟨A,c,rfl,_⟩:=h.tk;have HK:Hid (∀W,Cl 15 #[rdV (.slice A E.l.length c) i z dd (.slice B L.length n) p 0] W (rB W (.bool true))):=fun W=>zaP A E.l.length c i z dd B L.length n p 0 W
 have hP:plA E z i=(z:Int):=by unfold plA;rw [iN hi]
 rw [hP];have z2:¬(i:Int)<(E.l.length:Int):=by omega
 have HI:Hid (¬i<E.l.length):=hi;clear h HX hP hi;go_enter Tryz.func26,Tryz.ntmps26;go_wp2_with fail;generalize (W.alloc (rdO (.slice A E.l.length c) i z dd (.slice B L.length n) p 0)).alloc rdZ=w1 at *;refine (HK _).mono ?_;rintro e w2 ⟨rfl,hb⟩;have HX2:=hO (HBX.later hb);have HB2:Hid (bW W w2):=HBL.trans (hb.mono HBL.size);have HD2:=hO (HD.later hb);clear hb HK HBX HBL HD;obtain ⟨k0,k1,k2,k3,k4,k5,k6⟩:=HX2.s.cl;obtain ⟨f0,f1,f2,f3,f4,f5,f6⟩:=HX2.r.fzs;obtain ⟨m0,m1,m2,m3,m4,m5,m6⟩:=HX2.r.cl;have g5:=HX2.s.fz 5;have g6:=HX2.s.fz 6;go_wp2_with fail;refine zaV (s:=4) rfl rfl rfl (zaH ((HX2.s5 _).s6 _).r _ _ _ _ _ _ _) ?_;exact ⟨rfl,zaq ((HB2.setCell (p:=⟨W.heap.size,5,none⟩) (nL _) _).setCell (p:=⟨W.heap.size,6,none⟩) (nL _) _) (Nat.le_succ _) _ _ _ _ _ _ _⟩
theorem zbl {E:PE} {w0 W:World} {tv:Value} {i d:Nat} {v:Value} {L:List Nd} (h:DS E w0 W tv i d v L) (z:Nat) (dd p x:Int) :
  Cl 26 #[rdV tv i z dd v p 0,.int .i64 x] W (rB W (rdV tv i z dd v (plA E z i) x)):=by
 by_cases hl:i<E.l.length
 ·exact zmA h z dd p x hl
 ·exact zkH h z dd p x hl
end Go.Proofs.YtkihfkcmcdiajabGreatDoor.N
namespace Go.Proofs.YtkihfkcmcdiajabGreatDoor.T
open Go.RowKit
structure NX (W:World) (b:Nat) (n:Nd):Prop where
 heap:W.heap[b]?=some (.cells #[.int .i64 n.op,.int .i64 n.nn,.string n.tx,.int .u64 n.s0,.int .u64 n.s1,.int .u64 n.s2,.int .u64 n.s3] 65 (0,0))
theorem NX.lt {W:World} {b:Nat} {n:Nd} (h:NX W b n):b<W.heap.size:=(Array.getElem?_eq_some_iff.1 h.heap).1
theorem NX.same {W W':World} {b:Nat} {n:Nd} (h:NX W b n) (hb:W'.heap[b]?=W.heap[b]?):NX W' b n:=⟨hb.trans h.heap⟩
theorem NX.nb {W:World} {b:Nat} {n:Nd} (h:NX W b n):NB W b 0 n:=by
 have key:∀(j:Nat) u,(#[Value.int .i64 n.op,.int .i64 n.nn,.string n.tx,.int .u64 n.s0,.int .u64 n.s1,.int .u64 n.s2,.int .u64 n.s3]:Array Value)[j]?=some u->W.cell? ⟨b,j,none⟩=some u:=fun j u hu=>by
  rw [cell_of_row W b j _ 65 (0,0) h.heap];exact hu
 exact ⟨key 0 _ rfl,key 1 _ rfl,key 2 _ rfl,key 3 _ rfl,key 4 _ rfl,key 5 _ rfl,key 6 _ rfl⟩
theorem NX.fz {W:World} {b:Nat} {n:Nd} (h:NX W b n) (j:Nat):W.frozen? ⟨b,j,none⟩=false:=frozen_of_row W b j _ 65 h.heap
end Go.Proofs.YtkihfkcmcdiajabGreatDoor.T
namespace Go.Proofs.YtkihfkcmcdiajabGreatDoor.N
open Go.RowKit
theorem zce {W:World} {b:Nat} {n:Nd} (h:T.NX W b n):W.cell? ⟨b,0,none⟩=some (.int .i64 n.op)/\W.cell? ⟨b,1,none⟩=some (.int .i64 n.nn)/\W.cell? ⟨b,2,none⟩=some (.string n.tx)/\W.cell? ⟨b,3,none⟩=some (.int .u64 n.s0)/\W.cell? ⟨b,4,none⟩=some (.int .u64 n.s1)/\W.cell? ⟨b,5,none⟩=some (.int .u64 n.s2)/\W.cell? ⟨b,6,none⟩=some (.int .u64 n.s3):=by
 obtain ⟨d0,d1,d2,d3,d4,d5,d6⟩:=h.nb;simp only [Nat.zero_add] at d0 d1 d2 d3 d4 d5 d6;exact ⟨d0,d1,d2,d3,d4,d5,d6⟩
theorem znn (W:World) (o:Obj) (a0 a1 a2 a3 a4 a5 a6:Value):DB ((W.alloc o).alloc (.cells #[a0,a1,a2,a3,a4,a5,a6] 44)) (W.heap.size+1) a0 a1 a2 a3 a4 a5 a6/\bW W ((W.alloc o).alloc (.cells #[a0,a1,a2,a3,a4,a5,a6] 44)) :=
 ⟨⟨by have h:=heap_alloc_new (W.alloc o) (.cells #[a0,a1,a2,a3,a4,a5,a6] 44);rw [sA] at h;exact h⟩,((bR _ _).alloc (nL _) _).alloc (by rw [sA];omega) _⟩
theorem zkI {E:PE} {w0 W:World} {tv:Value} {i d:Nat} {v:Value} {L:List Nd} (h:DS E w0 W tv i d v L) (ii z p c:Int) (hd:¬240<=d) :
  Cl 98 #[rdV tv ii z d v p c] W (rB W (rdV tv ii z (d+1:Nat) v p c)):=by
 obtain ⟨B,n,rfl⟩:=zaf h.o;obtain ⟨A,ct,rfl,_⟩:=h.tk;obtain ⟨m,hm⟩:∃m,m=d+1:=⟨_,rfl⟩;rw [<-hm];have u1:IntKind.i64.wrap ((d:Int)+1)=(m:Int):=by rw [wI];omega
 have t1:¬(240:Int)<=(d:Int):=by omega
 clear h hd hm;go_enter Tryz.func98,Tryz.ntmps98;go_wp2_with fail;refine zaV (s:=2) rfl rfl rfl (znn W _ _ _ _ _ _ _ _).1 ?_;exact ⟨rfl,(znn W _ _ _ _ _ _ _ _).2⟩
theorem zkJ {E:PE} {w0 W:World} {tv:Value} {i d:Nat} {v:Value} {L:List Nd} (h:DS E w0 W tv i d v L) (z:Nat) (p:Int) (hd:240<=d) :
  Cl 98 #[rdV tv i z d v p 0] W (rB W (rdV tv i z d v (plA E z i) 4)):=by
 obtain ⟨B,n,rfl⟩:=zaf h.o;have HX:=BX.new W tv i z d (.slice B L.length n) p 0;have HBX:=hO HX.1;have HBL:=hO HX.2;have HF:Hid (∀_:Unit,Cl 26 #[rdV tv i z d (.slice B L.length n) p 0,.int .i64 4] ((W.alloc (rdO tv i z d (.slice B L.length n) p 0)).alloc rdZ) fun e W'=>e=.returned (rdV tv i z d (.slice B L.length n) (plA E z i) 4)/\Below ((W.alloc (rdO tv i z d (.slice B L.length n) p 0)).alloc rdZ).heap.size ((W.alloc (rdO tv i z d (.slice B L.length n) p 0)).alloc rdZ) W'):=fun _=>zbl (h.later HX.2) z d p 4
 obtain ⟨A,ct,rfl,_⟩:=h.tk;have t1:(240:Int)<=(d:Int):=by omega
 clear h HX hd;generalize plA E z i=pl at *;go_enter Tryz.func98,Tryz.ntmps98;go_wp2_with fail;generalize (W.alloc (rdO (.slice A E.l.length ct) i z d (.slice B L.length n) p 0)).alloc rdZ=w1 at *;refine (HF ()).mono ?_;rintro e w2 ⟨rfl,hb⟩;have HX2:=hO (HBX.later hb);have HB2:Hid (bW W w2):=HBL.trans (hb.mono HBL.size);clear hb HF HBX HBL;obtain ⟨f0,f1,f2,f3,f4,f5,f6⟩:=HX2.r.fzs;obtain ⟨m0,m1,m2,m3,m4,m5,m6⟩:=HX2.r.cl;go_wp2_with fail;refine zaV (s:=2) rfl rfl rfl (zaH HX2.r _ _ _ _ _ _ _) ?_;exact ⟨rfl,zaq HB2 (Nat.le_succ _) _ _ _ _ _ _ _⟩
structure BN (k:Nat) (W:World) (tv:Value) (i z d:Int) (v:Value) (p c:Int) (n:Nd):Prop where
 s:DB W k tv (.int .i64 i) (.int .i64 z) (.int .i64 d) v (.int .i64 p) (.int .i64 c)
 x:T.NX W (k+1) n
 r:DB W (k+2) (.slice none 0 0) (.int .i64 0) (.int .i64 0) (.int .i64 0) (.slice none 0 0) (.int .i64 0) (.int .i64 0)
theorem BN.new (W:World) (tv:Value) (i z d:Int) (v:Value) (p q:Int) (n:Nd):BN W.heap.size (((W.alloc (rdO tv i z d v p q)).alloc (T.ndO n)).alloc rdZ) tv i z d v p q n/\bW W (((W.alloc (rdO tv i z d v p q)).alloc (T.ndO n)).alloc rdZ):=by
 have b3:Below ((W.alloc (rdO tv i z d v p q)).alloc (T.ndO n)).heap.size ((W.alloc (rdO tv i z d v p q)).alloc (T.ndO n)) (((W.alloc (rdO tv i z d v p q)).alloc (T.ndO n)).alloc rdZ):=zaa _ _;have b2:Below (W.alloc (rdO tv i z d v p q)).heap.size (W.alloc (rdO tv i z d v p q)) ((W.alloc (rdO tv i z d v p q)).alloc (T.ndO n)):=zaa _ _;refine ⟨⟨((DB.mk (heap_alloc_new W _)).below b2).below b3,?_,⟨?_⟩⟩,(((bR _ _).alloc (nL _) _).alloc (by rw [sA];omega) _).alloc (by rw [sA,sA];omega) _⟩
 ·have h:=heap_alloc_new (W.alloc (rdO tv i z d v p q)) (T.ndO n)
  rw [sA] at h;exact (T.NX.mk h).same (b3.block _ (by rw [sA,sA];omega))
 ·have h:=heap_alloc_new ((W.alloc (rdO tv i z d v p q)).alloc (T.ndO n)) rdZ
  rw [sA,sA] at h;exact h
theorem BN.later {k:Nat} {W W':World} {tv:Value} {i z d:Int} {v:Value} {p c:Int} {n:Nd} (h:BN k W tv i z d v p c n) (hb:bW W W'):BN k W' tv i z d v p c n:=⟨h.s.below hb,h.x.same (hb.block _ h.x.lt),h.r.below hb⟩
theorem zhe (At:Option Addr) (nt ct:Nat) (i z d:Int) (A:Option Addr) (l c:Nat) (p q:Int) (n:Nd) (hq:q≠0) (W:World):Cl 54 #[rdV (.slice At nt ct) i z d (.slice A l c) p q,T.ndG n] W (rB W (rdV (.slice At nt ct) i z d (.slice A l c) p q)):=by
 have HK:Hid (∀W,Cl 15 #[rdV (.slice At nt ct) i z d (.slice A l c) p q] W (rB W (.bool false))):=fun W=>by
  have:=zaP At nt ct i z d A l c p q W;rw [show (q==0)=false from by simpa using hq] at this;exact this
 have HX:=BN.new W (.slice At nt ct) i z d (.slice A l c) p q n;have HBX:=hO HX.1;have HBL:=hO HX.2;clear HX hq;go_enter Tryz.func54,Tryz.ntmps54;go_wp2_with fail;generalize ((W.alloc (rdO (.slice At nt ct) i z d (.slice A l c) p q)).alloc (T.ndO n)).alloc rdZ=w1 at *;refine (HK _).mono ?_;rintro e w2 ⟨rfl,hb⟩;have HX2:=hO (HBX.later hb);have HB2:Hid (bW W w2):=HBL.trans (hb.mono HBL.size);clear hb HK HBX HBL;obtain ⟨k0,k1,k2,k3,k4,k5,k6⟩:=HX2.s.cl;obtain ⟨d0,d1,d2,d3,d4,d5,d6⟩:=zce HX2.x;obtain ⟨f0,f1,f2,f3,f4,f5,f6⟩:=HX2.r.fzs;obtain ⟨m0,m1,m2,m3,m4,m5,m6⟩:=HX2.r.cl;go_wp2_with fail;refine zaV (s:=4) rfl rfl rfl (zaH HX2.r _ _ _ _ _ _ _) ?_;exact ⟨rfl,zaq HB2 (by omega) _ _ _ _ _ _ _⟩
theorem zkK (At:Option Addr) (nt ct:Nat) (i z d:Int) (A:Option Addr) (l c:Nat) (p q:Int) (n:Nd) (hq:q=0) (hn:n.op=0) (W:World):Cl 54 #[rdV (.slice At nt ct) i z d (.slice A l c) p q,T.ndG n] W (rB W (rdV (.slice At nt ct) i z d (.slice A l c) p q)):=by
 have HK:Hid (∀W,Cl 15 #[rdV (.slice At nt ct) i z d (.slice A l c) p q] W (rB W (.bool true))):=fun W=>by
  have:=zaP At nt ct i z d A l c p q W;rw [show (q==0)=true from by simpa using hq] at this;exact this
 have HX:=BN.new W (.slice At nt ct) i z d (.slice A l c) p q n;have HBX:=hO HX.1;have HBL:=hO HX.2;have t1:(n.op != 0)=false:=by rw [hn];rfl
 clear HX hq hn;go_enter Tryz.func54,Tryz.ntmps54;go_wp2_with fail;generalize ((W.alloc (rdO (.slice At nt ct) i z d (.slice A l c) p q)).alloc (T.ndO n)).alloc rdZ=w1 at *;refine (HK _).mono ?_;rintro e w2 ⟨rfl,hb⟩;have HX2:=hO (HBX.later hb);have HB2:Hid (bW W w2):=HBL.trans (hb.mono HBL.size);clear hb HK HBX HBL;obtain ⟨k0,k1,k2,k3,k4,k5,k6⟩:=HX2.s.cl;obtain ⟨d0,d1,d2,d3,d4,d5,d6⟩:=zce HX2.x;obtain ⟨f0,f1,f2,f3,f4,f5,f6⟩:=HX2.r.fzs;obtain ⟨m0,m1,m2,m3,m4,m5,m6⟩:=HX2.r.cl;go_wp2_with fail;refine zaV (s:=4) rfl rfl rfl (zaH HX2.r _ _ _ _ _ _ _) ?_;exact ⟨rfl,zaq HB2 (by omega) _ _ _ _ _ _ _⟩
theorem zhf {E:PE} {w0 W:World} {tv:Value} {i d:Nat} {v:Value} {L:List Nd} (h:DS E w0 W tv i d v L) (ii z dd p:Int) (n:Nd) (hn:n.op≠0) (hl:L.length+1<=2000000000000) :
  Cl 54 #[rdV tv ii z dd v p 0,T.ndG n] W fun e W'=>∃v',e=.returned (rdV tv ii z dd v' p 0)/\DS E w0 W' tv i d v' (L++[n])/\Fd W W' v v':=by
 obtain ⟨i0,hinf,hz0,hz1,hz2⟩:=info_parts T.Tryz.info43;obtain ⟨B,c,hv⟩:=zaf h.o;obtain ⟨v0,hv0⟩:∃u,u=v:=⟨_,rfl⟩;subst hv;have HX:=BN.new W tv ii z dd (.slice B L.length c) p 0 n;have HBX:=hO HX.1;have HD:=hO (h.later HX.2);have HF:=hO (Fd.below (.slice B L.length c) HX.2);have hw0:=h.bl.size;obtain ⟨A,ct,htv,_⟩:=h.tk;subst htv;have HK:Hid (∀W,Cl 15 #[rdV (.slice A E.l.length ct) ii z dd (.slice B L.length c) p 0] W (rB W (.bool true))):=fun W=>zaP A E.l.length ct ii z dd B L.length c p 0 W
 have t1:(n.op != 0)=true:=by simpa using hn
 have HN:Hid (T.ndc (L++[n])=T.ndc L++T.ndV n):=by show T.ndc _=_;rw [T.zch,T.zdO]
 clear h HX hn hv0;go_enter Tryz.func54,Tryz.ntmps54;go_wp2_with fail;generalize ((W.alloc (rdO (.slice A E.l.length ct) ii z dd (.slice B L.length c) p 0)).alloc (T.ndO n)).alloc rdZ=w1 at *;refine (HK _).mono ?_;rintro e w2 ⟨rfl,hb⟩;have HX2:=hO (HBX.later hb);have HD2:=hO (HD.later hb);have HF2:Hid (Fd W w2 (.slice B L.length c) (.slice B L.length c)):=HF.trans (Fd.below _ hb);clear hb HK HBX HD HF;obtain ⟨k0,k1,k2,k3,k4,k5,k6⟩:=HX2.s.cl;obtain ⟨d0,d1,d2,d3,d4,d5,d6⟩:=zce HX2.x;have g4:=HX2.s.fz 4;have hO:=HD2.o;have hs2:=HD2.bl.size;go_wp2_with (at_builtin;refine wpList_append_lies _ rfl _ _ 34 rfl w0.heap.size 65 i0 _ 7 64 Tryz.underlying34 hinf hz0 hz1 hz2 rfl (by decide) _ _ _ rfl (hO.alloc _) ⟨w2.heap.size,0,none⟩ 1 1 (T.ndV n) rfl rfl ?c1 ?c2 (by decide) ?c3 ?c4 ?c5 (w2.heap.size+1) (by simp) ?_)
 case c1=>exact World.news_of_block (cs:=#[.int .i64 n.op,.int .i64 n.nn,.string n.tx,.int .u64 n.s0,.int .u64 n.s1,.int .u64 n.s2,.int .u64 n.s3]) (t:=65) (fr:=(0,0)) (heap_alloc_new w2 _)
 case c2=>intro u hu;unfold T.ndV at hu;simp only [List.mem_cons,List.not_mem_nil,or_false] at hu;rcases hu with rfl | rfl | rfl | rfl | rfl | rfl | rfl <;> rfl
 case c3=>unfold maxLen;omega
 case c4=>omega
 case c5=>rw [sA];omega
 intro g3 cap w3 hown hgrow hat hlt3;have hO1:=hO.alloc (.cells #[.int .i64 n.op,.int .i64 n.nn,.string n.tx,.int .u64 n.s0,.int .u64 n.s1,.int .u64 n.s2,.int .u64 n.s3] 65);have hbx:=zaa w2 (.cells #[.int .i64 n.op,.int .i64 n.nn,.string n.tx,.int .u64 n.s0,.int .u64 n.s1,.int .u64 n.s2,.int .u64 n.s3] 65);have s1:=HX2.s.below hbx;have r1:=HX2.r.below hbx;have HS3:Hid (DB w3 W.heap.size (.slice A E.l.length ct) (.int .i64 ii) (.int .i64 z) (.int .i64 dd) (.slice B L.length c) (.int .i64 p) (.int .i64 0)):=s1.same (hgrow.block _ s1.lt (fun e=>s1.ne hO1 (by decide) e.symm rfl));have HR3:Hid (DB w3 (W.heap.size+2) (.slice none 0 0) (.int .i64 0) (.int .i64 0) (.int .i64 0) (.slice none 0 0) (.int .i64 0) (.int .i64 0)):=r1.same (hgrow.block _ r1.lt (fun e=>r1.ne hO1 (by decide) e.symm rfl));have HD3:Hid (DS E w0 w3 (.slice A E.l.length ct) i d (.slice (some ⟨g3,0,none⟩) (L.length+1) cap) (L++[n])):=(HD2.later hbx).grow hgrow (by rw [HN.out,lA];exact hown);have HF3:Hid (Fd W w3 (.slice B L.length c) (.slice (some ⟨g3,0,none⟩) (L.length+1) cap)):=(HF2.trans (Fd.below _ hbx)).trans (Fd.grow hgrow (by rw [sA];exact hat));clear hO1 hbx s1 r1 hown hgrow hat hlt3 hO HX2 HD2 HF2 k0 k1 k2 k3 k4 k5 k6 d0 d1 d2 d3 d4 d5 d6 g4 hs2;obtain ⟨k0,k1,k2,k3,k4,k5,k6⟩:=HS3.cl;obtain ⟨f0,f1,f2,f3,f4,f5,f6⟩:=HR3.fzs;obtain ⟨m0,m1,m2,m3,m4,m5,m6⟩:=HR3.cl;have g4:=HS3.fz 4;go_wp2_with fail
 have hr4:DB (w3.setCell ⟨W.heap.size,4,none⟩ (.slice (some ⟨g3,0,none⟩) (L.length+1) cap)) (W.heap.size+2) (.slice none 0 0) (.int .i64 0) (.int .i64 0) (.int .i64 0) (.slice none 0 0) (.int .i64 0) (.int .i64 0):=HR3.same (bS _ _ _ _ (by show W.heap.size+2≠W.heap.size;omega));refine zaV (s:=4) rfl rfl rfl (zaH hr4 _ _ _ _ _ _ _) ?_;exact ⟨_,rfl,(HD3.set hw0 HS3.out 4 _).st7 (by omega) hr4 _ _ _ _ _ _ _,(HF3.set (nL _) 4 _).st7 (by omega) _ _ _ _ _ _ _⟩
theorem zkL (At:Option Addr) (nt ct:Nat) (i z d:Int) (A:Option Addr) (l c:Nat) (p q x:Int) (hq:q≠0) (W:World):Cl 157 #[rdV (.slice At nt ct) i z d (.slice A l c) p q,.int .i64 x] W (rB W (rdV (.slice At nt ct) i z d (.slice A l c) p q)):=by
 have HK:Hid (∀W,Cl 15 #[rdV (.slice At nt ct) i z d (.slice A l c) p q] W (rB W (.bool false))):=fun W=>by
  have:=zaP At nt ct i z d A l c p q W;rw [show (q==0)=false from by simpa using hq] at this;exact this
 have HF:Hid (∀W,Cl 26 #[rdV (.slice At nt ct) i z d (.slice A l c) p q,.int .i64 60] W (rB W (rdV (.slice At nt ct) i z d (.slice A l c) p q))):=fun W=>zhU At nt ct i z d A l c p q 60 hq W
 have HX:=BX.new W (.slice At nt ct) i z d (.slice A l c) p q;have HBX:=hO HX.1;have HBL:=hO HX.2;clear HX hq;go_enter Tryz.func157,Tryz.ntmps157;go_wp2_with fail;generalize (W.alloc (rdO (.slice At nt ct) i z d (.slice A l c) p q)).alloc rdZ=w1 at *;refine (HK _).mono ?_;rintro e w2 ⟨rfl,hb⟩;have HX2:=hO (HBX.later hb);have HB2:Hid (bW W w2):=HBL.trans (hb.mono HBL.size);clear hb HK HBX HBL;obtain ⟨k0,k1,k2,k3,k4,k5,k6⟩:=HX2.s.cl;go_wp2_with fail;refine (HF _).mono ?_;rintro e w3 ⟨rfl,hb⟩;have HX3:=hO (HX2.later hb);have HB3:Hid (bW W w3):=HB2.trans (hb.mono HB2.size);clear hb HF HX2 HB2 k0 k1 k2 k3 k4 k5 k6;obtain ⟨f0,f1,f2,f3,f4,f5,f6⟩:=HX3.r.fzs;obtain ⟨m0,m1,m2,m3,m4,m5,m6⟩:=HX3.r.cl;go_wp2_with fail;refine zaV (s:=4) rfl rfl rfl (zaH HX3.r _ _ _ _ _ _ _) ?_;exact ⟨rfl,zaq HB3 (by omega) _ _ _ _ _ _ _⟩
theorem zkM {E:PE} {w0 W:World} {tv:Value} {i d:Nat} {v:Value} {L:List Nd} (h:DS E w0 W tv i d v L) (z:Nat) (dd p x:Int) (hz:E.l.length<=1000000) (hx:kdA E i=x) (hi:i<E.l.length) :
  Cl 157 #[rdV tv i z dd v p 0,.int .i64 x] W (rB W (rdV tv (i+1:Nat) z dd v p 0)):=by
 obtain ⟨B,n,hv⟩:=zaf h.o;subst hv;have HX:=BX.new W tv i z dd (.slice B L.length n) p 0;have HBX:=hO HX.1;have HBL:=hO HX.2;have HD:Hid (DS E w0 ((W.alloc (rdO tv i z dd (.slice B L.length n) p 0)).alloc rdZ) tv i d (.slice B L.length n) L):=h.later HX.2;have HKd:Hid (∀W,DS E w0 W tv i d (.slice B L.length n) L->Cl 39 #[rdV tv i z dd (.slice B L.length n) p 0,.int .i64 0] W (rB W (.int .i64 (kdA E i)))):=fun W h=>za4 h z dd p 0 0 i (by omega) (by omega) hz
 have t1:(kdA E i != x)=false:=by rw [hx];simp
 obtain ⟨j,hj⟩:∃j,j=i+1:=⟨_,rfl⟩;rw [<-hj];have u1:IntKind.i64.wrap ((i:Int)+1)=(j:Int):=by rw [wI];omega
 obtain ⟨A,ct,htv,_⟩:=h.tk;subst htv;have HK:Hid (∀W,Cl 15 #[rdV (.slice A E.l.length ct) i z dd (.slice B L.length n) p 0] W (rB W (.bool true))):=fun W=>zaP A E.l.length ct i z dd B L.length n p 0 W
 generalize kdA E i=kk at *;clear h HX hx hz hi hj;go_enter Tryz.func157,Tryz.ntmps157;go_wp2_with fail;generalize (W.alloc (rdO (.slice A E.l.length ct) i z dd (.slice B L.length n) p 0)).alloc rdZ=w1 at *;refine (HK _).mono ?_;rintro e w2 ⟨rfl,hb⟩;have HX2:=hO (HBX.later hb);have HB2:Hid (bW W w2):=HBL.trans (hb.mono HBL.size);have HD2:=hO (HD.later hb);clear hb HK HBX HBL HD;obtain ⟨k0,k1,k2,k3,k4,k5,k6⟩:=HX2.s.cl;go_wp2_with fail;refine (HKd _ HD2.out).mono ?_;rintro e w3 ⟨rfl,hb⟩;have HX3:=hO (HX2.later hb);have HB3:Hid (bW W w3):=HB2.trans (hb.mono HB2.size);have HD3:=hO (HD2.later hb);clear hb HKd HX2 HB2 HD2 k0 k1 k2 k3 k4 k5 k6;obtain ⟨k0,k1,k2,k3,k4,k5,k6⟩:=HX3.s.cl;obtain ⟨f0,f1,f2,f3,f4,f5,f6⟩:=HX3.r.fzs;obtain ⟨m0,m1,m2,m3,m4,m5,m6⟩:=HX3.r.cl;have g1:=HX3.s.fz 1;go_wp2_with fail;refine zaV (s:=4) rfl rfl rfl (zaH (HX3.s1 _).r _ _ _ _ _ _ _) ?_;exact ⟨rfl,zaq (HB3.setCell (p:=⟨W.heap.size,1,none⟩) (nL _) _) (by omega) _ _ _ _ _ _ _⟩
theorem ziD {E:PE} {w0 W:World} {tv:Value} {i d:Nat} {v:Value} {L:List Nd} (h:DS E w0 W tv i d v L) (z:Nat) (dd p x:Int) (hz:E.l.length<=1000000) (hx:¬kdA E i=x) :
  Cl 157 #[rdV tv i z dd v p 0,.int .i64 x] W (rB W (rdV tv i z dd v (plA E z i) 60)):=by
 obtain ⟨B,n,hv⟩:=zaf h.o;subst hv;have HX:=BX.new W tv i z dd (.slice B L.length n) p 0;have HBX:=hO HX.1;have HBL:=hO HX.2;have HD:Hid (DS E w0 ((W.alloc (rdO tv i z dd (.slice B L.length n) p 0)).alloc rdZ) tv i d (.slice B L.length n) L):=h.later HX.2;have HKd:Hid (∀W,DS E w0 W tv i d (.slice B L.length n) L->Cl 39 #[rdV tv i z dd (.slice B L.length n) p 0,.int .i64 0] W (rB W (.int .i64 (kdA E i)))):=fun W h=>za4 h z dd p 0 0 i (by omega) (by omega) hz
 have t1:(kdA E i != x)=true:=by simpa using hx
 have HF:Hid (∀W,DS E w0 W tv i d (.slice B L.length n) L->Cl 26 #[rdV tv i z dd (.slice B L.length n) p 0,.int .i64 60] W (rB W (rdV tv i z dd (.slice B L.length n) (plA E z i) 60))):=fun W h=>zbl h z dd p 60
 generalize plA E z i=pl at *;obtain ⟨A,ct,htv,_⟩:=h.tk;subst htv;have HK:Hid (∀W,Cl 15 #[rdV (.slice A E.l.length ct) i z dd (.slice B L.length n) p 0] W (rB W (.bool true))):=fun W=>zaP A E.l.length ct i z dd B L.length n p 0 W
 generalize kdA E i=kk at *;clear h HX hx hz;go_enter Tryz.func157,Tryz.ntmps157;go_wp2_with fail;generalize (W.alloc (rdO (.slice A E.l.length ct) i z dd (.slice B L.length n) p 0)).alloc rdZ=w1 at *;refine (HK _).mono ?_;rintro e w2 ⟨rfl,hb⟩;have HX2:=hO (HBX.later hb);have HB2:Hid (bW W w2):=HBL.trans (hb.mono HBL.size);have HD2:=hO (HD.later hb);clear hb HK HBX HBL HD;obtain ⟨k0,k1,k2,k3,k4,k5,k6⟩:=HX2.s.cl;go_wp2_with fail;refine (HKd _ HD2.out).mono ?_;rintro e w3 ⟨rfl,hb⟩;have HX3:=hO (HX2.later hb);have HB3:Hid (bW W w3):=HB2.trans (hb.mono HB2.size);have HD3:=hO (HD2.later hb);clear hb HKd HX2 HB2 HD2 k0 k1 k2 k3 k4 k5 k6;obtain ⟨k0,k1,k2,k3,k4,k5,k6⟩:=HX3.s.cl;go_wp2_with fail;refine (HF _ HD3.out).mono ?_;rintro e w4 ⟨rfl,hb⟩;have HX4:=hO (HX3.later hb);have HB4:Hid (bW W w4):=HB3.trans (hb.mono HB3.size);clear hb HF HX3 HB3 HD3 k0 k1 k2 k3 k4 k5 k6;obtain ⟨f0,f1,f2,f3,f4,f5,f6⟩:=HX4.r.fzs;obtain ⟨m0,m1,m2,m3,m4,m5,m6⟩:=HX4.r.cl;go_wp2_with fail;refine zaV (s:=4) rfl rfl rfl (zaH HX4.r _ _ _ _ _ _ _) ?_;exact ⟨rfl,zaq HB4 (by omega) _ _ _ _ _ _ _⟩
theorem bgK_t {k:Int} (h:bgK k=true):k=8∨k=9∨k=2∨k=3∨k=28∨k=5∨k=18∨k=29∨k=30∨k=16∨k=19∨k=21∨k=23∨k=25:=by
 unfold bgK at h;simp only [Bool.or_eq_true,beq_iff_eq] at h;omega
theorem bgK_f {k:Int} (h:bgK k=false):(k==8)=false/\(k==9)=false/\(k==2)=false/\(k==3)=false/\(k==28)=false/\(k==5)=false/\(k==18)=false/\(k==29)=false/\(k==30)=false/\(k==16)=false/\(k==19)=false/\(k==21)=false/\(k==23)=false/\(k==25)=false:=by
 unfold bgK at h;simp only [Bool.or_eq_false_iff] at h;obtain ⟨⟨⟨⟨⟨⟨⟨⟨⟨⟨⟨⟨⟨b1,b2⟩,b3⟩,b4⟩,b5⟩,b6⟩,b7⟩,b8⟩,b9⟩,b10⟩,b11⟩,b12⟩,b13⟩,b14⟩:=h;exact ⟨b1,b2,b3,b4,b5,b6,b7,b8,b9,b10,b11,b12,b13,b14⟩
theorem zcz {E:PE} {w0 W:World} {tv:Value} {i d:Nat} {v:Value} {L:List Nd} (h:DS E w0 W tv i d v L) (z:Nat) (dd p:Int) (hz:E.l.length<=1000000) :
  Cl 74 #[rdV tv i z dd v p 0] W (rB W (.bool (bgn E i))):=by
 obtain ⟨B,n,hv⟩:=zaf h.o;subst hv;have HD:Hid (DS E w0 (W.alloc (rdO tv i z dd (.slice B L.length n) p 0)) tv i d (.slice B L.length n) L):=h.later (zaa _ _);have HX:Hid (DB (W.alloc (rdO tv i z dd (.slice B L.length n) p 0)) W.heap.size tv (.int .i64 i) (.int .i64 z) (.int .i64 dd) (.slice B L.length n) (.int .i64 p) (.int .i64 0)):=⟨heap_alloc_new W _⟩;have HBL:Hid (bW W (W.alloc (rdO tv i z dd (.slice B L.length n) p 0))):=zaa _ _;have HK:Hid (∀W,DS E w0 W tv i d (.slice B L.length n) L->Cl 39 #[rdV tv i z dd (.slice B L.length n) p 0,.int .i64 0] W (rB W (.int .i64 (kdA E i)))):=fun W h=>za4 h z dd p 0 0 i (by omega) (by omega) hz
 have HK1:Hid (∀W,DS E w0 W tv i d (.slice B L.length n) L->Cl 39 #[rdV tv i z dd (.slice B L.length n) p 0,.int .i64 1] W (rB W (.int .i64 (kdA E (i+1))))):=fun W h=>za4 h z dd p 0 1 (i+1) (by omega) (by omega) hz
 obtain ⟨A,ct,htv,_⟩:=h.tk;subst htv;unfold bgn;generalize kdA E i=kk at *;generalize kdA E (i+1)=k2 at *;clear h hz;go_enter Tryz.func74,Tryz.ntmps74;go_wp2_with fail;generalize W.alloc (rdO (.slice A E.l.length ct) i z dd (.slice B L.length n) p 0)=w1 at *;refine (HK _ HD.out).mono ?_;rintro e w2 ⟨rfl,hb⟩;have HX2:=hO (HX.below hb);have HB2:Hid (bW W w2):=HBL.trans (hb.mono HBL.size);have HD2:=hO (HD.later hb);clear hb HK HBL HD HX
 cases hg:bgK kk with
 | true =>
  have hc:=bgK_t hg;clear HK1 HD2 HX2
  rcases hc with rfl | rfl | rfl | rfl | rfl | rfl | rfl | rfl | rfl | rfl | rfl | rfl | rfl | rfl
  all_goals
   clear hg;go_wp2_with fail;go_ret
   exact ⟨rfl,HB2.out⟩
 | false =>
  obtain ⟨b1,b2,b3,b4,b5,b6,b7,b8,b9,b10,b11,b12,b13,b14⟩:=bgK_f hg;obtain ⟨k0,k1,k2',k3,k4,k5,k6⟩:=HX2.cl;have HG:Hid (bgK kk=false):=hg;clear hg;by_cases h1:kk=1
  ·subst h1
   clear b1 b2 b3 b4 b5 b6 b7 b8 b9 b10 b11 b12 b13 b14;go_wp2_with fail;refine (HK1 _ HD2.out).mono ?_;rintro e w3 ⟨rfl,hb⟩;have HB3:Hid (bW W w3):=HB2.trans (hb.mono HB2.size);clear hb HK1 HB2 HD2 k0 k1 k2' k3 k4 k5 k6;go_wp2_with fail;go_ret
   exact ⟨by simp [bne,show bgK 1=false from rfl],HB3.out⟩
  ·have t1:(kk==1)=false:=bF h1
   clear h1 HK1 HD2 k0 k1 k2' k3 k4 k5 k6;go_wp2_with fail;go_ret
   exact ⟨by rw [HG.out,t1];rfl,HB2.out⟩
theorem zbv {E:PE} {w0 W:World} {tv:Value} {i d:Nat} {v:Value} {L:List Nd} (h:DS E w0 W tv i d v L) (z:Nat) (dd p:Int) (hz:E.l.length<=1000000) :
  Cl 25 #[rdV tv i z dd v p 0] W (rB W (.bool (ruB E i))):=by
 obtain ⟨B,n,hv⟩:=zaf h.o;subst hv;have HD:Hid (DS E w0 (W.alloc (rdO tv i z dd (.slice B L.length n) p 0)) tv i d (.slice B L.length n) L):=h.later (zaa _ _);have HX:Hid (DB (W.alloc (rdO tv i z dd (.slice B L.length n) p 0)) W.heap.size tv (.int .i64 i) (.int .i64 z) (.int .i64 dd) (.slice B L.length n) (.int .i64 p) (.int .i64 0)):=⟨heap_alloc_new W _⟩;have HBL:Hid (bW W (W.alloc (rdO tv i z dd (.slice B L.length n) p 0))):=zaa _ _;have HK:Hid (∀W,DS E w0 W tv i d (.slice B L.length n) L->Cl 39 #[rdV tv i z dd (.slice B L.length n) p 0,.int .i64 0] W (rB W (.int .i64 (kdA E i)))):=fun W h=>za4 h z dd p 0 0 i (by omega) (by omega) hz
 have HK1:Hid (∀W,DS E w0 W tv i d (.slice B L.length n) L->Cl 39 #[rdV tv i z dd (.slice B L.length n) p 0,.int .i64 1] W (rB W (.int .i64 (kdA E (i+1))))):=fun W h=>za4 h z dd p 0 1 (i+1) (by omega) (by omega) hz
 obtain ⟨A,ct,htv,_⟩:=h.tk;subst htv;unfold ruB;generalize kdA E i=kk at *;generalize kdA E (i+1)=k2 at *;clear h hz;go_enter Tryz.func25,Tryz.ntmps25;go_wp2_with fail;generalize W.alloc (rdO (.slice A E.l.length ct) i z dd (.slice B L.length n) p 0)=w1 at *;refine (HK _ HD.out).mono ?_;rintro e w2 ⟨rfl,hb⟩;have HX2:=hO (HX.below hb);have HB2:Hid (bW W w2):=HBL.trans (hb.mono HBL.size);have HD2:=hO (HD.later hb);clear hb HK HBL HD HX;obtain ⟨k0,k1,k2',k3,k4,k5,k6⟩:=HX2.cl
 cases t1:(kk==1) with
 | true =>
  go_wp2_with fail;refine (HK1 _ HD2.out).mono ?_;rintro e w3 ⟨rfl,hb⟩;have HB3:Hid (bW W w3):=HB2.trans (hb.mono HB2.size);clear hb HK1 HB2 HD2 k0 k1 k2' k3 k4 k5 k6;go_wp2_with fail;go_ret
  exact ⟨by rw [t1];rfl,HB3.out⟩
 | false =>
  clear HK1 HD2 k0 k1 k2' k3 k4 k5 k6;go_wp2_with fail;go_ret
  exact ⟨by rw [t1];rfl,HB2.out⟩
end Go.Proofs.YtkihfkcmcdiajabGreatDoor.N
