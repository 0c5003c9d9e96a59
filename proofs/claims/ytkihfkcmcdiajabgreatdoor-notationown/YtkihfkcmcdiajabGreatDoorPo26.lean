import Derived.Test.YtkihfkcmcdiajabGreatDoorPo25
set_option maxRecDepth 100000
set_option maxHeartbeats 8000000
namespace Go.Proofs.YtkihfkcmcdiajabGreatDoor.N
open Go.RowKit
def AlV (E:PE) (z:Nat) (w0:World) (r:Sum (List Rl) (Nat×Int)) (e:Ending) (W':World):Prop:=match r with
 | .inr q=>e=pnc (plA E z q.1) q.2/\bW w0 W'
 | .inl rs=>∃A c ns,rs=[(0,⟨#[]⟩,ns)]/\e=.returned (.agg #[.int .i64 (plA E z 0),.string ⟨#[]⟩,.slice A ns.length c])/\W'.ownsRow w0.heap.size 65 7 (.slice A ns.length c) ns.length (T.ndc ns)/\bW w0 W'
theorem zdn {E:PE} (hE:OkE E) (hk0:∀a,a<E.l.length->¬kdA E a=0) {z:Nat} {w0:World} (hv:R.VB w0) {b:Nat} {tv:Value} {W:World} {v:Value} {L:List Nd} (h:RS E z w0 W b tv 0 0 v L):Cl 23 #[.pointer (some ⟨b,0,none⟩)] W fun e W'=>AlV E z w0 (alN E) e W':=by
 unfold alN
 cases hx:exN E 0 with
 | inr q=>exact zpc hE hv h q hx
 | inl p =>
  obtain ⟨a,ns⟩:=p;have hal:=(zes (Nat.zero_le _) hx).2;dsimp only;by_cases hlt:a<E.l.length
  ·rw [iP hlt]
   exact zpd hE hv h a ns hx (hk0 a hlt)
  ·rw [iN hlt]
   refine (zmI hE hv h a ns hx (by rw [show a=E.l.length from by omega];exact zjc E)).mono ?_;rintro e W' ⟨v',rfl,h2,_⟩;obtain ⟨A,c,rfl⟩:=zaf h2.o;exact ⟨A,c,ns,rfl,rfl,h2.o,h2.bl⟩
theorem zlb {E:PE} {z:Nat} {w0 W:World} (hw:w0.heap.size<=W.heap.size) (ns:List Nd) (v:Value):(W.alloc (.cells #[.int .i64 (plA E z 0),.string ⟨#[]⟩,v] 59)).ownsRow w0.heap.size 59 3 (.slice (some ⟨W.heap.size,0,none⟩) 1 1) 1 (plc E z [((0,⟨#[]⟩,ns),v)]):=by
 rw [zk3];exact ⟨rfl,.inr ⟨W.heap.size,1,_,rfl,hw,heap_alloc_new W _,nL _,by unfold maxLen;omega,rfl,rfl⟩⟩
theorem zpq {E:PE} (hE:OkE E) {rs:List Rl} (h:alN E=.inl rs):∀r∈rs,(∀n∈r.2.2,n.tx.size<=65536)/\r.2.2.length<=2000000000000:=by
 unfold alN at h
 cases hx:exN E 0 with
 | inr q=>rw [hx] at h;cases h
 | inl p =>
  rw [hx] at h;dsimp only at h
  split at h
  ·cases h
  ·cases h
   intro r hr;rw [List.mem_singleton.1 hr];exact ⟨zpk hE hx,ex_len hE (Nat.zero_le _) hx⟩
theorem zhn (s:ByteArray) (w:World) (hg:GW w) (l:List Tk) (hl:zbf (zaL s) s=.inl l) (hr:ruB (mkE l) 0=false):Cl 5 #[.string s] w fun e w'=>PsV w w' (fin (mkE l) s.size (alN (mkE l))) e/\bW w w':=by
 have hE:=zde hl;have hz:=hE.z;have hk0:=zla hl;have hmf:∀(fn:Fn) (first cap:Array Value) (w:World),(Instr.makeFunc fn first cap).run Tryz.prog w=.ok (.func fn first cap) w:=fun _ _ _ _=>rfl
 have HB0:Hid (bW w ((w.alloc (.cells #[.slice none 0 0] 24)).alloc fxZ)/\GX ((w.alloc (.cells #[.slice none 0 0] 24)).alloc fxZ) w.heap.size (.slice none 0 0)/\FX ((w.alloc (.cells #[.slice none 0 0] 24)).alloc fxZ) (w.heap.size+1) 0 0):=⟨((bR _ _).alloc (nL _) _).alloc (by rw [sA];omega) _,(GX.mk (heap_alloc_new w _)).below (zaa _ _),⟨by have h:=heap_alloc_new (w.alloc (.cells #[.slice none 0 0] 24)) fxZ;rw [sA] at h;exact h⟩⟩;have hgw:=hg.later HB0.1;have HN:Hid (∀_:Unit,Cl 19 #[.string s] ((w.alloc (.cells #[.slice none 0 0] 24)).alloc fxZ) fun e w'=>∃b tv,e=.returned (.pointer (some ⟨b,0,none⟩))/\RS (mkE l) s.size ((w.alloc (.cells #[.slice none 0 0] 24)).alloc fxZ) w' b tv 0 0 (.slice none 0 0) []):=fun _=>zcW s _ hgw l hl
 have HVB:Hid (R.VB ((w.alloc (.cells #[.slice none 0 0] 24)).alloc fxZ)):=hgw.v;have HTx:Hid (∀rs,alN (mkE l)=.inl rs->∀r∈rs,(∀n∈r.2.2,n.tx.size<=65536)/\r.2.2.length<=2000000000000):=fun rs h=>zpq hE h
 have HE:Hid (OkE (mkE l)/\(∀a,a<(mkE l).l.length->¬kdA (mkE l) a=0)/\ruB (mkE l) 0=false):=⟨hE,hk0,hr⟩;clear hg hgw hl hE hk0 hr;generalize mkE l=E at *;go_enter_defers Tryz.func5,Tryz.ntmps5
 go_wp2_with fail;generalize (w.alloc (.cells #[.slice none 0 0] 24)).alloc fxZ=w0 at *;refine (HN ()).mono ?_;rintro e w1 ⟨b,tv,rfl,h1⟩;have H1:=hO h1;have HBg:Hid (∀_:Unit,Cl 20 #[.pointer (some ⟨b,0,none⟩)] w1 (rB w1 (.bool false))):=fun _=>by
  have:=zcc h1 hz;rw [HE.2.2] at this;exact this
 clear h1 HN;go_wp2_with fail;refine (HBg ()).mono ?_;rintro e w2 ⟨rfl,hb⟩;have H2:=hO (H1.later hb);have HRu:Hid (∀_:Unit,Cl 23 #[.pointer (some ⟨b,0,none⟩)] w2 fun e W'=>AlV E s.size w0 (alN E) e W'):=fun _=>zdn HE.1 HE.2.1 HVB.out H2.out
 have hsz:=HB0.1.size;clear hb HBg H1
 cases hrd:alN E with
 | inr q =>
  rw [hrd] at HRu;go_wp2_with fail;refine (HRu ()).mono ?_;rintro e w3 ⟨rfl,hb⟩;exact zk7 rfl rfl rfl (HB0.2.1.below hb) (HB0.2.2.below hb) fun W' hW'=>⟨by rw [hrd];rfl,(HB0.1.trans (hb.mono hsz)).trans hW'⟩
 | inl rs =>
  have hx1:=HTx rs hrd;rw [hrd] at HRu;go_wp2_with fail;refine (HRu ()).mono ?_;rintro e w3 ⟨A,c,ns,hrs,rfl,ho,hb3⟩;have hs3:=hb3.size;have HGr:Hid (∀_:Unit,Cl 21 #[.slice (some ⟨w3.heap.size,0,none⟩) 1 1] (w3.alloc (.cells #[.int .i64 (plA E s.size 0),.string ⟨#[]⟩,.slice A ns.length c] 59)) fun e W'=>GrV w0 (w3.alloc (.cells #[.int .i64 (plA E s.size 0),.string ⟨#[]⟩,.slice A ns.length c] 59)) [((0,⟨#[]⟩,ns),.slice A ns.length c)] (szR E s.size rs) e W'):=fun _=>by
   rw [hrs];refine zcA (ov:=[((0,⟨#[]⟩,ns),.slice A ns.length c)]) (zlb hs3 ns _) ⟨fun x hx=>by rw [List.mem_singleton.1 hx];exact ho.alloc _,List.pairwise_singleton _ _⟩ ?_ ?_ (by simp)
   ·intro x hx;rw [List.mem_singleton.1 hx];exact (hx1 (0,⟨#[]⟩,ns) (by rw [hrs];exact List.mem_singleton.2 rfl)).1
   ·intro x hx;rw [List.mem_singleton.1 hx];exact (hx1 (0,⟨#[]⟩,ns) (by rw [hrs];exact List.mem_singleton.2 rfl)).2
  have HB3:Hid (bW w0 (w3.alloc (.cells #[.int .i64 (plA E s.size 0),.string ⟨#[]⟩,.slice A ns.length c] 59))/\Bds w0 (w3.alloc (.cells #[.int .i64 (plA E s.size 0),.string ⟨#[]⟩,.slice A ns.length c] 59)) [((0,⟨#[]⟩,ns),.slice A ns.length c)]/\rs=[(0,⟨#[]⟩,ns)]):=⟨hb3.alloc hs3 _,⟨fun x hx=>by rw [List.mem_singleton.1 hx];exact ho.alloc _,List.pairwise_singleton _ _⟩,hrs⟩;clear ho hrs hb3 HRu HTx H2 hx1;generalize plA E s.size 0=p0 at *
  cases hsr:szR E s.size rs with
  | some p =>
   rw [hsr] at HGr;go_wp2_with fail;refine (HGr ()).mono ?_;rintro e w4 ⟨rfl,hb⟩;have hb4:=HB3.1.trans (hb.mono HB3.1.size);exact zk7 rfl rfl rfl (HB0.2.1.below hb4) (HB0.2.2.below hb4) fun W' hW'=>⟨by rw [hrd];unfold fin;simp only [hsr];rfl,(HB0.1.trans (hb4.mono hsz)).trans hW'⟩
  | none =>
   rw [hsr] at HGr;go_wp2_with fail;refine (HGr ()).mono ?_;rintro e w4 ⟨gu,rfl,ho,hb⟩;have hb4:=HB3.1.trans (hb.mono HB3.1.size);have hg4:=HB0.2.1.below hb4;have hf4:=HB0.2.2.below hb4;have HF:=hO (zk9 (w:=w) (w0:=w0) hg4 hf4 (za7 ho HB3.1.size) (HB3.2.1.later hb) hsz (HB0.1.trans (hb4.mono hsz)) (nL _));obtain ⟨A4,n4,rfl⟩:=zaf ho;have c0:=hg4.cl;have f0:=hg4.fz;have d0:=hf4.c0;have d1:=hf4.c1;have e0:=hf4.f0;have e1:=hf4.f1;clear ho hb hb4 hg4 hf4 HGr;go_wp2_with fail;exact doorR rfl rfl rfl HF.1 HF.2.1 ⟨by rw [hrd];unfold fin;simp only [hsr];exact ⟨_,[((0,⟨#[]⟩,ns),.slice A ns.length c)],rfl,HF.2.2.1,HF.2.2.2.1,by rw [HB3.2.2];rfl⟩,HF.2.2.2.2⟩
theorem zlc (s:ByteArray) (w:World) (hg:GW w):Cl 5 #[.string s] w fun e w'=>PsV w w' (psR s) e/\bW w w':=by
 unfold psR
 cases hl:zbf (zaL s) s with
 | inr q=>exact zk8 s w hg q hl
 | inl l =>
  dsimp only
  cases hr:ruB (mkE l) 0 with
  | true=>exact zhm s w hg l hl hr
  | false=>rw [zgo (by rw [hr];decide)];exact zhn s w hg l hl hr
def PaV (w w':World) (r:Sum (List (ByteArray×List Nd)) (Int×Int)) (e:Ending):Prop:=match r with
 | .inr p=>e=.returned (.tuple #[.slice none 0 0,.agg #[.int .i64 p.1,.int .i64 p.2]])
 | .inl gs=>∃v ns,gs=[(⟨#[]⟩,ns)]/\e=.returned (.tuple #[v,.agg #[.int .i64 0,.int .i64 0]])/\w'.ownsRow w.heap.size 65 7 v ns.length (T.ndc ns)
theorem zmU (s:ByteArray) (w:World) (hg:GW w) (q:Nat×Int) (hq:zbf (zaL s) s=.inr q):Cl 9 #[.string s] w (rB w (.tuple #[.slice none 0 0,.agg #[.int .i64 q.1,.int .i64 q.2]])):=by
 have hmf:∀(fn:Fn) (first cap:Array Value) (w:World),(Instr.makeFunc fn first cap).run Tryz.prog w=.ok (.func fn first cap) w:=fun _ _ _ _=>rfl
 have HB0:Hid (bW w (w.alloc fxZ)/\FX (w.alloc fxZ) w.heap.size 0 0):=⟨zaa _ _,⟨heap_alloc_new w _⟩⟩;have HN:Hid (∀_:Unit,Cl 19 #[.string s] (w.alloc fxZ) fun e w'=>e=pnc q.1 q.2/\Below (w.alloc fxZ).heap.size (w.alloc fxZ) w'):=fun _=>zd7 s _ (hg.later HB0.1) q hq (zeN hq).2
 clear hg hq;go_enter_defers Tryz.func9,Tryz.ntmps9
 go_wp2_with fail;generalize w.alloc fxZ=w0 at *;refine (HN ()).mono ?_;rintro e w1 ⟨rfl,hb⟩;have hsz:=HB0.1.size;exact zpp rfl rfl rfl (HB0.2.below hb) fun W' hW'=>⟨rfl,(HB0.1.trans (hb.mono hsz)).trans hW'⟩
theorem ziL (s:ByteArray) (w:World) (hg:GW w) (l:List Tk) (hl:zbf (zaL s) s=.inl l):Cl 9 #[.string s] w fun e w'=>PaV w w' (fin (mkE l) s.size (alN (mkE l))) e/\bW w w':=by
 have hE:=zde hl;have hz:=hE.z;have hk0:=zla hl;have hmf:∀(fn:Fn) (first cap:Array Value) (w:World),(Instr.makeFunc fn first cap).run Tryz.prog w=.ok (.func fn first cap) w:=fun _ _ _ _=>rfl
 have HB0:Hid (bW w (w.alloc fxZ)/\FX (w.alloc fxZ) w.heap.size 0 0):=⟨zaa _ _,⟨heap_alloc_new w _⟩⟩;have hgw:=hg.later HB0.1;have HN:Hid (∀_:Unit,Cl 19 #[.string s] (w.alloc fxZ) fun e w'=>∃b tv,e=.returned (.pointer (some ⟨b,0,none⟩))/\RS (mkE l) s.size (w.alloc fxZ) w' b tv 0 0 (.slice none 0 0) []):=fun _=>zcW s _ hgw l hl
 have HVB:Hid (R.VB (w.alloc fxZ)):=hgw.v;have HTx:Hid (∀rs,alN (mkE l)=.inl rs->∀r∈rs,(∀n∈r.2.2,n.tx.size<=65536)/\r.2.2.length<=2000000000000):=fun rs h=>zpq hE h
 have HE:Hid (OkE (mkE l)/\(∀a,a<(mkE l).l.length->¬kdA (mkE l) a=0)):=⟨hE,hk0⟩;clear hg hgw hl hE hk0;generalize mkE l=E at *;go_enter_defers Tryz.func9,Tryz.ntmps9
 go_wp2_with fail;generalize w.alloc fxZ=w0 at *;refine (HN ()).mono ?_;rintro e w1 ⟨b,tv,rfl,h1⟩;have HRu:Hid (∀_:Unit,Cl 23 #[.pointer (some ⟨b,0,none⟩)] w1 fun e W'=>AlV E s.size w0 (alN E) e W'):=fun _=>zdn HE.1 HE.2 HVB h1
 have hsz:=HB0.1.size;clear h1 HN
 cases hrd:alN E with
 | inr q =>
  rw [hrd] at HRu;go_wp2_with fail;refine (HRu ()).mono ?_;rintro e w3 ⟨rfl,hb⟩;exact zpp rfl rfl rfl (HB0.2.below hb) fun W' hW'=>⟨by rw [hrd];rfl,(HB0.1.trans (hb.mono hsz)).trans hW'⟩
 | inl rs =>
  have hx1:=HTx rs hrd;rw [hrd] at HRu;go_wp2_with fail;refine (HRu ()).mono ?_;rintro e w3 ⟨A,c,ns,hrs,rfl,ho,hb3⟩;have hs3:=hb3.size;have HGr:Hid (∀_:Unit,Cl 21 #[.slice (some ⟨w3.heap.size,0,none⟩) 1 1] (w3.alloc (.cells #[.int .i64 (plA E s.size 0),.string ⟨#[]⟩,.slice A ns.length c] 59)) fun e W'=>GrV w0 (w3.alloc (.cells #[.int .i64 (plA E s.size 0),.string ⟨#[]⟩,.slice A ns.length c] 59)) [((0,⟨#[]⟩,ns),.slice A ns.length c)] (szR E s.size rs) e W'):=fun _=>by
   rw [hrs];refine zcA (ov:=[((0,⟨#[]⟩,ns),.slice A ns.length c)]) (zlb hs3 ns _) ⟨fun x hx=>by rw [List.mem_singleton.1 hx];exact ho.alloc _,List.pairwise_singleton _ _⟩ ?_ ?_ (by simp)
   ·intro x hx;rw [List.mem_singleton.1 hx];exact (hx1 (0,⟨#[]⟩,ns) (by rw [hrs];exact List.mem_singleton.2 rfl)).1
   ·intro x hx;rw [List.mem_singleton.1 hx];exact (hx1 (0,⟨#[]⟩,ns) (by rw [hrs];exact List.mem_singleton.2 rfl)).2
  have HB3:Hid (bW w0 (w3.alloc (.cells #[.int .i64 (plA E s.size 0),.string ⟨#[]⟩,.slice A ns.length c] 59))/\(w3.alloc (.cells #[.int .i64 (plA E s.size 0),.string ⟨#[]⟩,.slice A ns.length c] 59)).ownsRow w0.heap.size 65 7 (.slice A ns.length c) ns.length (T.ndc ns)/\rs=[(0,⟨#[]⟩,ns)]):=⟨hb3.alloc hs3 _,ho.alloc _,hrs⟩;clear ho hrs hb3 HRu HTx hx1;generalize plA E s.size 0=p0 at *
  cases hsr:szR E s.size rs with
  | some p =>
   rw [hsr] at HGr;go_wp2_with fail;refine (HGr ()).mono ?_;rintro e w4 ⟨rfl,hb⟩;have hb4:=HB3.1.trans (hb.mono HB3.1.size);exact zpp rfl rfl rfl (HB0.2.below hb4) fun W' hW'=>⟨by rw [hrd];unfold fin;simp only [hsr];rfl,(HB0.1.trans (hb4.mono hsz)).trans hW'⟩
  | none =>
   rw [hsr] at HGr;go_wp2_with fail;refine (HGr ()).mono ?_;rintro e w4 ⟨gu,rfl,ho,hb⟩;obtain ⟨g4,n4,rfl,_,hglt⟩:=ho.form (by simp);have hcl:=ho.cells (g:=g4) rfl;have hb4:=HB3.1.trans (hb.mono HB3.1.size);have hcell:w4.cell? ⟨g4,1,none⟩=some (.slice A ns.length c):=by
    have:=hcl 1 (.slice A ns.length c) rfl
    rwa [Addr.add_lit,Nat.zero_add] at this
   have HO:Hid ((w4.alloc (.cells #[.slice (some ⟨g4,0,none⟩) 1 n4] 24)).ownsRow w0.heap.size 65 7 (.slice A ns.length c) ns.length (T.ndc ns)/\bW w0 (w4.alloc (.cells #[.slice (some ⟨g4,0,none⟩) 1 n4] 24))/\FX (w4.alloc (.cells #[.slice (some ⟨g4,0,none⟩) 1 n4] 24)) w.heap.size 0 0):=⟨zf1 (zf1 HB3.2.1 hb) (zaa _ _),hb4.alloc hb4.size _,(HB0.2.below hb4).below (zaa _ _)⟩;have hcell2:=((zaa w4 (.cells #[.slice (some ⟨g4,0,none⟩) 1 n4] 24)).cell (p:=⟨g4,1,none⟩) hglt).trans hcell;have hg0:(w4.alloc (.cells #[.slice (some ⟨g4,0,none⟩) 1 n4] 24)).cell? ⟨w4.heap.size,0,none⟩=some (.slice (some ⟨g4,0,none⟩) 1 n4):=(GX.mk (heap_alloc_new w4 _)).cl;have hf4:=HB0.2.below hb4;have d0:=hf4.c0;have d1:=hf4.c1;have e0:=hf4.f0;have e1:=hf4.f1;have d0':=HO.2.2.c0;have d1':=HO.2.2.c1;have e0':=HO.2.2.f0;have e1':=HO.2.2.f1;clear hcl ho hb hb4 HGr hcell hf4;go_wp2_with fail;exact doorB rfl rfl rfl (zew HO.2.2 0 0) ⟨by rw [hrd];unfold fin;simp only [hsr];exact ⟨_,ns,by rw [HB3.2.2];rfl,rfl,za7 (zaj HO.1 fun j hj=>zcI 0 0 (FX.ne2 HO.2.2 HO.1 (by decide) hj)) hsz⟩,zcp (HB0.1.trans (HO.2.1.mono hsz)) (nL _) 0 0⟩
theorem zh1 (s:ByteArray) (w:World) (hg:GW w):Cl 9 #[.string s] w fun e w'=>PaV w w' (paR s) e/\bW w w':=by
 unfold paR
 cases hl:zbf (zaL s) s with
 | inr q=>exact zmU s w hg q hl
 | inl l=>exact ziL s w hg l hl
def who (E:PE) (ns:List Nd):Prop:=exN E 0=.inl (E.l.length,ns)
theorem zld {E:PE} {z:Nat}:∀(rs:List Rl) (all:Nat),all<=2048->zd4 E z all rs=none->(∀r∈rs,(T.ck r.2.2).2=0)/\all+(rs.map fun r=>r.2.2.length).sum<=2048:=by
 intro rs
 induction rs with
 | nil=>intro all ha _;exact ⟨fun r hr=>(by cases hr),by simpa using ha⟩
 | cons r rs ih =>
  intro all ha h;rw [zd4] at h;by_cases h1:(T.ck r.2.2).2≠0
  ·rw [iP h1] at h;cases h
  ·rw [iN h1] at h
   by_cases h2:2048<all+r.2.2.length
   ·rw [iP h2] at h;cases h
   ·rw [iN h2] at h
    obtain ⟨h3,h4⟩:=ih _ (by omega) h;refine ⟨fun x hx=>?_,by rw [List.map_cons,List.sum_cons];omega⟩
    rcases List.mem_cons.1 hx with rfl | q
    ·exact Decidable.not_not.1 h1
    ·exact h3 x q
theorem zh2 {E:PE} {z:Nat} {rs:List Rl} (h:szR E z rs=none):rs.length<=200/\(∀r∈rs,(T.ck r.2.2).2=0)/\(rs.map fun r=>r.2.2.length).sum<=2048:=by
 unfold szR at h
 cases hr:rs[200]? with
 | some r=>rw [hr] at h;cases h
 | none =>
  rw [hr] at h;obtain ⟨h1,h2⟩:=zld rs 0 (by omega) h;exact ⟨List.getElem?_eq_none_iff.1 hr,h1,by omega⟩
theorem zle {E:PE} {z:Nat}:∀(rs:List Rl) (all:Nat) (p:Int×Int),zd4 E z all rs=some p->p.2≠0/\∃i,p.1=plA E z i:=by
 intro rs
 induction rs with
 | nil=>intro all p h;rw [zd4] at h;cases h
 | cons r rs ih =>
  intro all p h;rw [zd4] at h;by_cases h1:(T.ck r.2.2).2≠0
  ·rw [iP h1] at h;cases h;exact ⟨h1,_,rfl⟩
  ·rw [iN h1] at h
   by_cases h2:2048<all+r.2.2.length
   ·rw [iP h2] at h;cases h;exact ⟨by show (2:Int)≠0;decide,_,rfl⟩
   ·rw [iN h2] at h;exact ih _ _ h
theorem zh3 {E:PE} {z:Nat} {rs:List Rl} {p:Int×Int} (h:szR E z rs=some p):p.2≠0/\∃i,p.1=plA E z i:=by
 unfold szR at h
 cases hr:rs[200]? with
 | some r=>rw [hr] at h;cases h;exact ⟨by show (2:Int)≠0;decide,_,rfl⟩
 | none=>rw [hr] at h;exact zle rs 0 p h
theorem zpr {E:PE} {q:Nat×Int} (h:alN E=.inr q):q.2=60∨q.2=61∨q.2=4∨q.2=1:=by
 unfold alN at h
 cases hx:exN E 0 with
 | inr p=>rw [hx] at h;cases h;exact (zjd (Nat.zero_le _) hx).2
 | inl p =>
  rw [hx] at h;dsimp only at h
  split at h
  ·cases h;exact .inl rfl
  ·cases h
theorem chn_fr {s:ByteArray}:∀(l:List Tk) (i:Nat),Chn s i l->∀t∈l,0<=t.fr/\t.fr<=s.size:=by
 intro l
 induction l with
 | nil=>intro i _ t ht;cases ht
 | cons a l ih =>
  intro i h t ht;obtain ⟨h1,h2,e,_,_,_,h3⟩:=h
  rcases List.mem_cons.1 ht with rfl | h4
  ·have:=zoY h2;omega
  ·exact ih e h3 t h4
theorem znw {s:ByteArray} {l:List Tk} (h:zbf (zaL s) s=.inl l) (i:Nat):0<=plA (mkE l) s.size i/\plA (mkE l) s.size i<=s.size:=by
 unfold plA
 split
 ·next hi =>
  have hi:i<l.length:=hi;have:tkA (mkE l) i=l[i]:=by unfold tkA mkE;rw [gE hi];rfl
  rw [this];exact chn_fr l 0 (zhb h).2 _ (List.getElem_mem hi)
 ·omega
theorem zps {s:ByteArray} {l:List Tk} (hl:zbf (zaL s) s=.inl l) {r:Sum (List Rl) (Nat×Int)} (hr:∀q,r=.inr q->q.2=60∨q.2=61∨q.2=4∨q.2=1) {p:Int×Int} (h:fin (mkE l) s.size r=.inr p):p.2≠0/\0<=p.1/\p.1<=s.size:=by
 unfold fin at h
 cases r with
 | inr q =>
  cases h
  have h1:=hr q rfl;have h2:=znw hl q.1;exact ⟨by show q.2≠0;omega,h2.1,h2.2⟩
 | inl rs =>
  dsimp only at h
  cases hs:szR (mkE l) s.size rs with
  | none=>rw [hs] at h;cases h
  | some x =>
   rw [hs] at h
   cases h
   obtain ⟨h1,i,h2⟩:=zh3 hs;have h3:=znw hl i;rw [h2];exact ⟨h1,h3.1,h3.2⟩
theorem zpt {s:ByteArray} {p:Int×Int} (h:paR s=.inr p):p.2≠0/\0<=p.1/\p.1<=s.size:=by
 unfold paR at h
 cases hl:zbf (zaL s) s with
 | inr q =>
  rw [hl] at h
  cases h
  have:=zeN hl;exact ⟨this.2,by show (0:Int)<=(q.1:Int);omega,by show (q.1:Int)<=_;omega⟩
 | inl l=>rw [hl] at h;exact zps hl (fun q hq=>zpr hq) h
theorem znx {E:PE} {z:Nat} {r:Sum (List Rl) (Nat×Int)} {gs:List (ByteArray×List Nd)} (h:fin E z r=.inl gs):∃rs,r=.inl rs/\szR E z rs=none/\gs=rs.map fun r=>r.2:=by
 unfold fin at h
 cases r with
 | inr q=>cases h
 | inl rs =>
  dsimp only at h
  cases hs:szR E z rs with
  | some x=>rw [hs] at h;cases h
  | none=>rw [hs] at h;cases h;exact ⟨rs,rfl,hs,rfl⟩
theorem zny {E:PE} {rs:List Rl} (h:alN E=.inl rs):∃ns,rs=[(0,⟨#[]⟩,ns)]/\who E ns:=by
 unfold alN at h
 cases hx:exN E 0 with
 | inr p=>rw [hx] at h;cases h
 | inl p =>
  obtain ⟨a,ns⟩:=p;rw [hx] at h;dsimp only at h;have:=(zes (Nat.zero_le _) hx).2
  split at h
  ·cases h
  ·cases h
   refine ⟨ns,rfl,?_⟩;unfold who;rw [hx,show a=E.l.length from by omega]
theorem znz {s:ByteArray} {gs:List (ByteArray×List Nd)} (h:paR s=.inl gs):∃l ns,zbf (zaL s) s=.inl l/\gs=[(⟨#[]⟩,ns)]/\who (mkE l) ns/\(T.ck ns).2=0/\ns.length<=2048:=by
 unfold paR at h
 cases hl:zbf (zaL s) s with
 | inr q=>rw [hl] at h;cases h
 | inl l =>
  rw [hl] at h;obtain ⟨rs,h1,h2,h3⟩:=znx h;obtain ⟨ns,h4,h5⟩:=zny h1;subst h4;obtain ⟨_,h6,h7⟩:=zh2 h2;refine ⟨l,ns,rfl,h3,h5,h6 _ (List.mem_singleton.2 rfl),by simpa using h7⟩
theorem zpu {E:PE} {ns:List Nd} (h:who E ns):alN E=.inl [(0,⟨#[]⟩,ns)]:=by
 unfold alN;unfold who at h;rw [h]
 show (if E.l.length<E.l.length then _ else _)=_
 rw [iN (Nat.lt_irrefl _)]
theorem zpv {E:PE} {z:Nat} {ns:List Nd} (h1:(T.ck ns).2=0) (h2:ns.length<=2048):szR E z [(0,⟨#[]⟩,ns)]=none:=by
 unfold szR
 show zd4 E z 0 [(0,⟨#[]⟩,ns)]=none
 rw [zd4,iN (by rw [h1];simp),iN (by show ¬2048<0+ns.length;omega),zd4]
theorem zpw {s:ByteArray} {l:List Tk} {ns:List Nd} (hl:zbf (zaL s) s=.inl l) (h:who (mkE l) ns) (h1:(T.ck ns).2=0) (h2:ns.length<=2048):paR s=.inl [(⟨#[]⟩,ns)]:=by
 unfold paR;rw [hl]
 show fin (mkE l) s.size (alN (mkE l))=_
 rw [zpu h];unfold fin;simp only [zpv h1 h2];rfl
theorem ck_len {L:List Nd} (h:(T.ck L).2=0):L.length<=2048:=by
 unfold T.ck at h;by_cases q:2048<L.length
 ·rw [iP q] at h;exact absurd h (by decide)
 ·omega
def dot:ByteArray:=⟨#[46]⟩
theorem zpx:zbf (zaL dot) dot=.inl [⟨18,0,0,1,⟨#[]⟩,0,0,0,0⟩]:=rfl
theorem ex_dot:exN (mkE [⟨18,0,0,1,⟨#[]⟩,0,0,0,0⟩]) 0=.inl (1,[nd0 3]):=rfl
theorem ck_any:(T.ck [nd0 3]).2=0:=by
 have e:(⟨#[]⟩:ByteArray)=ByteArray.empty:=rfl;simp [nd0,T.ck,T.zlE,T.er,T.alE,T.fdF,T.txF,T.nuF,T.seF,T.ar,T.run,T.pt,T.mk,T.arN,T.zdF,e]
theorem pa_dot:paR dot=.inl [(⟨#[]⟩,[nd0 3])]:=zpw zpx ex_dot ck_any (by simp)
theorem fx_eql (a b c d:Int) (W:World):(binOp .eql 27 (.agg #[.int .i64 a,.int .i64 b]) (.agg #[.int .i64 c,.int .i64 d])).run Tryz.prog W=.ok (.bool (a==c&&b==d)) W:=by
 have h:=eq26 a b c d W;have e:Op.maxDepth=10000:=rfl;simp [binOp,Op.equal,e,h]
theorem zlf (w:World) (hg:GW w):Cl 7 #[] w (rB w (.bool true)):=by
 have HP:Hid (∀_:Unit,Cl 9 #[.string ⟨#[46]⟩] w fun e w'=>(∃v,e=.returned (.tuple #[v,.agg #[.int .i64 0,.int .i64 0]])/\w'.ownsRow w.heap.size 65 7 v 1 (T.ndc [nd0 3]))/\bW w w'):=fun _=>by
  refine (zh1 dot w hg).mono ?_;rintro e w' ⟨h1,h2⟩;rw [pa_dot] at h1;obtain ⟨v,ns,h3,h4,h5⟩:=h1;have e1:[nd0 3]=ns:=by
   injection h3 with h6 _
   injection h6 with _ h8
  subst e1;exact ⟨⟨v,h4,h5⟩,h2⟩
 have hfe:=fx_eql;clear hg;go_enter Tryz.func7,Tryz.ntmps7;go_wp2_with fail;refine (HP ()).mono ?_;rintro e w1 ⟨⟨v,rfl,ho⟩,hb⟩;obtain ⟨g,c,rfl,_,hlt⟩:=ho.form (by decide);have hc:w1.cell? ⟨g,0,none⟩=some (.int .i64 3):=by
  have:=ho.cells (g:=g) rfl 0 (.int .i64 3) rfl
  rwa [Addr.add_lit,Nat.zero_add] at this
 have hc2:∀o,(w1.alloc o).cell? ⟨g,0,none⟩=some (.int .i64 3):=fun o=>((zaa w1 o).cell (p:=⟨g,0,none⟩) hlt).trans hc
 have HB:Hid (bW w w1):=hb;have hn:¬g=w1.heap.size:=by omega
 clear hb ho HP;go_wp2_with fail;go_ret
 exact ⟨rfl,HB.alloc HB.size _⟩
theorem znA {E:PE} (P:Nat->Prop) (hP:∀i,ruB E i=true->P i):∀(f i:Nat) (out rs:List Rl),(∀r∈out,P r.1/\r.2.1=(tkA E r.1).tx)->rlG (exN E) E f i out=.inl rs->out.length<=rs.length/\∀r∈rs,P r.1/\r.2.1=(tkA E r.1).tx:=by
 intro f
 induction f with
 | zero=>intro i out rs h0 h;rw [rlG] at h;cases h;exact ⟨nL _,h0⟩
 | succ f ih =>
  intro i out rs h0 h;rw [rlG] at h;by_cases hi:i<E.l.length
  ·rw [iP hi] at h
   by_cases hr:ruB E i=true
   ·rw [iP hr] at h
    cases he:exN E (i+2) with
    | inr p=>rw [he] at h;cases h
    | inl p =>
     rw [he] at h;obtain ⟨h1,h2⟩:=ih _ _ _ (fun r hr2=>by
      rcases List.mem_append.1 hr2 with q | q
      ·exact h0 r q
      ·rw [List.mem_singleton.1 q];exact ⟨hP i hr,rfl⟩) h
     rw [lA] at h1;exact ⟨by omega,h2⟩
   ·rw [iN hr] at h;cases h
  ·rw [iN hi] at h;cases h;exact ⟨nL _,h0⟩
theorem zpy {E:PE} (hr:ruB E 0=true) {rs:List Rl} (h:rlG (exN E) E (E.l.length+1) 0 []=.inl rs):1<=rs.length:=by
 have h0:=zeU hr;rw [rlG,iP (by omega),iP hr] at h
 cases he:exN E (0+2) with
 | inr p=>rw [he] at h;cases h
 | inl p =>
  rw [he] at h;have:=(znA (fun _=>True) (fun _ _=>trivial) _ _ _ _ (fun r hr2=>by rw [List.mem_singleton.1 hr2];exact ⟨trivial,rfl⟩) h).1;exact this
theorem nm_pos {s:ByteArray} {l:List Tk} (h:zbf (zaL s) s=.inl l) {i:Nat} (hk:ruB (mkE l) i=true):0<(tkA (mkE l) i).tx.size:=by
 have h2:=zeU hk;have hi:i<l.length:=by
  have:i+2<=l.length:=h2;omega
 have hk1:kdA (mkE l) i=1:=by
  unfold ruB at hk;simp only [Bool.and_eq_true,beq_iff_eq] at hk;exact hk.1
 unfold kdA mkE at hk1;rw [gE hi] at hk1;have hk1:(l[i]).kd=1:=hk1;have e:tkA (mkE l) i=l[i]:=by unfold tkA mkE;rw [gE hi];rfl
 rw [e];have h1:=(zhc h l[i] (List.getElem_mem hi)).r;unfold riF at h1;simp only [Bool.and_eq_true] at h1;have h3:=h1.1.1.2;rw [hk1] at h3;unfold txF at h3;rw [iP rfl] at h3;unfold zmq at h3;simp only [Bool.and_eq_true,decide_eq_true_eq] at h3;exact h3.1.1.1
theorem znB {s:ByteArray} {gs:List (ByteArray×List Nd)} (h:psR s=.inl gs):1<=gs.length/\gs.length<=200/\(∀g∈gs,(T.ck g.2).2=0/\g.2.length<=2048/\∀n∈g.2,n.tx.size<=65536)/\(gs.map fun g=>g.2.length).sum<=2048/\(1<gs.length->∀g∈gs,0<g.1.size):=by
 unfold psR at h
 cases hl:zbf (zaL s) s with
 | inr q=>rw [hl] at h;cases h
 | inl l =>
  rw [hl] at h;obtain ⟨rs,h1,h2,h3⟩:=znx h;obtain ⟨z1,z2,z3⟩:=zh2 h2;have htx:=zk5 (zde hl) h1;have key:1<=rs.length/\(1<rs.length->∀r∈rs,0<r.2.1.size):=by
   by_cases hr:ruB (mkE l) 0=true
   ·have h4:rlG (exN (mkE l)) (mkE l) ((mkE l).l.length+1) 0 []=.inl rs:=by rw [<-h1];unfold rdN;rw [iP hr]
    refine ⟨zpy hr h4,fun _ r hr2=>?_⟩;obtain ⟨q1,q2⟩:=(znA (fun i=>0<(tkA (mkE l) i).tx.size) (fun i hi=>nm_pos hl hi) _ _ _ _ (fun r hr=>by cases hr) h4).2 r hr2;rw [q2];exact q1
   ·rw [zgo hr] at h1
    obtain ⟨ns,rfl,_⟩:=zny h1;exact ⟨nL _,fun q=>absurd q (by simp)⟩
  subst h3;refine ⟨by rw [List.length_map];exact key.1,by rw [List.length_map];exact z1,fun g hg=>?_,?_,fun q g hg=>?_⟩
  ·obtain ⟨r,hr,rfl⟩:=List.mem_map.1 hg
   exact ⟨z2 r hr,ck_len (z2 r hr),htx r hr⟩
  ·rw [List.map_map]
   exact z3
  ·obtain ⟨r,hr,rfl⟩:=List.mem_map.1 hg
   exact key.2 (by rwa [List.length_map] at q) r hr
theorem zlg (L:List (Rl×Value)):∀(k j:Nat) (x:Rl×Value) (u:Value),L[k]?=some x->(grV x)[j]?=some u->(grc L)[k * 2+j]?=some u:=by
 induction L with
 | nil=>intro k j t u h;simp at h
 | cons a L ih =>
  intro k j t u h hj;have e:grc (a::L)=grV a++grc L:=by unfold grc;rw [List.flatMap_cons]
  have hl:(grV a).length=2:=rfl;rw [e]
  cases k with
  | zero =>
   have h:a=t:=by simpa using h
   subst h;rw [Nat.zero_mul,Nat.zero_add,List.getElem?_append_left (by have:=(List.getElem?_eq_some_iff.1 hj).1;omega)];exact hj
  | succ k =>
   rw [List.getElem?_append_right (by omega),hl,show (k+1) * 2+j - 2=k * 2+j from by omega];exact ih k j t u (by simpa using h) hj
theorem znC {W:World} {B:Nat} {u:Value} {ov:List (Rl×Value)} (h:W.ownsRow B 57 2 u ov.length (grc ov)):∃A c,u=.slice A ov.length c/\∀(k:Nat) x,ov[k]?=some x->∃g,A=some ⟨g,0,none⟩/\g<W.heap.size/\W.cell? ⟨g,k * 2,none⟩=some (.string x.1.2.1)/\W.cell? ⟨g,k * 2+1,none⟩=some x.2:=by
 have hc:=h
 rcases h.2 with ⟨rfl,h0⟩ | ⟨g,cap,cur,rfl,_⟩
 ·refine ⟨none,0,by rw [h0],fun k x hk=>?_⟩
  rw [List.eq_nil_of_length_eq_zero h0] at hk;simp at hk
 ·refine ⟨_,cap,rfl,fun k x hk=>⟨g,rfl,(hc.lt g rfl).2,?_⟩⟩
  have key:∀j u,(grV x)[j]?=some u->W.cell? ⟨g,k * 2+j,none⟩=some u:=fun j u hj=>by
   have:=(hc.cells (g:=g) rfl) (k * 2+j) u (zlg ov k j x u hk hj)
   rwa [Addr.add_lit,Nat.zero_add] at this
  exact ⟨key 0 _ rfl,key 1 _ rfl⟩
theorem zh4 {fn:Func} {R:Ending->World->Prop} {a:Act} {W:World} {s b:Nat} {p e:Int} (hF:fn.results=#[.cell s 27]) (hd:a.defers=[]) (h2:a.tmps.getD s undef=.pointer (some ⟨b,0,none⟩)) (hT:FX W b p e) (hR:R (.returned (.agg #[.int .i64 p,.int .i64 e])) W):bodyPost Tryz.prog fn R .ret a W:=by
 have c0:=hT.c0;have c1:=hT.c1;refine bodyPost_ret (v:=.agg #[.int .i64 p,.int .i64 e]) ?_ hd hR;simp only [Array.getD_eq_getD_getElem?] at h2;simp [results,hF,go_sem,h2,c0,c1]
theorem zlh {W:World} {b:Nat} {p e:Int} (h:FX W b p e) (p2 e2:Int):FX ((W.setCell ⟨b,0,none⟩ (.int .i64 p2)).setCell ⟨b,1,none⟩ (.int .i64 e2)) b p2 e2:=by
 have h0:=heap_setCell_same _ b 0 _ 27 (.int .i64 p2) h.heap;have h1:=heap_setCell_same _ b 1 _ 27 (.int .i64 e2) h0;exact ⟨by rw [h1];simp⟩
def fltV (r:Option (Int×Int)):Value:=match r with
 | none=>.agg #[.int .i64 0,.int .i64 0]
 | some p=>.agg #[.int .i64 p.1,.int .i64 p.2]
theorem Rws.at {E:PE} {z:Nat} {w0 W:World} {u pv:Value} {ov:List (Rl×Value)} (h:Rws E z w0 W u pv ov) {k:Nat} {x:Rl×Value} (hx:ov[k]?=some x):∃g c,pv=.slice (some ⟨g,0,none⟩) ov.length c/\g<W.heap.size/\W.cell? ⟨g,k,none⟩=some (.int .i64 (plA E z x.1.1)):=by
 have hk:k<ov.length:=(List.getElem?_eq_some_iff.1 hx).1;obtain ⟨g,c,e,_,hl⟩:=h.p.form (by omega);subst e;refine ⟨g,c,rfl,hl,?_⟩;have:=h.p.cells (g:=g) rfl k (.int .i64 (plA E z x.1.1)) (by unfold plW;rw [List.getElem?_map,hx];rfl)
 rcases k with _ | k
 ·simpa [Addr.add] using this
 ·simpa [Addr.add] using this
structure AtZ (W wr:World) (u:Value):Prop where
 b:bW W wr
 g:GX wr W.heap.size u
 f:FX wr (W.heap.size+1) 0 0
theorem AtZ.later {W wr W':World} {u:Value} (h:AtZ W wr u) (hb:bW wr W'):AtZ W W' u:=⟨h.b.trans (hb.mono h.b.size),h.g.below hb,h.f.below hb⟩
theorem AtZ.new (W:World) (u:Value):AtZ W ((W.alloc (.cells #[u] 24)).alloc fxZ) u :=
 ⟨((bR _ _).alloc (nL _) _).alloc (by rw [sA];omega) _,(GX.mk (heap_alloc_new W _)).below (zaa _ _),⟨by have h:=heap_alloc_new (W.alloc (.cells #[u] 24)) fxZ;rw [sA] at h;exact h⟩⟩
theorem AtZ.done {W wr:World} {u:Value} (h:AtZ W wr u) (p c:Int):FX ((wr.setCell ⟨W.heap.size+1,0,none⟩ (.int .i64 p)).setCell ⟨W.heap.size+1,1,none⟩ (.int .i64 c)) (W.heap.size+1) p c/\bW W ((wr.setCell ⟨W.heap.size+1,0,none⟩ (.int .i64 p)).setCell ⟨W.heap.size+1,1,none⟩ (.int .i64 c)) :=
 ⟨zlh h.f p c,(h.b.setCell (p:=⟨W.heap.size+1,0,none⟩) (Nat.le_succ _) _).setCell (p:=⟨W.heap.size+1,1,none⟩) (Nat.le_succ _) _⟩
theorem ziM {E:PE} {z:Nat} {w0 W:World} {u pv:Value} {ov:List (Rl×Value)} (h:Rws E z w0 W u pv ov) (x:Rl×Value) (hx:ov[200]?=some x) (hN:ov.length<=65536):Cl 16 #[.agg #[u],pv] W (rB W (.agg #[.int .i64 (plA E z x.1.1),.int .i64 2])):=by
 obtain ⟨g,c,rfl,lg,hc⟩:=h.at hx;have hk:200<ov.length:=(List.getElem?_eq_some_iff.1 hx).1;obtain ⟨A2,c2,hu⟩:=zaf h.o;subst hu;generalize plA E z x.1.1=pl at *;have HA:=hO (AtZ.new W (.slice A2 ov.length c2));have hc1:(((W.alloc (.cells #[.slice A2 ov.length c2] 24)).alloc fxZ)).cell? ⟨g,200,none⟩=some (.int .i64 pl):=(HA.b.cell (p:=⟨g,200,none⟩) lg).trans hc;have z1:(200:Int)<(ov.length:Int):=by omega
 have q0:=HA.g.cl;have q1:=HA.f.c0;have q2:=HA.f.c1;have q3:=HA.f.f0;have q4:=HA.f.f1;obtain ⟨w1,hw1⟩:∃w,(W.alloc (.cells #[.slice A2 ov.length c2] 24)).alloc fxZ=w:=⟨_,rfl⟩;rw [hw1] at HA hc1 q0 q1 q2 q3 q4;have HE:=hO hw1;clear h hx hc lg hw1 hk;go_enter Tryz.func16,Tryz.ntmps16;go_wp2_with (rw [HE.out])
 have hd:=HA.done pl 2;refine zh4 (s:=4) rfl rfl rfl hd.1 ?_;exact ⟨rfl,hd.2⟩
theorem zho {E:PE} {z:Nat} {w0 W:World} {u pv:Value} {ov:List (Rl×Value)} (h:Rws E z w0 W u pv ov) (htx:∀x∈ov,∀n∈x.1.2.2,n.tx.size<=65536) (hln:∀x∈ov,x.1.2.2.length<=2000000000000) (hN:ov.length<=200):Cl 16 #[.agg #[u],pv] W (rB W (fltV (zd4 E z 0 (ov.map (·.1))))):=by
 obtain ⟨A2,c2,hu⟩:=zaf h.o;obtain ⟨A5,c5,hpv⟩:=zaf h.p;subst hu hpv;have HR:=hO h;have HTx:=hO htx;have HLn:=hO hln;have HG:Hid (∀k,k<ov.length->∃x,ov[k]?=some x/\x∈ov):=fun k hk=>⟨_,gE hk,List.getElem_mem hk⟩
 have HA:=hO (AtZ.new W (.slice A2 ov.length c2));have z2:¬(200:Int)<(ov.length:Int):=by omega
 have HZ0:Hid (zd4 E z 0 (ov.map (·.1))=zd4 E z (smN ov 0) ((ov.drop 0).map (·.1))):=rfl;generalize zd4 E z 0 (ov.map (·.1))=R0 at *;have q0:=HA.g.cl;obtain ⟨w1,hw1⟩:∃w,(W.alloc (.cells #[.slice A2 ov.length c2] 24)).alloc fxZ=w:=⟨_,rfl⟩;rw [hw1] at HA q0;have HE:=hO hw1;clear h htx hln hw1;go_enter Tryz.func16,Tryz.ntmps16;go_wp2_with (rw [HE.out])
 clear q0 HE;go_loopw [5,6] (fun s t wr=>∃k:Nat,k<=ov.length/\smN ov k<=2048/\s=.int .i64 (smN ov k:Nat)/\t=.int .i64 k/\Hid (AtZ W wr (.slice A2 ov.length c2))/\Hid (R0=zd4 E z (smN ov k) ((ov.drop k).map (·.1)))) (fun _ t _=>ov.length - (intOf t).toNat)
 case atStart=>exact ⟨0,Nat.zero_le _,Nat.zero_le _,rfl,rfl,HA,HZ0⟩
 case round =>
  obtain ⟨k,hk,hsm,rfl,rfl,HW,HRk⟩:=hrel;clear HA HZ0;have q0:=HW.g.cl;by_cases hlt:k<ov.length
  ·obtain ⟨x,hx,hxm⟩:=HG k hlt
   have HSz:Hid (R0=if (T.ck x.1.2.2).2≠0 then some (plA E z x.1.1,(T.ck x.1.2.2).2) else if 2048<smN ov k+x.1.2.2.length then some (plA E z x.1.1,2) else zd4 E z (smN ov (k+1)) ((ov.drop (k+1)).map (·.1))):=by
    show R0=_
    rw [HRk.out,List.drop_eq_getElem_cons hlt,show ov[k]=x from (List.getElem?_eq_some_iff.1 hx).2,List.map_cons,zd4,zeo hx]
   have hsm1:=zeo hx;obtain ⟨m1,hm1⟩:∃m,m=smN ov (k+1):=⟨_,rfl⟩;rw [<-hm1] at hsm1 HSz;have hRw:=HR.later HW.b;obtain ⟨gp,cp,ep,lp,hp⟩:=hRw.at hx
   cases ep
   obtain ⟨A1,c1,e1,hc⟩:=znC hRw.o;obtain ⟨g,hgA,hglt,d0,d1⟩:=hc k x hx
   cases e1
   subst hgA;have hb1:=hRw.b.e x hxm;obtain ⟨A3,n3,hv3⟩:=zaf hb1;have HCk:Hid (Cl 30 #[.slice A3 x.1.2.2.length n3] wr (rB wr (.tuple #[.int .i64 (T.ck x.1.2.2).1,.int .i64 (T.ck x.1.2.2).2]))):=by
    rw [hv3] at hb1;obtain ⟨A4,c4,e4,hrd⟩:=T.zhY hb1 rfl
    cases e4
    exact T.ziG _ _ _ (by have:=HLn x hxm;omega) (fun n hn=>by have:=HTx x hxm n hn;omega) wr hrd
   have hlx:=HLn x hxm;rw [hv3] at d1;have HX:Hid (∀W',bW wr W'->W'.cell? ⟨g,k * 2+1,none⟩=some (.slice A3 x.1.2.2.length n3)/\W'.cell? ⟨gp,k,none⟩=some (.int .i64 (plA E z x.1.1))):=fun W' hW=>⟨(hW.cell (p:=⟨g,k * 2+1,none⟩) hglt).trans d1,(hW.cell (p:=⟨gp,k,none⟩) lp).trans hp⟩
   obtain ⟨d2,d3⟩:=HX wr (bR _ _);clear d0 d1 hx hxm hb1 hv3 hc hRw hp HG HRk HTx HLn HR;generalize T.ck x.1.2.2=r at *;generalize x.1.2.2.length=nl at *;generalize plA E z x.1.1=p0 at *;have z0:(0:Int)<=(k:Int):=by omega
   have z1:(k:Int)<(ov.length:Int):=by omega
   go_wp2_with fail;refine HCk.mono ?_;rintro e w2 ⟨rfl,hb2⟩;have HW2:=hO (HW.later hb2);obtain ⟨y0,y1⟩:=HX w2 hb2;have g0:=HW2.g.cl;have q1:=HW2.f.c0;have q2:=HW2.f.c1;have q3:=HW2.f.f0;have q4:=HW2.f.f1;clear hb2 HCk HX HW q0 d2 d3;by_cases hr2:r.2=0
   ·have t1:(r.2 != 0)=false:=by rw [hr2];rfl
    have u1:IntKind.i64.wrap ((smN ov k:Nat)+(nl:Int))=(m1:Int):=by rw [wI];omega
    by_cases h48:2048<m1
    ·have HV:Hid (R0=some (p0,2)):=by show R0=_;rw [HSz.out,iN (by rw [hr2];simp),iP (by omega)]
     have t2:(2048:Int)<(m1:Int):=by omega
     clear HSz hr2 hsm1 hm1;generalize smN ov k=s0 at *;go_wp2_with fail;have hd:=HW2.done p0 2;refine zh4 (s:=4) rfl rfl rfl hd.1 ?_;exact ⟨by rw [HV.out];rfl,hd.2⟩
    ·have HV:Hid (R0=zd4 E z m1 ((ov.drop (k+1)).map (·.1))):=by show R0=_;rw [HSz.out,iN (by rw [hr2];simp),iN (by omega)]
     have t2:¬(2048:Int)<(m1:Int):=by omega
     have HM:Hid (m1=smN ov (k+1)):=hm1;clear HSz hr2 hsm1 hm1;generalize hs0:smN ov k=s0 at *;clear hs0;go_wp2_with fail;go_roundw
     case rel=>exact ⟨k+1,by omega,by rw [<-HM.out];omega,by rw [<-HM.out],by go_num,HW2,by rw [<-HM.out];exact HV⟩
     case measure=>simp [intOf];omega
   ·have t1:(r.2 != 0)=true:=by simpa using hr2
    have HV:Hid (R0=some (p0,r.2)):=by show R0=_;rw [HSz.out,iP hr2]
    clear HSz hr2 hsm1 hm1;generalize smN ov k=s0 at *;go_wp2_with fail;have hd:=HW2.done p0 r.2;refine zh4 (s:=4) rfl rfl rfl hd.1 ?_;exact ⟨by rw [HV.out];rfl,hd.2⟩
  ·obtain rfl:k=ov.length:=by omega
   have HV:Hid (R0=none):=by show R0=_;rw [HRk.out,List.drop_of_length_le (nL _)];rfl
   have q1:=HW.f.c0;have q2:=HW.f.c1;have q3:=HW.f.f0;have q4:=HW.f.f1;clear HG HRk HR HTx HLn;generalize smN ov ov.length=s0 at *;go_wp2_with fail;have hd:=HW.done 0 0;refine zh4 (s:=4) rfl rfl rfl hd.1 ?_;exact ⟨by rw [HV.out];rfl,hd.2⟩
theorem znD {E:PE} {z:Nat} {w0 W:World} {u pv:Value} {ov:List (Rl×Value)} (h:Rws E z w0 W u pv ov) (htx:∀x∈ov,∀n∈x.1.2.2,n.tx.size<=65536) (hln:∀x∈ov,x.1.2.2.length<=2000000000000) (hN:ov.length<=65536):Cl 16 #[.agg #[u],pv] W (rB W (fltV (szR E z (ov.map (·.1))))):=by
 unfold szR;rw [List.getElem?_map]
 cases hx:ov[200]? with
 | some x=>exact ziM h x hx hN
 | none=>exact zho h htx hln (by have:=List.getElem?_eq_none_iff.1 hx;omega)
open Go.Proofs.YtkihfkcmcdiajabGreatDoor.T (RdN below_drewN node_neq ndE)
theorem sameq (A1 A2:Option Addr) (c1 c2:Nat) (L:List Nd) (hl:L.length<=140737488355328) (w:World) (h1:RdN w A1 L) (h2:RdN w A2 L) :
  Cl 12 #[.slice A1 L.length c1,.slice A2 L.length c2] w fun e w'=>e=.returned (.bool true)/\∃m,w'=w.drewN m:=by
 have H1:=hO h1;have H2:=hO h2;have HG:Hid (∀k,k<L.length->∃m,L[k]?=some m/\L≠[]):=fun k hk=>⟨_,gE hk,by rintro rfl;simp at hk⟩
 clear h1 h2;go_enter Tryz.func12,Tryz.ntmps12;go_wp2_with fail;go_loopw [5] (fun t wr=>∃k:Nat,k<=L.length/\t=.int .i64 k/\Hid (∃m,wr=w.drewN m)) (fun t _=>L.length - (intOf t).toNat)
 case atStart=>exact ⟨0,by omega,by go_num,⟨0,rfl⟩⟩
 case round =>
  obtain ⟨k,hk,rfl,HW⟩:=hrel;by_cases hlt:k<L.length
  ·obtain ⟨n,hn1,nl⟩:=HG k hlt
   have hB:bW w wr:=by obtain ⟨m,rfl⟩:=HW.out;exact below_drewN (bR _ _) _
   obtain ⟨g1,o1,rfl,l1,q1⟩:=H1 nl;obtain ⟨g2,o2,rfl,l2,q2⟩:=H2 nl;obtain ⟨a0,a1,a2,a3,a4,a5,a6⟩:=(q1.same (hB.block g1 l1)) k n hn1;obtain ⟨d0,d1,d2,d3,d4,d5,d6⟩:=(q2.same (hB.block g2 l2)) k n hn1;have z0:(0:Int)<=(k:Int):=by omega
   have z1:(k:Int)<(L.length:Int):=by omega
   clear HG H1 H2 q1 q2 nl hn1 hB;have hneq:=node_neq n n;rw [T.zlH] at hneq;go_wp2_with fail;go_quiet (fail)
   have HW2:Hid (∃m,wr.drewN nq=w.drewN m):=by obtain ⟨m,e⟩:=HW.out;exact ⟨m+nq,by rw [e,World.drewN_drewN]⟩
   generalize wr.drewN nq=w2 at *;clear hneq a0 a1 a2 a3 a4 a5 a6 d0 d1 d2 d3 d4 d5 d6 HW;go_wp2_with fail;go_roundw
   case rel=>exact ⟨k+1,by omega,by go_num,HW2⟩
   case measure=>simp [intOf];omega
  ·obtain rfl:k=L.length:=by omega
   clear HG H1 H2;go_wp2_with fail;go_ret
   exact ⟨rfl,HW.out⟩
def GrR (W:World) (u:Value) (gs:List (ByteArray×List Nd)):Prop:=∃A c,u=.slice A gs.length c/\∀(k:Nat) g,gs[k]?=some g->∃b A2 c2,A=some ⟨b,0,none⟩/\b<W.heap.size/\W.cell? ⟨b,k * 2,none⟩=some (.string g.1)/\W.cell? ⟨b,k * 2+1,none⟩=some (.slice A2 g.2.length c2)/\RdN W A2 g.2
theorem GrR.later {W W':World} {u:Value} {gs:List (ByteArray×List Nd)} (h:GrR W u gs) (hb:bW W W'):GrR W' u gs:=by
 obtain ⟨A,c,e,h⟩:=h;refine ⟨A,c,e,fun k g hg=>?_⟩;obtain ⟨b,A2,c2,h1,h2,h3,h4,h5⟩:=h k g hg;exact ⟨b,A2,c2,h1,nM h2 hb.size,(hb.cell (p:=⟨b,k * 2,none⟩) h2).trans h3,(hb.cell (p:=⟨b,k * 2+1,none⟩) h2).trans h4,h5.below hb (nL _)⟩
theorem GrR.nil (W:World):GrR W (.slice none 0 0) []:=⟨none,0,rfl,fun k g hg=>by simp at hg⟩
theorem GrR.of {w W:World} {u:Value} {ov:List (Rl×Value)} (h:W.ownsRow w.heap.size 57 2 u ov.length (grc ov)) (hb:Bds w W ov):GrR W u (ov.map fun x=>x.1.2):=by
 obtain ⟨A,c,e,hc⟩:=znC h;refine ⟨A,c,by rw [List.length_map];exact e,fun k g hg=>?_⟩;rw [List.getElem?_map] at hg
 cases hx:ov[k]? with
 | none=>rw [hx] at hg;cases hg
 | some x =>
  rw [hx] at hg;obtain rfl:x.1.2=g:=by simpa using hg
  obtain ⟨b,h1,h2,h3,h4⟩:=hc k x hx;obtain ⟨A2,c2,h5,h6⟩:=T.zhY (hb.e x (List.mem_of_getElem? hx)) rfl;exact ⟨b,A2,c2,h1,h2,h3,by rw [h4,h5],h6⟩
structure AtG (w wr:World) (u1 u2:Value) (gs:List (ByteArray×List Nd)):Prop where
 b:bW w wr
 x1:GX wr w.heap.size u1
 x2:GX wr (w.heap.size+1) u2
 r1:GrR wr u1 gs
 r2:GrR wr u2 gs
theorem AtG.later {w wr W':World} {u1 u2:Value} {gs:List (ByteArray×List Nd)} (h:AtG w wr u1 u2 gs) (hb:bW wr W'):AtG w W' u1 u2 gs :=
 ⟨h.b.trans (hb.mono h.b.size),h.x1.below hb,h.x2.below hb,h.r1.later hb,h.r2.later hb⟩
theorem zli {gs:List (ByteArray×List Nd)} (hl:∀g∈gs,g.2.length<=2048) (hn:gs.length<=200) {w:World} {u1 u2:Value} (h1:GrR w u1 gs) (h2:GrR w u2 gs):Cl 6 #[.agg #[u1],.agg #[u2]] w (rB w (.bool true)):=by
 have HA:=(show Hid (AtG w ((w.alloc (.cells #[u1] 24)).alloc (.cells #[u2] 24)) u1 u2 gs) from
  ⟨((bR _ _).alloc (nL _) _).alloc (by rw [sA];omega) _,(GX.mk (heap_alloc_new w _)).below (zaa _ _),⟨by have h:=heap_alloc_new (w.alloc (.cells #[u1] 24)) (.cells #[u2] 24);rw [sA] at h;exact h⟩,(h1.later (zaa _ _)).later (zaa _ _),(h2.later (zaa _ _)).later (zaa _ _)⟩)
 obtain ⟨A1,c1,rfl,_⟩:=h1;obtain ⟨A2,c2,rfl,_⟩:=h2;have HG:Hid (∀k,k<gs.length->∃g,gs[k]?=some g/\g.2.length<=2048):=fun k hk=>⟨_,gE hk,hl _ (List.getElem_mem hk)⟩
 clear hl;have q1:=HA.x1.cl;have q2:=HA.x2.cl;go_enter Tryz.func6,Tryz.ntmps6;go_wp2_with fail;generalize (w.alloc (.cells #[.slice A1 gs.length c1] 24)).alloc (.cells #[.slice A2 gs.length c2] 24)=w1 at *;go_wp2_with fail;clear q1 q2;go_loopw [5] (fun t wr=>∃k:Nat,k<=gs.length/\t=.int .i64 k/\Hid (AtG w wr (.slice A1 gs.length c1) (.slice A2 gs.length c2) gs)) (fun t _=>gs.length - (intOf t).toNat)
 case atStart=>exact ⟨0,by omega,by go_num,HA⟩
 case round =>
  obtain ⟨k,hk,rfl,HW⟩:=hrel;clear HA;have q1:=HW.x1.cl;have q2:=HW.x2.cl;by_cases hlt:k<gs.length
  ·obtain ⟨g,hg,hgl⟩:=HG k hlt
   obtain ⟨A3,c3,e3,hc3⟩:=HW.r1;obtain ⟨A4,c4,e4,hc4⟩:=HW.r2;obtain ⟨b1,B1,d1,hA1,l1,y0,y1,r1⟩:=hc3 k g hg;obtain ⟨b2,B2,d2,hA2,l2,x0,x1,r2⟩:=hc4 k g hg
   cases e3
   cases e4
   subst hA1 hA2;have HS:Hid (∀n,Cl 12 #[.slice B1 g.2.length d1,.slice B2 g.2.length d2] (wr.drewN n) fun e w'=>e=.returned (.bool true)/\∃m,w'=(wr.drewN n).drewN m):=fun n=>sameq B1 B2 d1 d2 g.2 (by omega) _ (r1.below (below_drewN (bR _ _) _) (nL _)) (r2.below (below_drewN (bR _ _) _) (nL _))
   have z0:(0:Int)<=(k:Int):=by omega
   have z1:(k:Int)<(gs.length:Int):=by omega
   clear HG hc3 hc4 r1 r2 hg hgl;generalize g.2.length=gl at *;generalize g.1=nm at *;go_wp2_with fail;go_quiet ((go_at_call 12;exact Calls.quiet_of (HS.out _)))
   have HW2:Hid (AtG w (wr.drewN nq) (.slice (some ⟨b1,0,none⟩) gs.length c1) (.slice (some ⟨b2,0,none⟩) gs.length c2) gs):=HW.later (below_drewN (bR _ _) _);generalize wr.drewN nq=w2 at *;clear HW q1 q2 y0 y1 x0 x1;go_wp2_with fail;go_roundw
   case rel=>exact ⟨k+1,by omega,by go_num,HW2⟩
   case measure=>simp [intOf];omega
  ·obtain rfl:k=gs.length:=by omega
   clear HG;go_wp2_with fail;go_ret
   exact ⟨rfl,HW.b⟩
end Go.Proofs.YtkihfkcmcdiajabGreatDoor.N
namespace Go.Proofs.YtkihfkcmcdiajabGreatDoor
open Go.RowKit
def sgF (s:ByteArray) (b n k:Nat):Bool:=decide ((sgn k).length=n)&&pfx s b (sgn k)
def sgL (s:ByteArray) (b n:Nat):Nat->Nat->Option Nat
 | 0,_=>none
 | f+1,k=>if sgF s b n k=true then some k else sgL s b n f (k+1)
abbrev zpz (b n k:Nat):Tk:=⟨k,0,b,(b+n:Nat),⟨#[]⟩,0,0,0,0⟩
def sgR (s:ByteArray) (b:Nat):Sum Tk (Nat×Int):=match sgL s b 2 30 1 with
 | some k=>.inl (zpz b 2 k)
 | none=>match sgL s b 1 30 1 with
  | some k=>.inl (zpz b 1 k)
  | none=>.inr (b,50)
def zd9 (c0 c1:Int) (n:Nat):Nat->Nat->Option Nat
 | 0,_=>none
 | f+1,k=>if (sgn k).length=n/\pfC c0 c1 (sgn k)=true then some k else zd9 c0 c1 n f (k+1)
theorem zpA (k:Nat):(sgn k).length<=2:=by
 by_cases h6:k=6
 ·subst h6;decide
 by_cases h27:k=27
 ·subst h27;decide
 by_cases h7:k=7
 ·subst h7;decide
 by_cases h8:k=8
 ·subst h8;decide
 by_cases h9:k=9
 ·subst h9;decide
 by_cases h10:k=10
 ·subst h10;decide
 by_cases h11:k=11
 ·subst h11;decide
 by_cases h12:k=12
 ·subst h12;decide
 by_cases h16:k=16
 ·subst h16;decide
 by_cases h17:k=17
 ·subst h17;decide
 by_cases h18:k=18
 ·subst h18;decide
 by_cases h22:k=22
 ·subst h22;decide
 by_cases h23:k=23
 ·subst h23;decide
 by_cases h24:k=24
 ·subst h24;decide
 by_cases h25:k=25
 ·subst h25;decide
 by_cases h26:k=26
 ·subst h26;decide
 by_cases h19:k=19
 ·subst h19;decide
 by_cases h20:k=20
 ·subst h20;decide
 unfold sgn;simp [*]
theorem sgL_C (s:ByteArray) (b n:Nat):∀f k,sgL s b n f k=zd9 (chr s b) (chr s (b+1)) n f k:=by
 intro f
 induction f with
 | zero=>intro k;rfl
 | succ f ih =>
  intro k;rw [sgL,zd9,ih,sgF,pfx_C s b (sgn k) (zpA k)];simp only [Bool.and_eq_true,decide_eq_true_eq]
def sgRC (c0 c1:Int):Int×Nat:=match zd9 c0 c1 2 30 1 with
 | some k=>(k,2)
 | none=>match zd9 c0 c1 1 30 1 with
  | some k=>(k,1)
  | none=>(0,0)
theorem sgRC_C (c0 c1:Int) (h37:c0≠37) (h94:c0≠94) (hg:¬(c0=123/\c1=58)):sgRC c0 c1=((sgC c0 c1).1,(sgC c0 c1).2.length):=by
 unfold sgRC sgC;rw [iN h37,iN h94];by_cases h60:c0=60
 ·subst h60
  by_cases a45:c1=45 <;> first | (exfalso;exact hg ⟨rfl,by assumption⟩) | (simp [zd9,sgn,pfC, *])
 by_cases h45:c0=45
 ·subst h45
  by_cases a62:c1=62 <;> first | (exfalso;exact hg ⟨rfl,by assumption⟩) | (simp [zd9,sgn,pfC, *])
 by_cases h47:c0=47
 ·subst h47
  simp [zd9,sgn,pfC]
 by_cases h38:c0=38
 ·subst h38
  simp [zd9,sgn,pfC]
 by_cases h33:c0=33
 ·subst h33
  simp [zd9,sgn,pfC]
 by_cases h63:c0=63
 ·subst h63
  simp [zd9,sgn,pfC]
 by_cases h42:c0=42
 ·subst h42
  simp [zd9,sgn,pfC]
 by_cases h43:c0=43
 ·subst h43
  simp [zd9,sgn,pfC]
 by_cases h40:c0=40
 ·subst h40
  simp [zd9,sgn,pfC]
 by_cases h41:c0=41
 ·subst h41
  simp [zd9,sgn,pfC]
 by_cases h46:c0=46
 ·subst h46
  simp [zd9,sgn,pfC]
 by_cases h123:c0=123
 ·subst h123
  by_cases a58:c1=58 <;> by_cases a124:c1=124 <;> by_cases a126:c1=126 <;> first | (exfalso;exact hg ⟨rfl,by assumption⟩) | (simp [zd9,sgn,pfC, *])
 by_cases h58:c0=58
 ·subst h58
  by_cases a125:c1=125 <;> first | (exfalso;exact hg ⟨rfl,by assumption⟩) | (simp [zd9,sgn,pfC, *])
 by_cases h124:c0=124
 ·subst h124
  by_cases a125:c1=125 <;> first | (exfalso;exact hg ⟨rfl,by assumption⟩) | (simp [zd9,sgn,pfC, *])
 by_cases h126:c0=126
 ·subst h126
  by_cases a125:c1=125 <;> first | (exfalso;exact hg ⟨rfl,by assumption⟩) | (simp [zd9,sgn,pfC, *])
 by_cases h125:c0=125
 ·subst h125
  simp [zd9,sgn,pfC]
 simp [zd9,sgn,pfC, *]
theorem sgR_C (s:ByteArray) (b:Nat):sgR s b=if (sgRC (chr s b) (chr s (b+1))).1=0 then .inr (b,50) else .inl ⟨(sgRC (chr s b) (chr s (b+1))).1,0,b,(b+(sgRC (chr s b) (chr s (b+1))).2:Nat),⟨#[]⟩,0,0,0,0⟩:=by
 have hpos:∀n f k j,1<=k->zd9 (chr s b) (chr s (b+1)) n f k=some j->1<=j:=by
  intro n f
  induction f with
  | zero=>intro k j _ h;cases h
  | succ f ih =>
   intro k j hk h;rw [zd9] at h
   split at h
   ·cases h;exact hk
   ·exact ih _ _ (by omega) h
 unfold sgR sgRC;rw [sgL_C,sgL_C]
 cases h2:zd9 (chr s b) (chr s (b+1)) 2 30 1 with
 | some k =>
  have:=hpos _ _ _ _ (by omega) h2;dsimp only;rw [iN (by omega)]
 | none =>
  dsimp only
  cases h1:zd9 (chr s b) (chr s (b+1)) 1 30 1 with
  | some k =>
   have:=hpos _ _ _ _ (by omega) h1;dsimp only;rw [iN (by omega)]
  | none=>dsimp only;rw [iP rfl]
theorem zpB (s:ByteArray) (b:Nat) (l:List UInt8) (h:b+l.length<=s.size):pfx s b l=((s.extract b (b+l.length)).data.toList==l):=by
 induction l generalizing b with
 | nil =>
  have:(s.extract b (b+([]:List UInt8).length)).data.toList=[]:=by
   have h1:(s.extract b (b+([]:List UInt8).length)).size=0:=by rw [ByteArray.size_extract];simp;omega
   exact List.eq_nil_of_length_eq_zero h1
  rw [this];rfl
 | cons c l ih =>
  rw [List.length_cons] at h;have hb:b<s.size:=by omega
  have e:(s.extract b (b+(c::l).length)).data.toList=s[b]::(s.extract (b+1) (b+1+l.length)).data.toList:=by
   have h1:s.data.size=s.size:=rfl;have hd:b<s.data.size:=hb;rw [ByteArray.data_extract,ByteArray.data_extract,Array.toList_extract,Array.toList_extract,List.extract_eq_take_drop,List.extract_eq_take_drop,List.length_cons,
    List.drop_eq_getElem_cons (by rw [Array.length_toList];omega),show b+(l.length+1) - b=l.length+1 from by omega,show b+1+l.length - (b+1)=l.length from by omega,List.take_succ_cons]
   rfl
  rw [pfx,e,ih (b+1) (by omega),zam hb]
  show _=(s[b]==c&&_)
  congr 1
  by_cases q:s[b]=c
  ·rw [q];simp
  ·have h2:¬(s[b].toNat:Int)=(c.toNat:Int):=fun e=>q (UInt8.toNat_inj.1 (by omega))
   rw [bF q,bF h2]
theorem zmV (s:ByteArray) (b:Nat):∀(l:List UInt8),b<=s.size->s.size<b+l.length->pfx s b l=false:=by
 intro l hb h
 cases hp:pfx s b l with
 | false=>rfl
 | true =>
  exfalso
  have key:∀(l:List UInt8) (i:Nat),i<=s.size->pfx s i l=true->i+l.length<=s.size:=by
   intro l
   induction l with
   | nil=>intro i h _;exact h
   | cons c l ih =>
    intro i h hp;rw [pfx,Bool.and_eq_true] at hp;have h1:i<s.size:=zaB (by rw [beq_iff_eq.1 hp.1];omega);have:=ih (i+1) (by omega) hp.2;rw [List.length_cons];omega
  have:=key l b hb hp;omega
structure AtZ (w wr:World):Prop where
 b:bW w wr
 x:TX wr w.heap.size tk0
theorem AtZ.step {w wr W:World} (h:AtZ w wr) (hb:bW wr W):AtZ w W:=⟨h.b.trans (hb.mono h.b.size),h.x.below hb⟩
theorem zmW (s:ByteArray) (b:Nat) (hs:s.size<=140737488355000) (hb:b<s.size) (w:World):Cl 52 #[.string s,.int .i64 b] w (rB w (zct (sgR s b))):=by
 have HWr:Hid (∀i e w,Cl 43 #[.int .i64 i,.int .i64 e] w fun e' w'=>e'=.returned (.tuple #[tkG tk0,.int .i64 i,.int .i64 e])/\bW w w'):=fun i e w=>zbP i e w
 have HSi:Hid (∀k w,1<=k->k<=30->Cl 72 #[.int .i64 ((k:Nat):Int)] w (rB w (.string ⟨(sgn k).toArray⟩))):=fun k w h1 h2=>zo2 k h1 h2 w
 have H0:Hid (AtZ w (w.alloc (tkO tk0))):=⟨zaa w _,TX.new w tk0⟩;have HR:=(show Hid (sgR s b=match sgL s b 2 30 1 with
  | some k=>.inl (zpz b 2 k)
  | none=>match sgL s b 1 30 1 with
   | some k=>.inl (zpz b 1 k)
   | none=>.inr (b,50)) from rfl)
 go_enter Tryz.func52,Tryz.ntmps52;go_wp2_with fail;go_loopw [7] (fun t wr=>∃n:Nat,n<=2/\t=.int .i64 n/\Hid (AtZ w wr)/\Hid ((n<=1->sgL s b 2 30 1=none)/\(n=0->sgL s b 1 30 1=none))) (fun t _=>(intOf t).toNat)
 case atStart=>exact ⟨2,by omega,rfl,H0,⟨fun q=>by omega,fun q=>by omega⟩⟩
 case round =>
  obtain ⟨n,hn,rfl,HW,HP⟩:=hrel;clear H0;by_cases hn0:n=0
  ·subst hn0
   have HE:Hid (sgR s b=.inr (b,50)):=by show sgR s b=_;rw [HR.out,HP.1 (by omega),HP.2 rfl]
   clear HSi HR HP;go_wp2_with fail;refine (HWr _ _ _).mono ?_;rintro e w3 ⟨rfl,b3⟩;have HX3:Hid (AtZ w w3):=HW.step b3;clear b3 HW HWr;obtain ⟨c0,c1,c2,c3,c4,c5,c6,c7,c8⟩:=HX3.x.cells;obtain ⟨f0,f1',f2',f3,f4,f5,f6,f7,f8⟩:=HX3.x.fz;go_wp2_with fail;exact zai rfl rfl rfl rfl rfl (zar HX3.x tk0) ⟨by rw [HE.out];rfl,zac HX3.b (nL _) tk0⟩
  ·have t1:(1:Int)<=(n:Int):=by omega
   go_wp2_with fail;obtain ⟨wO,rfl⟩:∃W,W=wr:=⟨wr,rfl⟩;go_loopw [8] (fun t wr=>∃k:Nat,1<=k/\k<=31/\t=.int .i64 k/\Hid (AtZ w wr)/\Hid (sgL s b n (31 - k) k=sgL s b n 30 1)) (fun t _=>31 - (intOf t).toNat)
   case atStart=>exact ⟨1,by omega,by omega,by go_num,HW,rfl⟩
   case round =>
    obtain ⟨k,hk1,hk2,rfl,HV,HK⟩:=hrel;clear HW;by_cases hk:k<=30
    ·have z1:(k:Int)<=30:=by omega
     have HSk:=(show Hid _ from fun w=>HSi k w hk1 hk);have HU:Hid (sgL s b n 30 1=if sgF s b n k=true then some k else sgL s b n (31 - (k+1)) (k+1)):=by
      show sgL s b n 30 1=_
      rw [<-HK.out,show 31 - k=(31 - (k+1))+1 from by omega,sgL]
     have hsz:(⟨(sgn k).toArray⟩:ByteArray).size=(sgn k).length:=by show (sgn k).toArray.size=_;simp
     have HF1:Hid (¬(sgn k).length=n->sgF s b n k=false):=fun q=>by unfold sgF;rw [dF q];rfl
     have HF2:Hid ((sgn k).length=n->¬b+n<=s.size->sgF s b n k=false):=fun q q2=>by unfold sgF;rw [zmV s b _ (by omega) (by omega),Bool.and_false]
     have HF3:Hid ((sgn k).length=n->b+n<=s.size->sgF s b n k=((s.extract b (b+n)).toList==sgn k)):=fun q q2=>by unfold sgF;rw [decide_eq_true q,Bool.true_and,zpB s b _ (by omega),q,ByteArray.toList_eq]
     by_cases hl:(sgn k).length=n
     ·by_cases hin:b+n<=s.size
      ·have hf:=HF3 hl hin
       have z2:(b:Int)+(n:Int)<=(s.size:Int):=by omega
       have z3:(0:Int)<=(b:Int):=by omega
       have z4:(b:Int)<=(b:Int)+(n:Int):=by omega
       have v1:(((⟨(sgn k).toArray⟩:ByteArray).size:Int)==(n:Int))=true:=by rw [hsz,hl];exact beq_self_eq_true _
       cases hq:((s.extract b (b+n)).toList==sgn k) with
       | true =>
        rw [hq] at hf;have HE:Hid (sgR s b=.inl (zpz b n k)):=by
         show sgR s b=_
         have hL:sgL s b n 30 1=some k:=by rw [HU.out,iP hf]
         by_cases h2:n=2
         ·subst h2;rw [HR.out,hL]
         ·obtain rfl:n=1:=by omega
          rw [HR.out,HP.1 (by omega),hL]
        clear HF1 HF2 HF3 HU HK HSi HWr HR HP hf hin hsz;go_wp2_with fail;refine (HSk _).mono ?_;rintro e w3 ⟨rfl,b3⟩;have HV3:Hid (AtZ w w3):=HV.step b3;clear b3 HV HSk;obtain ⟨c0,c1,c2,c3,c4,c5,c6,c7,c8⟩:=HV3.x.cells;obtain ⟨f0,f1',f2',f3,f4,f5,f6,f7,f8⟩:=HV3.x.fz;go_wp2_with fail;exact zai rfl rfl rfl rfl rfl (zar HV3.x (zpz b n k)) ⟨by rw [HE.out];rfl,zac HV3.b (nL _) (zpz b n k)⟩
       | false =>
        rw [hq] at hf;have HK2:Hid (sgL s b n (31 - (k+1)) (k+1)=sgL s b n 30 1):=by show _=sgL s b n 30 1;rw [HU.out,iN (by rw [hf];decide)]
        clear HF1 HF2 HF3 HU HK HSi HWr HR HP hf hin hsz;go_wp2_with fail;refine (HSk _).mono ?_;rintro e w3 ⟨rfl,b3⟩;have HV3:Hid (AtZ w w3):=HV.step b3;clear b3 HV HSk;go_wp2_with fail;go_roundw
        case rel=>exact ⟨k+1,by omega,by omega,by go_num,HV3,HK2⟩
        case measure=>simp [intOf];omega
      ·have hf:=HF2 hl hin
       have z2:¬(b:Int)+(n:Int)<=(s.size:Int):=by omega
       have v1:(((⟨(sgn k).toArray⟩:ByteArray).size:Int)==(n:Int))=true:=by rw [hsz,hl];exact beq_self_eq_true _
       have HK2:Hid (sgL s b n (31 - (k+1)) (k+1)=sgL s b n 30 1):=by show _=sgL s b n 30 1;rw [HU.out,iN (by rw [hf];decide)]
       clear HF1 HF2 HF3 HU HK HSi HWr HR HP hf hin hsz;go_wp2_with fail;refine (HSk _).mono ?_;rintro e w3 ⟨rfl,b3⟩;have HV3:Hid (AtZ w w3):=HV.step b3;clear b3 HV HSk;go_wp2_with fail;go_roundw
       case rel=>exact ⟨k+1,by omega,by omega,by go_num,HV3,HK2⟩
       case measure=>simp [intOf];omega
     ·have hf:=HF1 hl
      have v1:(((⟨(sgn k).toArray⟩:ByteArray).size:Int)==(n:Int))=false:=by rw [hsz,beq_eq_false_iff_ne];omega
      have HK2:Hid (sgL s b n (31 - (k+1)) (k+1)=sgL s b n 30 1):=by show _=sgL s b n 30 1;rw [HU.out,iN (by rw [hf];decide)]
      clear HF1 HF2 HF3 HU HK HSi HWr HR HP hf hsz hl;generalize ByteArray.mk (sgn k).toArray=tx at *;go_wp2_with fail;refine (HSk _).mono ?_;rintro e w3 ⟨rfl,b3⟩;have HV3:Hid (AtZ w w3):=HV.step b3;clear b3 HV HSk;go_wp2_with fail;go_roundw
      case rel=>exact ⟨k+1,by omega,by omega,by go_num,HV3,HK2⟩
      case measure=>simp [intOf];omega
    ·obtain rfl:k=31:=by omega
     have z1:¬((31:Nat):Int)<=30:=by omega
     have HK2:Hid (sgL s b n 30 1=none):=HK.symm.trans rfl;have HP2:=(show Hid ((n - 1<=1->sgL s b 2 30 1=none)/\(n - 1=0->sgL s b 1 30 1=none)) from by
      by_cases h2:n=2
      ·subst h2;exact ⟨fun _=>HK2.out,fun q=>by omega⟩
      ·obtain rfl:n=1:=by omega
       exact ⟨fun _=>HP.1 (by omega),fun _=>HK2.out⟩)
     clear HK HK2 HSi HWr HR HP;obtain ⟨n1,hn1⟩:∃m,m=n - 1:=⟨_,rfl⟩;rw [<-hn1] at HP2;have u1:IntKind.i64.wrap ((n:Int) - 1)=(n1:Int):=by rw [wI];omega
     have hn2:n1<n:=by omega
     clear hn1;go_wp2_with fail;go_roundw
     case rel=>exact ⟨n1,by omega,rfl,HV,HP2⟩
     case measure=>simp [intOf];omega
theorem hx7_sp (s:ByteArray):∀(k i:Nat),hx7 s i k=if spN hxB s i - i<=k then spN hxB s i else i+k:=by
 intro k
 induction k with
 | zero =>
  intro i;have:=zbe hxB s (by decide) i;rw [hx7]
  split <;> omega
 | succ k ih =>
  intro i;rw [hx7];by_cases h:0<=zaI (chr s i)
  ·rw [iP h,ih (i+1)]
   have h1:=(za8 (P:=hxB) (s:=s) (i:=i) (by decide) (hxB_hexV.2 h)).2;have:=zbe hxB s (by decide) (i+1);rw [h1];by_cases q:spN hxB s (i+1) - (i+1)<=k
   ·rw [iP q,iP (by omega)]
   ·rw [iN q,iN (by omega)];omega
  ·have h1:spN hxB s i=i:=zbo (by
    cases hh:hxB (chr s i) with
    | false=>rfl
    | true=>exact absurd (hxB_hexV.1 hh) h)
   rw [iN h,h1,iP (by omega)]
theorem zlj (s:ByteArray) (i:Nat):zbV s i=if spN hxB s i - i<=7 then spN hxB s i else i+7:=hx7_sp s 7 i
theorem pt_ok {s:ByteArray} {a:Nat} (h:(ptP s a).2.2=true):zbV s a=(ptP s a).2.1/\zbV s a≠a/\¬a+6<zbV s a/\zaF s a 16 (zbV s a - a)=(ptP s a).1/\(ptP s a).1<=1114111:=by
 have hbd:=zda h;have hge:=zbe hxB s (by decide) a;rw [zlj];unfold ptP at h hbd ⊢
 split at h
 ·cases h
 ·next q =>
  rw [iN q] at hbd;rw [iN q,iP (by omega)];exact ⟨rfl,by omega,by omega,rfl,hbd⟩
theorem pt_no {s:ByteArray} {a:Nat} (h:(ptP s a).2.2=false):zbV s a=a∨a+6<zbV s a∨1114111<zaF s a 16 (zbV s a - a):=by
 have hge:=zbe hxB s (by decide) a;rw [zlj];unfold ptP at h
 split at h
 ·next q =>
  rcases q with q | q
  ·left;rw [q];rw [iP (by omega)]
  ·right;left
   split <;> omega
 ·next q =>
  right;right
  rw [iP (by omega)];have:=of_decide_eq_false h;omega
theorem zmX (s:ByteArray) (b:Nat):zb6 s b=zbZ s b:=by
 unfold zb6 zbZ;dsimp only
 cases h1:(ptP s (b+3)).2.2 with
 | false =>
  rw [iP rfl]
  rcases pt_no h1 with q | q | q
  ·rw [iP (.inl q)]
  ·rw [iP (.inr (.inl q))]
  ·by_cases c:zbV s (b+3)=b+3∨b+3+6<zbV s (b+3)∨(if chr s (zbV s (b+3))=45 then zbV s (zbV s (b+3)+1) else zbV s (b+3))=(if chr s (zbV s (b+3))=45 then zbV s (b+3)+1 else b+3)∨(if chr s (zbV s (b+3))=45 then zbV s (b+3)+1 else b+3)+6<(if chr s (zbV s (b+3))=45 then zbV s (zbV s (b+3)+1) else zbV s (b+3))∨chr s (if chr s (zbV s (b+3))=45 then zbV s (zbV s (b+3)+1) else zbV s (b+3))≠125
   ·rw [iP c]
   ·rw [iN c,iP (by omega)]
 | true =>
  obtain ⟨a1,a2,a3,a4,a5⟩:=pt_ok h1;rw [iN (by decide),a1,<-a4,a1];rw [a1] at a2 a3 a4;by_cases h45:chr s (ptP s (b+3)).2.1=45
  ·rw [iP h45,iP h45,iP h45]
   cases h2:(ptP s ((ptP s (b+3)).2.1+1)).2.2 with
   | false =>
    rw [iP (.inl rfl)]
    rcases pt_no h2 with q | q | q
    ·rw [iP (.inr (.inr (.inl q)))]
    ·rw [iP (.inr (.inr (.inr (.inl q))))]
    ·split
     ·rfl
     ·rw [iP (.inr q)]
   | true =>
    obtain ⟨b1,b2,b3,b4,b5⟩:=pt_ok h2;rw [b1];rw [b1] at b2 b3 b4;rw [b4];by_cases hlt:(ptP s ((ptP s (b+3)).2.1+1)).1<zaF s (b+3) 16 ((ptP s (b+3)).2.1 - (b+3))
    ·rw [iP (.inr hlt)]
     split
     ·rfl
     ·rw [iP (.inl hlt)]
    ·rw [iN (by simp;omega)]
     by_cases h125:chr s (ptP s ((ptP s (b+3)).2.1+1)).2.1=125
     ·rw [iP h125,iN (by omega),iN (by omega)];rfl
     ·rw [iN h125,iP (by omega)]
  ·rw [iN h45,iN h45,iN h45]
   by_cases h125:chr s (ptP s (b+3)).2.1=125
   ·rw [iP h125,iN (by omega),iN (by omega)];rfl
   ·rw [iN h125,iP (by omega)]
theorem zlk (c0 c1:Int):(((sgC c0 c1).1=13∨(sgC c0 c1).1=14∨(sgC c0 c1).1=15)->c0=94)/\((sgC c0 c1).1=21->c0=123/\c1=58):=by
 unfold sgC;by_cases h37:c0=37
 ·subst h37
  by_cases a101:c1=101 <;> by_cases a102:c1=102 <;> simp_all
 by_cases h94:c0=94
 ·subst h94
  by_cases a43:c1=43 <;> by_cases a45:c1=45 <;> simp_all
 by_cases h60:c0=60
 ·subst h60
  by_cases a45:c1=45 <;> simp_all
 by_cases h45:c0=45
 ·subst h45
  by_cases a62:c1=62 <;> simp_all
 by_cases h47:c0=47
 ·subst h47
  simp
 by_cases h38:c0=38
 ·subst h38
  simp
 by_cases h33:c0=33
 ·subst h33
  simp
 by_cases h63:c0=63
 ·subst h63
  simp
 by_cases h42:c0=42
 ·subst h42
  simp
 by_cases h43:c0=43
 ·subst h43
  simp
 by_cases h40:c0=40
 ·subst h40
  simp
 by_cases h41:c0=41
 ·subst h41
  simp
 by_cases h46:c0=46
 ·subst h46
  simp
 by_cases h123:c0=123
 ·subst h123
  by_cases a58:c1=58 <;> by_cases a124:c1=124 <;> by_cases a126:c1=126 <;> simp_all
 by_cases h58:c0=58
 ·subst h58
  by_cases a125:c1=125 <;> simp_all
 by_cases h124:c0=124
 ·subst h124
  by_cases a125:c1=125 <;> simp_all
 by_cases h126:c0=126
 ·subst h126
  by_cases a125:c1=125 <;> simp_all
 by_cases h125:c0=125
 ·subst h125
  simp
 simp [*]
def lgG (s:ByteArray) (b:Nat):Prop:=chr s b=123/\chr s (b+1)=58/\hdB (chr s (b+2))=true/\32<spN nmB s (b+2) - (b+2)/\chr s (spN nmB s (b+2))≠58
theorem zmY (s:ByteArray) (b:Nat) (h:chr s b=94):zbS s b=zea s b:=by
 have e:zax s b=if chr s (b+1)=43 then (14,[94,43]) else if chr s (b+1)=45 then (15,[94,45]) else (13,[94]):=by
  rw [zgp,h];unfold sgC;rw [iN (by decide),iP rfl]
 unfold zbS zea;rw [e];dsimp only;by_cases h43:chr s (b+1)=43
 ·rw [iP h43];simp only [h43];rfl
 ·by_cases h45:chr s (b+1)=45
  ·rw [iN h43,iP h45];simp only [h45];rfl
  ·have ho:¬(chr s (b+1)=43∨chr s (b+1)=45):=by omega
   rw [iN h43,iN h45,iN h43,iN h45,iN ho];rfl
theorem zmZ (s:ByteArray) (b:Nat) (h:chr s b=123) (h2:chr s (b+1)=58):(lgG s b->zbS s b=.inr (b+2,2)/\ze8 s b=.inl (nlT b (b+2)))/\(¬lgG s b->zbS s b=ze8 s b):=by
 have e:zax s b=(21,[123,58]):=by
  rw [zgp,h,h2];rfl
 have es:zbS s b=zcF s b (b+2):=by
  unfold zbS;rw [e];rfl
 rw [es];unfold zcF ze8 lgG;have e2:spN nmB s (b+2) - b - 2=spN nmB s (b+2) - (b+2):=by omega
 rw [e2];refine ⟨fun ⟨_,_,q3,q4,q5⟩=>?_,fun hn=>?_⟩
 ·have hA:¬(hdB (chr s (b+2))=true/\chr s (spN nmB s (b+2))=58):=fun q=>q5 q.2
  rw [iP q3,iP q4,iN hA];exact ⟨rfl,rfl⟩
 ·by_cases q1:hdB (chr s (b+2))=true
  ·rw [iP q1]
   by_cases q3:chr s (spN nmB s (b+2))=58
   ·have hA:hdB (chr s (b+2))=true/\chr s (spN nmB s (b+2))=58:=⟨q1,q3⟩
    rw [iP hA,iP q3];by_cases q2:32<spN nmB s (b+2) - (b+2)
    ·rw [iP q2,iP q2]
    ·rw [iN q2,iN q2];rfl
   ·have hA:¬(hdB (chr s (b+2))=true/\chr s (spN nmB s (b+2))=58):=fun q=>q3 q.2
    have q2:¬32<spN nmB s (b+2) - (b+2):=fun q=>hn ⟨h,h2,q1,q,q3⟩
    rw [iN hA,iN q2,iN q3];rfl
  ·have hA:¬(hdB (chr s (b+2))=true/\chr s (spN nmB s (b+2))=58):=fun q=>q1 q.1
   rw [iN q1,iN hA];rfl
theorem zm0 (s:ByteArray) (b:Nat) (h:chr s b=37):zc2 s b=zdE s b:=by
 have e:zax s b=if chr s (b+1)=101 then (29,[37,101]) else if chr s (b+1)=102 then (30,[37,102]) else (0,[]):=by
  rw [zgp,h];unfold sgC;rw [iP rfl]
 have ep:pfx s b [37,117,123]=(chr s (b+1)==117&&chr s (b+2)==123):=by
  show (chr s b==37&&(chr s (b+1)==117&&(chr s (b+1+1)==123&&true)))=_
  rw [h,Bool.and_true];rfl
 unfold zc2 zdE;rw [ep];by_cases hu:chr s (b+1)=117/\chr s (b+2)=123
 ·rw [iP hu,hu.1,hu.2,iP (by decide)];exact zmX s b
 ·have hu2:¬(chr s (b+1)==117&&chr s (b+2)==123)=true:=by simpa using hu
  rw [iN hu,iN hu2,e];by_cases h1:chr s (b+1)=101
  ·rw [iP h1,iP h1,iP (by simp)]
   unfold zbS;rw [e,iP h1];rfl
  ·rw [iN h1,iN h1]
   by_cases h2:chr s (b+1)=102
   ·rw [iP h2,iP h2,iP (by simp)]
    unfold zbS;rw [e,iN h1,iP h2];rfl
   ·rw [iN h2,iN h2,iN (by simp)]
    by_cases hs:b+1<s.size
    ·have hp:0<=chr s (b+1):=by rw [zam hs];omega
     by_cases hc:(cls (chr s (b+1)).toNat).2=0
     ·rw [iP ⟨hs,hc⟩,iP ⟨hp,hc⟩];rfl
     ·rw [iN (fun q=>hc q.2),iN (fun q=>hc q.2)]
    ·have hp:¬0<=chr s (b+1):=by rw [zau hs];omega
     rw [iN (fun q=>hs q.1),iN (fun q=>hp q.1)]
theorem zc3 (s:ByteArray) (b:Nat):(lgG s b->zaL s b=.inr (b+2,2)/\zbG (sgR s) s b=.inl (nlT b (b+2)))/\(¬lgG s b->zaL s b=zbG (sgR s) s b):=by
 unfold zaL zbG;by_cases h1:hdB (chr s b)=true
 ·have hn:¬lgG s b:=fun q=>by rw [q.1] at h1;exact absurd h1 (by decide)
  refine ⟨fun q=>absurd q hn,fun _=>?_⟩;rw [iP h1,iP h1];rfl
 rw [iN h1,iN h1];by_cases h2:dgB (chr s b)=true
 ·have hn:¬lgG s b:=fun q=>by rw [q.1] at h2;exact absurd h2 (by decide)
  refine ⟨fun q=>absurd q hn,fun _=>?_⟩;rw [iP h2,iP h2];rfl
 rw [iN h2,iN h2];by_cases h3:chr s b=39∨chr s b=34
 ·have hn:¬lgG s b:=fun q=>by have:=q.1;omega
  refine ⟨fun q=>absurd q hn,fun _=>?_⟩;rw [iP h3,iP h3]
 rw [iN h3,iN h3];by_cases h4:chr s b=91
 ·have hn:¬lgG s b:=fun q=>by have:=q.1;omega
  refine ⟨fun q=>absurd q hn,fun _=>?_⟩;rw [iP h4,iP h4]
 rw [iN h4,iN h4];by_cases h5:chr s b=37
 ·have hn:¬lgG s b:=fun q=>by have:=q.1;omega
  refine ⟨fun q=>absurd q hn,fun _=>?_⟩;rw [iP h5,iP h5];exact zm0 s b h5
 rw [iN h5,iN h5];by_cases h6:chr s b=94
 ·have hn:¬lgG s b:=fun q=>by have:=q.1;omega
  refine ⟨fun q=>absurd q hn,fun _=>?_⟩;rw [iP h6];exact zmY s b h6
 rw [iN h6];by_cases h7:chr s b=123/\chr s (b+1)=58
 ·rw [iP h7];exact zmZ s b h7.1 h7.2
 ·have hn:¬lgG s b:=fun q=>h7 ⟨q.1,q.2.1⟩
  refine ⟨fun q=>absurd q hn,fun _=>?_⟩;rw [iN h7,sgR_C,sgRC_C _ _ h5 h6 h7];obtain ⟨k1,k2⟩:=zlk (chr s b) (chr s (b+1));unfold zbS;rw [zgp];dsimp only;rw [iN (fun q=>h6 (k1 q)),iN (fun q=>h7 (k2 q))]
end Go.Proofs.YtkihfkcmcdiajabGreatDoor
