import Derived.Test.YtkihfkcmcdiajabGreatDoorPo22
set_option maxRecDepth 100000
set_option maxHeartbeats 8000000
namespace Go.Proofs.YtkihfkcmcdiajabGreatDoor.N
open Go.RowKit
theorem zhZ (args:Array Value) (w:World):(callFunc 37 args).run Tryz.prog w=.ok (.enter 37 args) w:=enters_of Tryz.func37 (by kernel_rfl) rfl args w
theorem zns {p:Prop} (h:p):Hid p:=h
theorem ziI {F:Nat} (hen:∀args w,(callFunc F args).run Tryz.prog w=.ok (.enter F args) w) {ops:Array Oper} {o:Oper} {a:Act} {w:World} {K:Act->World->Prop} {Q:Exit->Act->World->Prop} {E:Prop} (hgd:o.guard=none) (x:Operand) (T:TypeId) (ho:o.op=.call { callee:=.value (.func F),args:=#[x],argTypes:=#[T] }) (v:Value) (hx:a.eval x=v)
  (hc:Cl F #[v] w fun e w'=>∃ch,e=.panicked ch/\Q (.panic ch) a w') (_:Hid False->K (a.put o.dst (.slice none 0 0)) w) :
  if Region.wanted o (yielded ops a.tmps)=true then Oper.wp Tryz.prog o a w K Q else E:=by
 have hw:Region.wanted o (yielded ops a.tmps)=true:=by simp [Region.wanted,hgd]
 rw [iP hw];have he:(execOp a.eval o).run Tryz.prog w=.ok (.enter F #[v]) w:=by
  unfold execOp;simp [ho,go_sem,invoke,hen]
  rw [<-hx]
  cases x <;> simp [Act.eval]
 unfold Oper.wp;rw [he,Oper.upon_enter];refine hc.mono ?_;rintro e w' ⟨r,rfl,hk⟩;exact hk
theorem Fr.drew {W W':World} {b:Nat} {v v':Value} (h:Fr W.drew W' b v v'):Fr W W' b v v':=(Fr.below b v (bR _ _).drew).trans h
theorem zen {E:PE} {z:Nat} {w0 W:World} {b:Nat} {tv:Value} {i d:Nat} {v:Value} {L:List Nd} (h:RS E z w0 W b tv i d v L) (hlt:i<E.l.length) (hz:E.l.length<=1000000) :
  Cl 62 #[.pointer (some ⟨b,0,none⟩),.int .i64 (kdA E i)] W fun e W'=>e=.returned (.tuple #[])/\RS E z w0 W' b tv (i+1) d v L/\Fr W W' b (.slice none 0 0) (.slice none 0 0):=by
 obtain ⟨t,ht,hk,_,_⟩:=zav E z h.hi;have HH:Hid (∀_:Unit,Cl 33 #[.pointer (some ⟨b,0,none⟩)] W (rB W (.agg #[.int .i64 t.kd,.int .i64 t.nn,.int .i64 t.fr,.int .i64 t.en,.string t.tx,.int .u64 t.s0,.int .u64 t.s1,.int .u64 t.s2,.int .u64 t.s3]))):=fun _=>zay h t ht
 have H:=hO h;have fl0:=ziR;rw [<-hk];have t1:(t.kd != t.kd)=false:=by simp
 obtain ⟨j,hj⟩:∃j,j=i+1:=⟨_,rfl⟩;have u1:IntKind.i64.wrap ((i:Int)+1)=(j:Int):=by rw [wI];omega
 have hj2:j<=E.l.length:=by omega
 rw [<-hj];clear h ht hk hj;go_enter Tryz.func62,Tryz.ntmps62;go_wp2_with fail;refine (HH ()).mono ?_;rintro e w1 ⟨rfl,hb⟩;have H1:=hO (H.later hb);have HF:Hid (Fr W w1 b (.slice none 0 0) (.slice none 0 0)):=Fr.below b _ hb;clear hb HH H;obtain ⟨k0,k1,k2,k3⟩:=H1.x.cl;have f1':=H1.x.fz 1;go_wp2_with fail;go_end0
 exact ⟨rfl,H1.s1 hj2,HF.trans (Fr.set _ _ _ _ _)⟩
theorem rule_x {E:PE} (hE:OkE E) {z:Nat} {w0:World} (hv:R.VB w0) {b:Nat} {tv:Value} {i:Nat} {W:World} {v:Value} {L:List Nd} (h:RS E z w0 W b tv i 0 v L) (hr:ruB E i=true) (q:Nat×Int) (hq:exN E (i+2)=.inr q):Cl 36 #[.pointer (some ⟨b,0,none⟩)] W fun e W'=>e=pnc (plA E z q.1) q.2/\bW w0 W':=by
 have hz:=hE.z;have hlt2:=zeU hr;have hr2:=hr;unfold ruB at hr2;simp only [Bool.and_eq_true,beq_iff_eq] at hr2;obtain ⟨t,ht,hk,hpl,hta⟩:=zav E z h.hi;obtain rfl:t=tkA E i:=hta (by omega);have HH:Hid (∀W,RS E z w0 W b tv i 0 v L->Cl 33 #[.pointer (some ⟨b,0,none⟩)] W (rB W (.agg #[.int .i64 1,.int .i64 (tkA E i).nn,.int .i64 (plA E z i),.int .i64 (tkA E i).en,.string (tkA E i).tx,.int .u64 (tkA E i).s0,.int .u64 (tkA E i).s1,.int .u64 (tkA E i).s2,.int .u64 (tkA E i).s3]))):=fun W h=>by
  have:=zay h _ ht;rw [hpl,hk,hr2.1] at this;exact this
 have HP1:Hid (∀W,RS E z w0 W b tv i 0 v L->Cl 62 #[.pointer (some ⟨b,0,none⟩),.int .i64 1] W fun e W'=>e=.returned (.tuple #[])/\RS E z w0 W' b tv (i+1) 0 v L/\Fr W W' b (.slice none 0 0) (.slice none 0 0)):=fun W h=>by
  have:=zen h (by omega) hz;rw [hr2.1] at this;exact this
 have HP2:Hid (∀W,RS E z w0 W b tv (i+1) 0 v L->Cl 62 #[.pointer (some ⟨b,0,none⟩),.int .i64 6] W fun e W'=>e=.returned (.tuple #[])/\RS E z w0 W' b tv ((i+1)+1) 0 v L/\Fr W W' b (.slice none 0 0) (.slice none 0 0)):=fun W h=>by
  have:=zen h (by omega) hz;rw [hr2.2] at this;exact this
 have HP:Hid (PX (W.alloc (.cells #[.int .i64 0,.string ⟨#[]⟩,.slice none 0 0] 59)) W.heap.size (.int .i64 0) (.string ⟨#[]⟩) (.slice none 0 0)):=⟨heap_alloc_new W _⟩;have H:Hid (RS E z w0 (W.alloc (.cells #[.int .i64 0,.string ⟨#[]⟩,.slice none 0 0] 59)) b tv i 0 v L):=h.later (zaa _ _);have HF:Hid (Fr W (W.alloc (.cells #[.int .i64 0,.string ⟨#[]⟩,.slice none 0 0] 59)) b (.slice none 0 0) (.slice none 0 0)):=Fr.below b _ (zaa _ _);have hnb:=h.x.lt;have hw0:=h.bl.size;have HBo:Hid (∀W,RS E z w0 W b tv (i+1+1) 0 v L->Cl 37 #[.pointer (some ⟨b,0,none⟩)] W fun e W'=>e=pnc (plA E z q.1) q.2/\bW w0 W'):=fun W h=>zkD hE hv h q hq
 clear h ht hk hpl hta hE hv hq hr hr2;generalize plA E z i=p0 at *;generalize tkA E i=t at *;go_enter Tryz.func36,Tryz.ntmps36;go_wp2_with fail;generalize W.alloc (.cells #[.int .i64 0,.string ⟨#[]⟩,.slice none 0 0] 59)=w1 at *;refine (HH _ H.out).mono ?_;rintro e w2 ⟨rfl,hb⟩;have H2:Hid (RS E z w0 (w2.alloc (.cells #[.int .i64 1,.int .i64 t.nn,.int .i64 p0,.int .i64 t.en,.string t.tx,.int .u64 t.s0,.int .u64 t.s1,.int .u64 t.s2,.int .u64 t.s3] 69)) b tv i 0 v L):=(H.later hb).later (zaa _ _);have HF2:Hid (Fr W (w2.alloc (.cells #[.int .i64 1,.int .i64 t.nn,.int .i64 p0,.int .i64 t.en,.string t.tx,.int .u64 t.s0,.int .u64 t.s1,.int .u64 t.s2,.int .u64 t.s3] 69)) b (.slice none 0 0) (.slice none 0 0)):=HF.trans ((Fr.below b _ hb).trans (Fr.below b _ (zaa _ _)));have HP2':Hid (PX (w2.alloc (.cells #[.int .i64 1,.int .i64 t.nn,.int .i64 p0,.int .i64 t.en,.string t.tx,.int .u64 t.s0,.int .u64 t.s1,.int .u64 t.s2,.int .u64 t.s3] 69)) W.heap.size (.int .i64 0) (.string ⟨#[]⟩) (.slice none 0 0)):=(HP.same (hb.block _ HP.lt)).same ((zaa w2 _).block _ (nM HP.lt hb.size));have HT2:Hid (TX (w2.alloc (.cells #[.int .i64 1,.int .i64 t.nn,.int .i64 p0,.int .i64 t.en,.string t.tx,.int .u64 t.s0,.int .u64 t.s1,.int .u64 t.s2,.int .u64 t.s3] 69)) w2.heap.size ⟨1,t.nn,p0,t.en,t.tx,t.s0,t.s1,t.s2,t.s3⟩):=⟨heap_alloc_new w2 _⟩;have hw2:W.heap.size<w2.heap.size:=nM HP.lt hb.size;clear hb HH H HF HP
 go_wp2_with fail;generalize w2.alloc (.cells #[.int .i64 1,.int .i64 t.nn,.int .i64 p0,.int .i64 t.en,.string t.tx,.int .u64 t.s0,.int .u64 t.s1,.int .u64 t.s2,.int .u64 t.s3] 69)=w3 at *;refine (HP1 _ H2.out).mono ?_;rintro e w4 ⟨rfl,h4,hf4⟩;have H4:=hO h4;have HF4:Hid (Fr W w4 b (.slice none 0 0) (.slice none 0 0)):=HF2.trans hf4;have HP4:=hO (HP2'.same (hf4.block _ HP2'.lt (by omega) (by intro q;cases q)));have HT4:=hO (zeG HT2 hf4 (by omega) (by intro q;cases q));clear h4 hf4 H2 HF2 HP2' HT2 HP1;go_wp2_with fail;refine (HP2 _ H4.out).mono ?_;rintro e w5 ⟨rfl,h5,hf5⟩;have H5:=hO h5;have HF5:Hid (Fr W w5 b (.slice none 0 0) (.slice none 0 0)):=HF4.trans hf5;have HP5:=hO (HP4.same (hf5.block _ HP4.lt (by omega) (by intro q;cases q)));have HT5:=hO (zeG HT4 hf5 (by omega) (by intro q;cases q));clear h5 hf5 H4 HF4 HP4 HT4 HP2;have HD:Hid (RS E z w0 w5.drew b tv (i+1+1) 0 v L):=H5.later (bR _ _).drew;obtain ⟨c0,c1,c2,c3,c4,c5,c6,c7,c8⟩:=HT5.cells;go_wp2_with fail;have HQ:Hid (∀act:Act,act.defers=[]->Cl 37 #[.pointer (some ⟨b,0,none⟩)] w5.drew fun e w'=>∃ch,e=.panicked ch/\bodyPost Tryz.prog Tryz.f36 (fun e W'=>e=pnc (plA E z q.1) q.2/\bW w0 W') (.panic ch) act w'):=fun act hd=>(HBo _ HD.out).mono (by
  rintro e wA ⟨rfl,hb⟩;exact ⟨_,rfl,zah hd ⟨rfl,hb⟩⟩)
 obtain ⟨y0,y1,y2⟩:=HP5.cl;have g0:=HP5.fz 0;have g1:=HP5.fz 1;have g2:=HP5.fz 2;go_region_law (refine ziI zhZ rfl _ _ (by rfl) (.pointer (some ⟨b,0,none⟩)) (by rfl) ?_ ?_;exact HQ.out _ rfl;intro hf)
 all_goals exact hf.out.elim
theorem zph {E:PE} (hE:OkE E) {z:Nat} {w0:World} (hv:R.VB w0) {b:Nat} {tv:Value} {i:Nat} {W:World} {v:Value} {L:List Nd} (h:RS E z w0 W b tv i 0 v L) (hr:ruB E i=true) (a:Nat) (ns:List Nd) (hq:exN E (i+2)=.inl (a,ns)):Cl 36 #[.pointer (some ⟨b,0,none⟩)] W fun e W'=>∃v',e=.returned (.agg #[.int .i64 (plA E z i),.string (tkA E i).tx,v'])/\RS E z w0 W' b tv a 0 v' ns/\Fr W W' b (.slice none 0 0) v':=by
 have hz:=hE.z;have hlt2:=zeU hr;have hr2:=hr;unfold ruB at hr2;simp only [Bool.and_eq_true,beq_iff_eq] at hr2;obtain ⟨t,ht,hk,hpl,hta⟩:=zav E z h.hi;obtain rfl:t=tkA E i:=hta (by omega);have HH:Hid (∀W,RS E z w0 W b tv i 0 v L->Cl 33 #[.pointer (some ⟨b,0,none⟩)] W (rB W (.agg #[.int .i64 1,.int .i64 (tkA E i).nn,.int .i64 (plA E z i),.int .i64 (tkA E i).en,.string (tkA E i).tx,.int .u64 (tkA E i).s0,.int .u64 (tkA E i).s1,.int .u64 (tkA E i).s2,.int .u64 (tkA E i).s3]))):=fun W h=>by
  have:=zay h _ ht;rw [hpl,hk,hr2.1] at this;exact this
 have HP1:Hid (∀W,RS E z w0 W b tv i 0 v L->Cl 62 #[.pointer (some ⟨b,0,none⟩),.int .i64 1] W fun e W'=>e=.returned (.tuple #[])/\RS E z w0 W' b tv (i+1) 0 v L/\Fr W W' b (.slice none 0 0) (.slice none 0 0)):=fun W h=>by
  have:=zen h (by omega) hz;rw [hr2.1] at this;exact this
 have HP2:Hid (∀W,RS E z w0 W b tv (i+1) 0 v L->Cl 62 #[.pointer (some ⟨b,0,none⟩),.int .i64 6] W fun e W'=>e=.returned (.tuple #[])/\RS E z w0 W' b tv ((i+1)+1) 0 v L/\Fr W W' b (.slice none 0 0) (.slice none 0 0)):=fun W h=>by
  have:=zen h (by omega) hz;rw [hr2.2] at this;exact this
 have HP:Hid (PX (W.alloc (.cells #[.int .i64 0,.string ⟨#[]⟩,.slice none 0 0] 59)) W.heap.size (.int .i64 0) (.string ⟨#[]⟩) (.slice none 0 0)):=⟨heap_alloc_new W _⟩;have H:Hid (RS E z w0 (W.alloc (.cells #[.int .i64 0,.string ⟨#[]⟩,.slice none 0 0] 59)) b tv i 0 v L):=h.later (zaa _ _);have HF:Hid (Fr W (W.alloc (.cells #[.int .i64 0,.string ⟨#[]⟩,.slice none 0 0] 59)) b (.slice none 0 0) (.slice none 0 0)):=Fr.below b _ (zaa _ _);have hnb:=h.x.lt;have hw0:=h.bl.size;have HBo:Hid (∀W,RS E z w0 W b tv (i+1+1) 0 v L->Cl 37 #[.pointer (some ⟨b,0,none⟩)] W fun e W'=>∃v',e=.returned v'/\RS E z w0 W' b tv a 0 v' ns/\Fr W W' b (.slice none 0 0) v'):=fun W h=>zhd hE hv h a ns hq
 clear h ht hk hpl hta hE hv hq hr hr2;generalize plA E z i=p0 at *;generalize tkA E i=t at *;go_enter Tryz.func36,Tryz.ntmps36;go_wp2_with fail;generalize W.alloc (.cells #[.int .i64 0,.string ⟨#[]⟩,.slice none 0 0] 59)=w1 at *;refine (HH _ H.out).mono ?_;rintro e w2 ⟨rfl,hb⟩;have H2:Hid (RS E z w0 (w2.alloc (.cells #[.int .i64 1,.int .i64 t.nn,.int .i64 p0,.int .i64 t.en,.string t.tx,.int .u64 t.s0,.int .u64 t.s1,.int .u64 t.s2,.int .u64 t.s3] 69)) b tv i 0 v L):=(H.later hb).later (zaa _ _);have HF2:Hid (Fr W (w2.alloc (.cells #[.int .i64 1,.int .i64 t.nn,.int .i64 p0,.int .i64 t.en,.string t.tx,.int .u64 t.s0,.int .u64 t.s1,.int .u64 t.s2,.int .u64 t.s3] 69)) b (.slice none 0 0) (.slice none 0 0)):=HF.trans ((Fr.below b _ hb).trans (Fr.below b _ (zaa _ _)));have HP2':Hid (PX (w2.alloc (.cells #[.int .i64 1,.int .i64 t.nn,.int .i64 p0,.int .i64 t.en,.string t.tx,.int .u64 t.s0,.int .u64 t.s1,.int .u64 t.s2,.int .u64 t.s3] 69)) W.heap.size (.int .i64 0) (.string ⟨#[]⟩) (.slice none 0 0)):=(HP.same (hb.block _ HP.lt)).same ((zaa w2 _).block _ (nM HP.lt hb.size));have HT2:Hid (TX (w2.alloc (.cells #[.int .i64 1,.int .i64 t.nn,.int .i64 p0,.int .i64 t.en,.string t.tx,.int .u64 t.s0,.int .u64 t.s1,.int .u64 t.s2,.int .u64 t.s3] 69)) w2.heap.size ⟨1,t.nn,p0,t.en,t.tx,t.s0,t.s1,t.s2,t.s3⟩):=⟨heap_alloc_new w2 _⟩;have hw2:W.heap.size<w2.heap.size:=nM HP.lt hb.size;clear hb HH H HF HP
 go_wp2_with fail;generalize w2.alloc (.cells #[.int .i64 1,.int .i64 t.nn,.int .i64 p0,.int .i64 t.en,.string t.tx,.int .u64 t.s0,.int .u64 t.s1,.int .u64 t.s2,.int .u64 t.s3] 69)=w3 at *;refine (HP1 _ H2.out).mono ?_;rintro e w4 ⟨rfl,h4,hf4⟩;have H4:=hO h4;have HF4:Hid (Fr W w4 b (.slice none 0 0) (.slice none 0 0)):=HF2.trans hf4;have HP4:=hO (HP2'.same (hf4.block _ HP2'.lt (by omega) (by intro q;cases q)));have HT4:=hO (zeG HT2 hf4 (by omega) (by intro q;cases q));clear h4 hf4 H2 HF2 HP2' HT2 HP1;go_wp2_with fail;refine (HP2 _ H4.out).mono ?_;rintro e w5 ⟨rfl,h5,hf5⟩;have H5:=hO h5;have HF5:Hid (Fr W w5 b (.slice none 0 0) (.slice none 0 0)):=HF4.trans hf5;have HP5:=hO (HP4.same (hf5.block _ HP4.lt (by omega) (by intro q;cases q)));have HT5:=hO (zeG HT4 hf5 (by omega) (by intro q;cases q));clear h5 hf5 H4 HF4 HP4 HT4 HP2;have HD:Hid (RS E z w0 w5.drew b tv (i+1+1) 0 v L):=H5.later (bR _ _).drew;obtain ⟨c0,c1,c2,c3,c4,c5,c6,c7,c8⟩:=HT5.cells;go_wp2_with fail;have HA:=(show Hid (∀wA A3 n3,RS E z w0 wA b tv a 0 (.slice A3 ns.length n3) ns->Fr w5.drew wA b (.slice none 0 0) (.slice A3 ns.length n3)->PX wA W.heap.size (.int .i64 0) (.string ⟨#[]⟩) (.slice none 0 0)/\TX wA w2.heap.size ⟨1,t.nn,p0,t.en,t.tx,t.s0,t.s1,t.s2,t.s3⟩/\Fr W wA b (.slice none 0 0) (.slice A3 ns.length n3)) from fun wA A3 n3 hA hf=>by
  have hf:=hf.drew;exact ⟨HP5.same (hf.block _ HP5.lt (by omega) (by intro q;cases q)),HT5.same (hf.block _ HT5.lt (by omega) (by intro q;cases q)),HF5.trans hf⟩)
 go_region_law (refine T.ziH zhZ rfl _ _ (by rfl) (.pointer (some ⟨b,0,none⟩)) (by rfl) ?_;with_reducible refine (HBo.out _ HD.out).mono ?_;rintro e wA ⟨v6,rfl,h6,hf6⟩;obtain ⟨A3,n3,rfl⟩:=zaf h6.o;refine ⟨_,rfl,?_⟩;have HY:=zns (HA.out wA A3 n3 h6 hf6);have H6:=zns h6;obtain ⟨y0,y1,y2⟩:=HY.out.1.cl;have g0:=HY.out.1.fz 0;have g1:=HY.out.1.fz 1;have g2:=HY.out.1.fz 2;obtain ⟨d0,d1,d2,d3,d4,d5,d6,d7,d8⟩:=HY.out.2.1.cells)
 all_goals
  clear c0 c1 c2 c3 c4 c5 c6 c7 c8 d0 d1 d2 d3 d4 d5 d6 d7 d8 y0 y1 y2 g0 g1 g2;go_wp2_with fail;refine znr rfl rfl rfl (znq HY.1 (.int .i64 p0) (.string t.tx) (.slice A3 ns.length n3)) ?_;exact ⟨_,rfl,H6.st3 HY.1 hw0 _ _ _,HY.2.2.st3 (nL _) _ _ _⟩
theorem zpi {E:PE} {z:Nat} {w0:World} {b:Nat} {tv:Value} {i:Nat} {W:World} {v:Value} {L:List Nd} (h:RS E z w0 W b tv i 0 v L) (h1:¬kdA E i=1):Cl 36 #[.pointer (some ⟨b,0,none⟩)] W fun e W'=>e=pnc (plA E z i) 60/\bW w0 W':=by
 obtain ⟨t,ht,hk,hpl,_⟩:=zav E z h.hi;have HH:Hid (∀W,RS E z w0 W b tv i 0 v L->Cl 33 #[.pointer (some ⟨b,0,none⟩)] W (rB W (.agg #[.int .i64 t.kd,.int .i64 t.nn,.int .i64 t.fr,.int .i64 t.en,.string t.tx,.int .u64 t.s0,.int .u64 t.s1,.int .u64 t.s2,.int .u64 t.s3]))):=fun W h=>zay h _ ht
 have HP1:Hid (∀W,RS E z w0 W b tv i 0 v L->Cl 62 #[.pointer (some ⟨b,0,none⟩),.int .i64 1] W fun e W'=>e=pnc (plA E z i) 60/\bW w0 W'):=fun W h=>zjs h 1 h1
 have H:Hid (RS E z w0 (W.alloc (.cells #[.int .i64 0,.string ⟨#[]⟩,.slice none 0 0] 59)) b tv i 0 v L):=h.later (zaa _ _);clear h ht hk hpl h1;go_enter Tryz.func36,Tryz.ntmps36;go_wp2_with fail;generalize W.alloc (.cells #[.int .i64 0,.string ⟨#[]⟩,.slice none 0 0] 59)=w1 at *;refine (HH _ H.out).mono ?_;rintro e w2 ⟨rfl,hb⟩;have H2:Hid (RS E z w0 (w2.alloc (.cells #[.int .i64 t.kd,.int .i64 t.nn,.int .i64 t.fr,.int .i64 t.en,.string t.tx,.int .u64 t.s0,.int .u64 t.s1,.int .u64 t.s2,.int .u64 t.s3] 69)) b tv i 0 v L):=(H.later hb).later (zaa _ _);clear hb HH H;go_wp2_with fail;refine (HP1 _ H2.out).mono ?_;rintro e w4 ⟨rfl,hb⟩;exact zah rfl ⟨rfl,hb⟩
theorem Tryz.info62:(Tryz.prog.info? 59).map (fun i=>(i.zero,i.size,i.bytes))=some (some (.agg #[.int .i64 0,.string ⟨#[]⟩,.slice none 0 0]),3,48):=by kernel_rfl
def plV (E:PE) (z:Nat) (x:Rl×Value):List Value:=[.int .i64 (plA E z x.1.1),.string x.1.2.1,x.2]
def plc (E:PE) (z:Nat) (l:List (Rl×Value)):List Value:=l.flatMap (plV E z)
theorem ziJ (E:PE) (z:Nat) (a b:List (Rl×Value)):plc E z (a++b)=plc E z a++plc E z b:=List.flatMap_append
theorem zk3 (E:PE) (z:Nat) (x:Rl×Value):plc E z [x]=plV E z x:=by unfold plc;rw [List.flatMap_cons,List.flatMap_nil,List.append_nil]
structure Bds (w0 W:World) (ov:List (Rl×Value)):Prop where
 e:∀x∈ov,W.ownsRow w0.heap.size 65 7 x.2 x.1.2.2.length (T.ndc x.1.2.2)
 ap:ov.Pairwise fun x y=>∀k,x.2.ownBlock=some k->y.2.ownBlock≠some k
theorem Bds.same {w0 W W':World} {ov:List (Rl×Value)} (h:Bds w0 W ov) (hk:∀x∈ov,∀k,x.2.ownBlock=some k->W'.heap[k]?=W.heap[k]?):Bds w0 W' ov:=⟨fun x hx=>zaj (h.e x hx) (hk x hx),h.ap⟩
theorem Bds.later {w0 W W':World} {ov:List (Rl×Value)} (h:Bds w0 W ov) (hb:bW W W'):Bds w0 W' ov:=h.same fun x hx k hk=>hb.block k ((h.e x hx).lt k hk).2
theorem Bds.grow {w0 W W':World} {ov:List (Rl×Value)} {B e s n:Nat} {u:Value} {xs:List Value} (h:Bds w0 W ov) (hg:W.grownBy W' u.ownBlock) (ho:W.ownsRow B e s u n xs) (he:e≠65):Bds w0 W' ov:=h.same fun x hx k hk=>hg.block k ((h.e x hx).lt k hk).2 (fun q=>za2 ho (h.e x hx) he q.symm hk)
theorem Bds.push {w0 W:World} {ov:List (Rl×Value)} (h:Bds w0 W ov) (x:Rl×Value) (hx:W.ownsRow w0.heap.size 65 7 x.2 x.1.2.2.length (T.ndc x.1.2.2)) (hn:∀y∈ov,∀k,y.2.ownBlock=some k->x.2.ownBlock≠some k):Bds w0 W (ov++[x]) :=
 ⟨fun y hy=>by
  rcases List.mem_append.1 hy with q | q
  ·exact h.e y q
  ·rw [List.mem_singleton.1 q];exact hx,List.pairwise_append.2 ⟨h.ap,List.pairwise_singleton _ _,fun y hy u hu=>by rw [List.mem_singleton.1 hu];exact hn y hy⟩⟩
theorem RS.gr {E:PE} {z:Nat} {w0 W W':World} {b:Nat} {tv:Value} {i d:Nat} {v:Value} {L:List Nd} {u:Value} {n:Nat} {xs:List Value} (h:RS E z w0 W b tv i d v L) (ho:W.ownsRow w0.heap.size 59 3 u n xs) (hg:W.grownBy W' u.ownBlock):RS E z w0 W' b tv i d v L :=
 ⟨h.bl.grown hg h.bl.size (fun k e=>(ho.lt k e).1),h.lo,h.x.same (hg.block b h.x.lt (fun e=>h.x.ne ho (by decide) e.symm rfl)),zaj h.t fun k hk=>hg.block k (h.t.lt k hk).2 (fun e=>za2 h.t ho (by decide) hk e.symm),zaj h.o fun k hk=>hg.block k (h.o.lt k hk).2 (fun e=>za2 h.o ho (by decide) hk e.symm),h.hi,h.hd⟩
structure AtR (E:PE) (z:Nat) (w0 W:World) (b:Nat) (tv:Value) (a:Nat) (v:Value) (L:List Nd) (u:Value) (ov:List (Rl×Value)):Prop where
 s:RS E z w0 W b tv a 0 v L
 o:W.ownsRow w0.heap.size 59 3 u ov.length (plc E z ov)
 bd:Bds w0 W ov
 n:ov.length<=a
 nm:kdA E a=1->ruB E a=true
theorem AtR.later {E:PE} {z:Nat} {w0 W W':World} {b:Nat} {tv:Value} {a:Nat} {v:Value} {L:List Nd} {u:Value} {ov:List (Rl×Value)} (h:AtR E z w0 W b tv a v L u ov) (hb:bW W W'):AtR E z w0 W' b tv a v L u ov:=⟨h.s.later hb,zf1 h.o hb,h.bd.later hb,h.n,h.nm⟩
theorem AtR.read {E:PE} {z:Nat} {w0 W W':World} {b:Nat} {tv:Value} {a:Nat} {v v':Value} {L:List Nd} {u:Value} {ov:List (Rl×Value)} (h:AtR E z w0 W b tv a v L u ov) (hf:Fr W W' b (.slice none 0 0) v'):W'.ownsRow w0.heap.size 59 3 u ov.length (plc E z ov)/\Bds w0 W' ov/\∀y∈ov,∀k,y.2.ownBlock=some k->v'.ownBlock≠some k :=
 ⟨zaj h.o fun k hk=>hf.block k (h.o.lt k hk).2 (h.s.x.ne h.o (by decide) hk) (by intro q;cases q),h.bd.same fun x hx k hk=>hf.block k ((h.bd.e x hx).lt k hk).2 (h.s.x.ne (h.bd.e x hx) (by decide) hk) (by intro q;cases q),fun y hy k hk q=>by
  rcases hf.own k q with r | r
  ·cases r
  ·have:=((h.bd.e y hy).lt k hk).2
   omega⟩
def RlV (E:PE) (z:Nat) (w0:World) (r:Sum (List Rl) (Nat×Int)) (e:Ending) (W':World):Prop:=match r with
 | .inr q=>e=pnc (plA E z q.1) q.2/\bW w0 W'
 | .inl rs=>∃u ov,e=.returned u/\W'.ownsRow w0.heap.size 59 3 u ov.length (plc E z ov)/\Bds w0 W' ov/\ov.map (·.1)=rs/\bW w0 W'
theorem zk4 {E:PE} (hE:OkE E) (hk0:∀a,a<E.l.length->¬kdA E a=0) {z:Nat} {w0:World} (hv:R.VB w0) {b:Nat} {tv:Value} {W:World} (h:RS E z w0 W b tv 0 0 (.slice none 0 0) []) (hr0:ruB E 0=true):Cl 22 #[.pointer (some ⟨b,0,none⟩)] W fun e W'=>RlV E z w0 (rdN E) e W':=by
 have hlen:=hE.len;obtain ⟨i0,hinf,hz0,hz1,hz2⟩:=info_parts Tryz.info62;have HE:=hO hE;have HK:=hO hk0;have HVB:=hO hv;have HA:Hid (AtR E z w0 W b tv 0 (.slice none 0 0) [] (.slice none 0 0) []):=⟨h,World.ownsRow_nil _ _ _ _,⟨fun x hx=>(by cases hx),List.Pairwise.nil⟩,nL _,fun _=>hr0⟩;have HR0:Hid (rdN E=rlG (exN E) E (E.l.length+1) 0 (([]:List (Rl×Value)).map (·.1))):=by
  show rdN E=_
  unfold rdN;rw [iP hr0];rfl
 generalize rdN E=R0 at *;clear h hE hk0 hv hr0;go_enter Tryz.func22,Tryz.ntmps22;go_wp2_with fail;go_loopw [3] (fun u wr=>∃(a:Nat) (v:Value) (L:List Nd) (ov:List (Rl×Value)) (f:Nat),E.l.length<f+a/\Hid (AtR E z w0 wr b tv a v L u ov)/\Hid (R0=rlG (exN E) E f a (ov.map (·.1)))) (fun _ wr=>E.l.length - nxt b wr)
 case atStart=>exact ⟨0,_,_,_,_,by omega,HA,HR0⟩
 case round =>
  obtain ⟨a,v,L,ov,f,hfa,HW,HR⟩:=hrel;clear HA HR0;have ha:=HW.s.hi;obtain ⟨f,rfl⟩:∃g,f=g+1:=⟨f - 1,by omega⟩;obtain ⟨t,ht,hk,hpl,hta⟩:=zav E z ha;clear hta;have HH:Hid (∀_:Unit,Cl 33 #[.pointer (some ⟨b,0,none⟩)] wr (rB wr (.agg #[.int .i64 t.kd,.int .i64 t.nn,.int .i64 t.fr,.int .i64 t.en,.string t.tx,.int .u64 t.s0,.int .u64 t.s1,.int .u64 t.s2,.int .u64 t.s3]))):=fun _=>zay HW.s _ ht
  have fl0:=ziR;have HG:Hid (R0=if a<E.l.length then (if ruB E a=true then (match exN E (a+2) with
   | .inr q=>.inr q
   | .inl p=>rlG (exN E) E f p.1 (ov.map (·.1)++[(a,(tkA E a).tx,p.2)])) else .inr (a,60)) else .inl (ov.map (·.1))):=by
   show R0=_
   rw [HR.out,rlG]
   all_goals
    split
    ·split
     ·cases exN E (a+2) <;> rfl
     ·rfl
    ·rfl
  by_cases hlt:a<E.l.length
  ·have t1:(t.kd != 0)=true:=by rw [hk];simpa using HK a hlt
   by_cases hru:ruB E a=true
   ·cases hx:exN E (a+2) with
    | inr q =>
     have HV:Hid (R0=.inr q):=by
      show R0=_
      rw [HG.out,iP hlt,iP hru,hx]
     have HRu:Hid (∀W,AtR E z w0 W b tv a v L u3 ov->Cl 36 #[.pointer (some ⟨b,0,none⟩)] W fun e W'=>e=pnc (plA E z q.1) q.2/\bW w0 W'):=fun W h=>rule_x HE.out HVB h.s hru q hx
     clear HR HG ht hk hpl hru hx;go_wp2_with fail;refine (HH ()).mono ?_;rintro e w1 ⟨rfl,hb⟩;have H1:=hO (HW.later hb);clear hb HH;go_wp2_with fail;refine (HRu _ H1.out).mono ?_;rintro e w2 ⟨rfl,hb⟩;exact zah (P:=Tryz.prog) (fn:=Tryz.f22) rfl (by show RlV E z w0 R0 _ _;rw [HV.out];exact ⟨rfl,hb⟩)
    | inl p =>
     obtain ⟨a2,ns⟩:=p;have hadv:=zes (zeU hru) hx;have hnm:=fun hq=>zoL (E:=E) hx hq
     have HV:Hid (R0=rlG (exN E) E f a2 (ov.map (·.1)++[(a,(tkA E a).tx,ns)])):=by
      show R0=_
      rw [HG.out,iP hlt,iP hru,hx]
     have HRu:Hid (∀W,AtR E z w0 W b tv a v L u3 ov->Cl 36 #[.pointer (some ⟨b,0,none⟩)] W fun e W'=>∃v',e=.returned (.agg #[.int .i64 (plA E z a),.string (tkA E a).tx,v'])/\RS E z w0 W' b tv a2 0 v' ns/\Fr W W' b (.slice none 0 0) v'):=fun W h=>zph HE.out HVB h.s hru a2 ns hx
     have HNm:=hO hnm;have hn:=HW.n;have HNx:Hid (nxt b wr=a):=HW.s.nx;clear HR HG ht hk hpl hru hx hnm;go_wp2_with fail;refine (HH ()).mono ?_;rintro e w1 ⟨rfl,hb⟩;have H1:=hO (HW.later hb);clear hb HH HW;go_wp2_with fail;refine (HRu _ H1.out).mono ?_;rintro e w2 ⟨v2,rfl,h2,hf2⟩;obtain ⟨A2,n2,rfl⟩:=zaf h2.o;have H2:=hO h2;have HK2:=hO (H1.read hf2);have hO:=HK2.1;have hs2:=h2.bl.size;clear h2 hf2 H1 HRu;generalize hpa:plA E z a=p0 at *;generalize htx:(tkA E a).tx=tx0 at *;go_wp2_with (at_builtin;refine wpList_append_lies _ rfl _ _ 54 rfl w0.heap.size 59 i0 (.agg #[.int .i64 0,.string ⟨#[]⟩,.slice none 0 0]) 3 48 Tryz.underlying54 hinf hz0 hz1 hz2 rfl (by decide) _ _ _ rfl (hO.alloc _) ⟨w2.heap.size,0,none⟩ 1 1 [.int .i64 p0,.string tx0,.slice A2 ns.length n2] rfl rfl ?c1 ?c2 (by decide) ?c3 ?c4 ?c5 (w2.heap.size+1) (by simp) ?_)
     case c1=>exact World.news_of_block (cs:=#[.int .i64 p0,.string tx0,.slice A2 ns.length n2]) (t:=59) (fr:=(0,0)) (heap_alloc_new w2 _)
     case c2=>intro u hu;simp only [List.mem_cons,List.not_mem_nil,or_false] at hu;rcases hu with rfl | rfl | rfl <;> rfl
     case c3=>unfold maxLen;omega
     case c4=>omega
     case c5=>rw [sA];omega
     intro g3 cap w3 hown hgrow hat hlt3;have HW3:=(show Hid (AtR E z w0 w3 b tv a2 (.slice A2 ns.length n2) ns (.slice (some ⟨g3,0,none⟩) (ov.length+1) cap) (ov++[((a,tx0,ns),.slice A2 ns.length n2)])) from by
      have ha2:=hO.alloc (.cells #[.int .i64 p0,.string tx0,.slice A2 ns.length n2] 59);have hS:=(H2.later (zaa w2 (.cells #[.int .i64 p0,.string tx0,.slice A2 ns.length n2] 59))).gr ha2 hgrow;refine ⟨hS,?_,((HK2.2.1.later (zaa w2 _)).grow hgrow ha2 (by decide)).push _ hS.o HK2.2.2,by rw [lA,List.length_singleton];omega,HNm.out⟩;rw [lA,List.length_singleton,ziJ,zk3];unfold plV;rw [hpa];exact hown)
     have HV3:Hid (R0=rlG (exN E) E f a2 ((ov++[((a,tx0,ns),Value.slice A2 ns.length n2)]).map (·.1))):=by
      show R0=_
      rw [HV.out,List.map_append];rfl
     clear hown hgrow hat hlt3 H2 HK2 hO hpa htx HV;go_wp2_with fail;go_roundw
     case rel=>exact ⟨a2,_,_,_,f,by omega,HW3,HV3⟩
     case measure=>rw [HNx.out,HW3.s.nx];omega
   ·have hk1:¬kdA E a=1:=fun q=>hru (HW.nm q)
    have HV:Hid (R0=.inr (a,60)):=by
     show R0=_
     rw [HG.out,iP hlt,iN hru]
    have HRu:Hid (∀W,AtR E z w0 W b tv a v L u3 ov->Cl 36 #[.pointer (some ⟨b,0,none⟩)] W fun e W'=>e=pnc (plA E z a) 60/\bW w0 W'):=fun W h=>zpi h.s hk1
    clear HR HG ht hk hpl hru hk1;go_wp2_with fail;refine (HH ()).mono ?_;rintro e w1 ⟨rfl,hb⟩;have H1:=hO (HW.later hb);clear hb HH;go_wp2_with fail;refine (HRu _ H1.out).mono ?_;rintro e w2 ⟨rfl,hb⟩;exact zah (P:=Tryz.prog) (fn:=Tryz.f22) rfl (by show RlV E z w0 R0 _ _;rw [HV.out];exact ⟨rfl,hb⟩)
  ·have hae:a=E.l.length:=by omega
   have t1:(t.kd != 0)=false:=by rw [hk,hae,zjc];rfl
   have HV:Hid (R0=.inl (ov.map (·.1))):=by
    show R0=_
    rw [HG.out,iN hlt]
   clear HR HG ht hk hpl hae;go_wp2_with fail;refine (HH ()).mono ?_;rintro e w1 ⟨rfl,hb⟩;have H1:=hO (HW.later hb);clear hb HH;go_wp2_with fail;go_ret
   show RlV E z w0 R0 _ _
   rw [HV.out];exact ⟨_,ov,rfl,H1.o,H1.bd,rfl,H1.s.bl⟩
theorem PF_all (E:PE) (P:Nd->Prop) (h0:∀op,P (nd0 op)) (hs:∀i p,zgG E i=.inl p->P p.1) (hl:∀i p,zbw E i=.inl p->∀n∈p.1,P n) (hc:∀i p,zbw E i=.inr p->∀n∈p.2,P n):∀(f m i d a:Nat) (ns:List Nd),PF E f m i d=.inl (a,ns)->∀n∈ns,P n:=by
 have two:∀{x y:List Nd},(∀n∈x,P n)->(∀n∈y,P n)->∀n∈x++y,P n:=fun hx hy n hn=>(List.mem_append.1 hn).elim (hx n) (hy n)
 have one:∀op,∀n∈[nd0 op],P n:=fun op n hn=>by rw [List.mem_singleton.1 hn];exact h0 op
 have nil:∀n∈([]:List Nd),P n:=fun n hn=>by cases hn
 intro f
 induction f with
 | zero=>intro m i d a ns h;rw [PF] at h;cases h
 | succ f ih =>
  intro m i d a ns h;rw [PF] at h;by_cases m0:m=0
  ·rw [iP m0] at h
   obtain ⟨a1,n1,r1,h⟩:=zaO h;obtain ⟨n2,r2,e2⟩:=zaZ h;dsimp only at e2;rw [e2];exact two (ih _ _ _ _ _ r1) (ih _ _ _ _ _ r2)
  rw [iN m0] at h;by_cases m1:m=1
  ·rw [iP m1] at h
   by_cases k7:kdA E i=7
   ·rw [iP k7] at h
    obtain ⟨a1,n1,r1,h⟩:=zaO h;obtain ⟨n2,r2,e2⟩:=zaZ h;dsimp only at e2;rw [e2];exact two (two (ih _ _ _ _ _ r1) (one _)) (ih _ _ _ _ _ r2)
   ·rw [iN k7] at h
    cases h
    exact nil
  rw [iN m1] at h;by_cases m2:m=2
  ·rw [iP m2] at h
   obtain ⟨a1,n1,r1,h⟩:=zaO h;obtain ⟨n2,r2,e2⟩:=zaZ h;dsimp only at e2;rw [e2];exact two (ih _ _ _ _ _ r1) (ih _ _ _ _ _ r2)
  rw [iN m2] at h;by_cases m3:m=3
  ·rw [iP m3] at h
   by_cases kb:bgn E i=true
   ·rw [iP kb] at h
    obtain ⟨a1,n1,r1,h⟩:=zaO h;obtain ⟨n2,r2,e2⟩:=zaZ h;dsimp only at e2;rw [e2];exact two (two (ih _ _ _ _ _ r1) (one _)) (ih _ _ _ _ _ r2)
   ·rw [iN kb] at h
    cases h
    exact nil
  rw [iN m3] at h;by_cases m4:m=4
  ·rw [iP m4] at h
   by_cases kb:bgn E i=true
   ·rw [iP kb] at h
    by_cases k8:kdA E i=8∨kdA E i=9
    ·rw [iP k8] at h
     split at h
     ·cases h
     ·obtain ⟨a1,n1,r1,h⟩:=zaO h
      cases h
      exact two (ih _ _ _ _ _ r1) (one _)
    ·rw [iN k8] at h
     obtain ⟨a1,n1,r1,h⟩:=zaO h;obtain ⟨n2,r2,e2⟩:=zaZ h;dsimp only at e2;rw [e2];exact two (ih _ _ _ _ _ r1) (ih _ _ _ _ _ r2)
   ·rw [iN kb] at h;cases h
  rw [iN m4] at h;by_cases m5:m=5
  ·rw [iP m5] at h
   cases hp:zbw E i with
   | inl p =>
    rw [hp] at h
    cases h
    exact hl i p hp
   | inr p =>
    rw [hp] at h;dsimp only at h
    split at h
    ·cases h
    ·obtain ⟨a1,n1,r1,h⟩:=zaO h
     split at h
     ·cases h
      exact two (ih _ _ _ _ _ r1) (hc i p hp)
     ·cases h
  rw [iN m5] at h
  cases hp:zgG E i with
  | inr q =>
   rw [hp] at h
   cases q with
   | none=>cases h;exact nil
   | some c=>cases h
  | inl p =>
   rw [hp] at h;dsimp only at h;obtain ⟨n2,r2,e2⟩:=zaZ h;dsimp only at e2;rw [e2];exact two (fun n hn=>by rw [List.mem_singleton.1 hn];exact hs i p hp) (ih _ _ _ _ _ r2)
theorem zpj {E:PE} (hE:OkE E) (i:Nat):(tkA E i).tx.size<=65536:=by
 unfold tkA;by_cases h:i<E.l.length
 ·rw [gE h]
  exact hE.tx _ (List.getElem_mem h)
 ·rw [List.getElem?_eq_none (by omega)]
  exact Nat.zero_le _
theorem zh0 (op:Int):(nd0 op).tx.size<=65536:=Nat.zero_le _
theorem rnP_tx (a b:Int):∀n∈rnP a b,n.tx.size<=65536:=fun n hn=>by
 unfold rnP at hn;rw [List.mem_map] at hn;obtain ⟨m,_,rfl⟩:=hn;exact Nat.zero_le _
theorem zpk {E:PE} (hE:OkE E) {i a:Nat} {ns:List Nd} (h:exN E i=.inl (a,ns)):∀n∈ns,n.tx.size<=65536:=by
 refine PF_all E (fun n=>n.tx.size<=65536) zh0 ?_ ?_ ?_ _ _ _ _ _ _ h
 ·intro i p hp
  unfold zgG zja at hp;have e0:(⟨#[]⟩:ByteArray).size<=65536:=Nat.zero_le _;have hu:=zpj hE (i+1)
  repeat (split at hp;· cases hp;first | exact zh0 _ | exact e0)
  split at hp
  ·split at hp
   ·split at hp
    ·cases hp;exact hu
    ·cases hp
   ·split at hp
    ·split at hp
     ·cases hp
     ·cases hp;exact e0
    ·cases hp
  ·cases hp
 ·intro i p hp n hn
  have hu:=zpj hE i;unfold zbw at hp;rw [hE.rn] at hp;unfold zb2 at hp;have one:∀op,n∈[nd0 op]->n.tx.size<=65536:=fun op q=>by rw [List.mem_singleton.1 q];exact zh0 op
  by_cases c0:(tkA E i).kd=2
  ·rw [iP c0] at hp
   cases hp
   dsimp only at hn
   split at hn
   ·exact one _ hn
   ·rw [List.mem_singleton.1 hn];exact hu
  rw [iN c0] at hp;by_cases c1:(tkA E i).kd=3∨(tkA E i).kd=28
  ·rw [iP c1] at hp
   cases hp
   rw [List.mem_singleton.1 hn];exact Nat.zero_le _
  rw [iN c1] at hp;by_cases c2:(tkA E i).kd=5
  ·rw [iP c2] at hp
   cases hp
   exact rnP_tx _ _ n hn
  rw [iN c2] at hp;by_cases c3:(tkA E i).kd=18
  ·rw [iP c3] at hp;cases hp;exact one _ hn
  rw [iN c3] at hp;by_cases c4:(tkA E i).kd=29
  ·rw [iP c4] at hp;cases hp;exact one _ hn
  rw [iN c4] at hp;by_cases c5:(tkA E i).kd=30
  ·rw [iP c5] at hp;cases hp;exact one _ hn
  rw [iN c5] at hp;by_cases c6:(tkA E i).kd=1
  ·rw [iP c6] at hp;cases hp;rw [List.mem_singleton.1 hn];exact hu
  rw [iN c6] at hp;by_cases c7:(tkA E i).kd=16
  ·rw [iP c7] at hp;cases hp
  rw [iN c7] at hp;by_cases c8:(tkA E i).kd=19
  ·rw [iP c8] at hp
   split at hp
   ·cases hp;exact one _ hn
   ·cases hp
  rw [iN c8] at hp
  split at hp
  ·cases hp
  ·split at hp <;> cases hp
 ·intro i p hp n hn
  have hu:=zpj hE i;unfold zbw zb2 at hp;have one:∀op,n∈[nd0 op]->n.tx.size<=65536:=fun op q=>by rw [List.mem_singleton.1 q];exact zh0 op
  by_cases c0:(tkA E i).kd=2
  ·rw [iP c0] at hp;cases hp
  rw [iN c0] at hp;by_cases c1:(tkA E i).kd=3∨(tkA E i).kd=28
  ·rw [iP c1] at hp;cases hp
  rw [iN c1] at hp;by_cases c2:(tkA E i).kd=5
  ·rw [iP c2] at hp;cases hp
  rw [iN c2] at hp;by_cases c3:(tkA E i).kd=18
  ·rw [iP c3] at hp;cases hp
  rw [iN c3] at hp;by_cases c4:(tkA E i).kd=29
  ·rw [iP c4] at hp;cases hp
  rw [iN c4] at hp;by_cases c5:(tkA E i).kd=30
  ·rw [iP c5] at hp;cases hp
  rw [iN c5] at hp;by_cases c6:(tkA E i).kd=1
  ·rw [iP c6] at hp;cases hp
  rw [iN c6] at hp;by_cases c7:(tkA E i).kd=16
  ·rw [iP c7] at hp;cases hp;cases hn
  rw [iN c7] at hp;by_cases c8:(tkA E i).kd=19
  ·rw [iP c8] at hp
   split at hp
   ·cases hp
   ·cases hp;exact one _ hn
  rw [iN c8] at hp;by_cases c9:(tkA E i).kd=21
  ·rw [iP c9] at hp;cases hp;rw [List.mem_singleton.1 hn];exact hu
  rw [iN c9] at hp
  split at hp
  ·cases hp;exact one _ hn
  ·cases hp;exact one _ hn
theorem rlG_tx {E:PE} (hE:OkE E):∀(f i:Nat) (out rs:List Rl),(∀r∈out,∀n∈r.2.2,n.tx.size<=65536)->rlG (exN E) E f i out=.inl rs->∀r∈rs,∀n∈r.2.2,n.tx.size<=65536:=by
 intro f
 induction f with
 | zero=>intro i out rs h0 h;rw [rlG] at h;cases h;exact h0
 | succ f ih =>
  intro i out rs h0 h;rw [rlG] at h;by_cases hi:i<E.l.length
  ·rw [iP hi] at h
   by_cases hr:ruB E i=true
   ·rw [iP hr] at h
    cases he:exN E (i+2) with
    | inr p=>rw [he] at h;cases h
    | inl p =>
     rw [he] at h;refine ih _ _ _ (fun r hr2=>?_) h
     rcases List.mem_append.1 hr2 with q | q
     ·exact h0 r q
     ·rw [List.mem_singleton.1 q];exact zpk hE he
   ·rw [iN hr] at h;cases h
  ·rw [iN hi] at h;cases h;exact h0
theorem zk5 {E:PE} (hE:OkE E) {rs:List Rl} (h:rdN E=.inl rs):∀r∈rs,∀n∈r.2.2,n.tx.size<=65536:=by
 unfold rdN at h
 split at h
 ·exact rlG_tx hE _ _ _ _ (fun r hr=>by cases hr) h
 ·cases he:exN E 0 with
  | inr p=>rw [he] at h;cases h
  | inl p =>
   rw [he] at h;dsimp only at h
   split at h
   ·cases h
   ·cases h
    intro r hr;rw [List.mem_singleton.1 hr];exact zpk hE he
structure GX (W:World) (k:Nat) (a:Value):Prop where
 heap:W.heap[k]?=some (.cells #[a] 24 (0,0))
theorem GX.lt {W:World} {k:Nat} {a:Value} (h:GX W k a):k<W.heap.size:=(Array.getElem?_eq_some_iff.1 h.heap).1
theorem GX.same {W W':World} {k:Nat} {a:Value} (h:GX W k a) (hb:W'.heap[k]?=W.heap[k]?):GX W' k a:=⟨hb.trans h.heap⟩
theorem GX.below {W W':World} {k:Nat} {a:Value} (h:GX W k a) (hb:bW W W'):GX W' k a:=h.same (hb.block k h.lt)
theorem GX.cl {W:World} {k:Nat} {a:Value} (h:GX W k a):W.cell? ⟨k,0,none⟩=some a:=by
 rw [cell_of_row W k 0 _ 24 (0,0) h.heap];rfl
theorem GX.fz {W:World} {k:Nat} {a:Value} (h:GX W k a):W.frozen? ⟨k,0,none⟩=false:=frozen_of_row W k 0 _ 24 h.heap
theorem GX.set {W:World} {k:Nat} {a:Value} (h:GX W k a) (u:Value):GX (W.setCell ⟨k,0,none⟩ u) k u:=⟨by
 rw [heap_setCell_same _ k 0 _ 24 u h.heap];simp⟩
theorem GX.ne {W:World} {k B e s n:Nat} {u a:Value} {xs:List Value} (h:GX W k a) (ho:W.ownsRow B e s u n xs) (he:e≠24) {j:Nat} (hj:u.ownBlock=some j):j≠k:=fun q=>by
 subst q;obtain ⟨cs,hc⟩:=zd0 ho hj;rw [h.heap] at hc
 injection hc with h4
 injection h4 with _ h5
 exact he h5.symm
theorem Tryz.info41:(Tryz.prog.info? 57).map (fun i=>(i.zero,i.size,i.bytes))=some (some (.agg #[.string ⟨#[]⟩,.slice none 0 0]),2,40):=by kernel_rfl
def grV (x:Rl×Value):List Value:=[.string x.1.2.1,x.2]
def grc (l:List (Rl×Value)):List Value:=l.flatMap grV
theorem zfl (a b:List (Rl×Value)):grc (a++b)=grc a++grc b:=List.flatMap_append
theorem zk6 (x:Rl×Value):grc [x]=grV x:=by unfold grc;rw [List.flatMap_cons,List.flatMap_nil,List.append_nil]
theorem zpl (E:PE) (z:Nat) (L:List (Rl×Value)):∀(k j:Nat) (x:Rl×Value) (u:Value),L[k]?=some x->(plV E z x)[j]?=some u->(plc E z L)[k * 3+j]?=some u:=by
 induction L with
 | nil=>intro k j t u h;simp at h
 | cons a L ih =>
  intro k j t u h hj;have e:plc E z (a::L)=plV E z a++plc E z L:=by unfold plc;rw [List.flatMap_cons]
  have hl:(plV E z a).length=3:=rfl;rw [e]
  cases k with
  | zero =>
   have h:a=t:=by simpa using h
   subst h;rw [Nat.zero_mul,Nat.zero_add,List.getElem?_append_left (by have:=(List.getElem?_eq_some_iff.1 hj).1;omega)];exact hj
  | succ k =>
   rw [List.getElem?_append_right (by omega),hl,show (k+1) * 3+j - 3=k * 3+j from by omega];exact ih k j t u (by simpa using h) hj
theorem znt {E:PE} {z:Nat} {W:World} {B:Nat} {u:Value} {ov:List (Rl×Value)} (h:W.ownsRow B 59 3 u ov.length (plc E z ov)):∃A c,u=.slice A ov.length c/\∀(k:Nat) x,ov[k]?=some x->∃g,A=some ⟨g,0,none⟩/\g<W.heap.size/\W.cell? ⟨g,k * 3,none⟩=some (.int .i64 (plA E z x.1.1))/\W.cell? ⟨g,k * 3+1,none⟩=some (.string x.1.2.1)/\W.cell? ⟨g,k * 3+2,none⟩=some x.2:=by
 have hc:=h
 rcases h.2 with ⟨rfl,h0⟩ | ⟨g,cap,cur,rfl,_⟩
 ·refine ⟨none,0,by rw [h0],fun k x hk=>?_⟩
  rw [List.eq_nil_of_length_eq_zero h0] at hk;simp at hk
 ·refine ⟨_,cap,rfl,fun k x hk=>⟨g,rfl,(hc.lt g rfl).2,?_⟩⟩
  have key:∀j u,(plV E z x)[j]?=some u->W.cell? ⟨g,k * 3+j,none⟩=some u:=fun j u hj=>by
   have:=(hc.cells (g:=g) rfl) (k * 3+j) u (zpl E z ov k j x u hk hj)
   rwa [Addr.add_lit,Nat.zero_add] at this
  exact ⟨key 0 _ rfl,key 1 _ rfl,key 2 _ rfl⟩
def smN (ov:List (Rl×Value)) (k:Nat):Nat:=((ov.take k).map fun x=>x.1.2.2.length).sum
theorem zeo {ov:List (Rl×Value)} {k:Nat} {x:Rl×Value} (h:ov[k]?=some x):smN ov (k+1)=smN ov k+x.1.2.2.length:=by
 unfold smN;rw [List.take_add_one,h,List.map_append,List.sum_append];simp
structure AtO (w0 W wr:World) (gv:Value) (ov:List (Rl×Value)) (k:Nat):Prop where
 b:bW W wr
 r:GX wr W.heap.size (.slice none 0 0)
 x:GX wr (W.heap.size+1) gv
 o:wr.ownsRow W.heap.size 57 2 gv k (grc (ov.take k))
theorem AtO.later {w0 W wr W':World} {gv:Value} {ov:List (Rl×Value)} {k:Nat} (h:AtO w0 W wr gv ov k) (hb:bW wr W'):AtO w0 W W' gv ov k :=
 ⟨h.b.trans (hb.mono h.b.size),h.r.below hb,h.x.below hb,zf1 h.o hb⟩
def GrV (_w0 W:World) (ov:List (Rl×Value)) (r:Option (Int×Int)) (e:Ending) (W':World):Prop:=match r with
 | some p=>e=pnc p.1 p.2/\bW W W'
 | none=>∃u,e=.returned (.agg #[u])/\W'.ownsRow W.heap.size 57 2 u ov.length (grc ov)/\bW W W'
theorem ret_gx {fn:Func} {R:Ending->World->Prop} {act:Act} {W:World} {k:Nat} {a:Value} (hF:fn.results=#[.cell 2 24]) (hd:act.defers=[]) (h2:act.tmps.getD 2 undef=.pointer (some ⟨k,0,none⟩)) (hT:GX W k a) (hR:R (.returned (.agg #[a])) W):bodyPost Tryz.prog fn R .ret act W:=by
 have c0:=hT.cl;refine bodyPost_ret (v:=.agg #[a]) ?_ hd hR;simp only [Array.getD_eq_getD_getElem?] at h2;simp [results,hF,go_sem,h2,c0]
theorem ze5 {E:PE} {z:Nat} {w0 W:World} {u:Value} {ov:List (Rl×Value)} (ho:W.ownsRow w0.heap.size 59 3 u ov.length (plc E z ov)) (x:Rl×Value) (hx:ov[200]?=some x) (hn:ov.length<=65536):Cl 21 #[u] W fun e W'=>e=pnc (plA E z x.1.1) 2/\bW W W':=by
 obtain ⟨A,c,rfl,hc⟩:=znt ho;obtain ⟨g,rfl,hlt,e0,e1,e2⟩:=hc 200 x hx;have hl:200<ov.length:=(List.getElem?_eq_some_iff.1 hx).1;have HU:Hid (∀a c W,Cl 32 #[.int .i64 a,.int .i64 c] W fun e W'=>e=pnc a c/\W'=W):=fun a c W=>zcZ a c W
 have z1:(200:Int)<(ov.length:Int):=by omega
 have HB:Hid (bW W (W.alloc (.cells #[.slice none 0 0] 24))):=zaa _ _;have e0':=(HB.cell (p:=⟨g,200 * 3,none⟩) hlt).trans e0;clear ho hc hx e0 e1 e2 hl;generalize plA E z x.1.1=p0 at *;generalize ov.length=n at *;go_enter Tryz.func21,Tryz.ntmps21;go_wp2_with fail;generalize W.alloc (.cells #[.slice none 0 0] 24)=w1 at *;go_wp2_with fail;refine (HU _ _ _).mono ?_;rintro e w2 ⟨rfl,rfl⟩;exact zah rfl ⟨rfl,HB.out⟩
theorem zfW {E:PE} {z:Nat} {w0 W:World} {u:Value} {ov:List (Rl×Value)} (ho:W.ownsRow w0.heap.size 59 3 u ov.length (plc E z ov)) (hb:Bds w0 W ov) (htx:∀x∈ov,∀n∈x.1.2.2,n.tx.size<=65536) (hln:∀x∈ov,x.1.2.2.length<=2000000000000) (hn:ov.length<=200):Cl 21 #[u] W fun e W'=>GrV w0 W ov (zd4 E z 0 (ov.map (·.1))) e W':=by
 obtain ⟨i0,hinf,hz0,hz1,hz2⟩:=info_parts Tryz.info41;obtain ⟨A,c,rfl,hc⟩:=znt ho;have HC:=hO hc;have HBd:=hO hb;have HTx:=hO htx;have HLn:=hO hln;have HG:Hid (∀k,k<ov.length->∃x,ov[k]?=some x/\x∈ov):=fun k hk=>⟨_,gE hk,List.getElem_mem hk⟩
 have HU:Hid (∀a c W,Cl 32 #[.int .i64 a,.int .i64 c] W fun e W'=>e=pnc a c/\W'=W):=fun a c W=>zcZ a c W
 have HA:=(show Hid (AtO w0 W ((W.alloc (.cells #[.slice none 0 0] 24)).alloc (.cells #[.slice none 0 0] 24)) (.slice none 0 0) ov 0) from
  ⟨((bR _ _).alloc (nL _) _).alloc (by rw [sA];omega) _,(GX.mk (heap_alloc_new W _)).below (zaa _ _),⟨by have h:=heap_alloc_new (W.alloc (.cells #[.slice none 0 0] 24)) (.cells #[.slice none 0 0] 24);rw [sA] at h;exact h⟩,World.ownsRow_nil _ _ _ _⟩)
 have z2:¬(200:Int)<(ov.length:Int):=by omega
 have HZ0:Hid (zd4 E z 0 (ov.map (·.1))=zd4 E z (smN ov 0) ((ov.drop 0).map (·.1))):=rfl;generalize zd4 E z 0 (ov.map (·.1))=R0 at *;clear ho hb htx hln hc;go_enter Tryz.func21,Tryz.ntmps21;go_wp2_with fail;generalize (W.alloc (.cells #[.slice none 0 0] 24)).alloc (.cells #[.slice none 0 0] 24)=w1 at *;go_loopw [4,19] (fun s t wr=>∃(k:Nat) (gv:Value),k<=ov.length/\smN ov k<=2048/\s=.int .i64 (smN ov k:Nat)/\t=.int .i64 k/\Hid (AtO w0 W wr gv ov k)/\Hid (R0=zd4 E z (smN ov k) ((ov.drop k).map (·.1)))) (fun _ t _=>ov.length - (intOf t).toNat)
 case atStart=>exact ⟨0,_,Nat.zero_le _,Nat.zero_le _,rfl,rfl,HA,HZ0⟩
 case round =>
  obtain ⟨k,gv,hk,hsm,rfl,rfl,HW,HR⟩:=hrel;clear HA HZ0;by_cases hlt:k<ov.length
  ·obtain ⟨x,hx,hxm⟩:=HG k hlt
   obtain ⟨g,rfl,hglt,e0,e1,e2⟩:=HC k x hx;have hb1:=HBd.e x hxm;obtain ⟨A2,n2,hv2⟩:=zaf hb1;have HSz:Hid (R0=if (T.ck x.1.2.2).2≠0 then some (plA E z x.1.1,(T.ck x.1.2.2).2) else if 2048<smN ov k+x.1.2.2.length then some (plA E z x.1.1,2) else zd4 E z (smN ov (k+1)) ((ov.drop (k+1)).map (·.1))):=by
    show R0=_
    rw [HR.out,List.drop_eq_getElem_cons hlt,show ov[k]=x from (List.getElem?_eq_some_iff.1 hx).2,List.map_cons,zd4,zeo hx]
   have hsm1:=zeo hx;obtain ⟨m1,hm1⟩:∃m,m=smN ov (k+1):=⟨_,rfl⟩;rw [<-hm1] at hsm1 HSz;have HTk:Hid (grc (ov.take (k+1))=grc (ov.take k)++[.string x.1.2.1,x.2]):=by show grc _=_;rw [List.take_add_one,hx,zfl];show _++grc [x]=_;rw [zk6];rfl
   have HCk:Hid (∀W2,bW W W2->Cl 35 #[.slice A2 x.1.2.2.length n2] W2 (rB W2 (.tuple #[.int .i64 (T.ck x.1.2.2).1,.int .i64 (T.ck x.1.2.2).2]))):=fun W2 hW2=>by
    have hrow:=zaj (W':=W2) hb1 fun j hj=>hW2.block j (hb1.lt j hj).2
    rw [hv2] at hrow;obtain ⟨A3,c3,e3,hrd⟩:=T.zhY hrow rfl
    cases e3
    exact T.zf7 _ _ _ (by have:=HLn x hxm;omega) (fun n hn=>by have:=HTx x hxm n hn;omega) W2 hrd
   have hlx:=HLn x hxm;rw [hv2] at e2 HTk;have d0:=(HW.b.cell (p:=⟨g,k * 3,none⟩) hglt).trans e0;have d1:=(HW.b.cell (p:=⟨g,k * 3+1,none⟩) hglt).trans e1;have d2:=(HW.b.cell (p:=⟨g,k * 3+2,none⟩) hglt).trans e2;clear e0 e1 e2 hx hxm hb1 hv2 HG HR HBd HTx HLn HC;generalize T.ck x.1.2.2=r at *;generalize x.1.2.2.length=nl at *;generalize x.1.2.1=nm at *;generalize plA E z x.1.1=p0 at *;have z0:(0:Int)<=(k:Int):=by omega
   have z1:(k:Int)<(ov.length:Int):=by omega
   have hsz:=HW.b.size;have HB1:Hid (AtO w0 W (wr.alloc (.cells #[.int .i64 p0,.string nm,.slice A2 nl n2] 59)) gv ov k/\PX (wr.alloc (.cells #[.int .i64 p0,.string nm,.slice A2 nl n2] 59)) wr.heap.size (.int .i64 p0) (.string nm) (.slice A2 nl n2)):=⟨HW.later (zaa _ _),⟨heap_alloc_new wr _⟩⟩;go_wp2_with fail;refine (HCk _ HB1.1.b).mono ?_;rintro e w2 ⟨rfl,hb2⟩;have HB2:Hid (AtO w0 W w2 gv ov k/\PX w2 wr.heap.size (.int .i64 p0) (.string nm) (.slice A2 nl n2)):=⟨HB1.1.later hb2,HB1.2.same (hb2.block _ HB1.2.lt)⟩;clear hb2 HB1 HCk d0 d1 d2 HW;obtain ⟨y0,y1,y2⟩:=HB2.2.cl;by_cases hr2:r.2=0
   ·have t1:(r.2 != 0)=false:=by rw [hr2];rfl
    have u1:IntKind.i64.wrap ((smN ov k:Nat)+(nl:Int))=(m1:Int):=by rw [wI];omega
    by_cases h48:2048<m1
    ·have HV:Hid (R0=some (p0,2)):=by show R0=_;rw [HSz.out,iN (by rw [hr2];simp),iP (by omega)]
     have t2:(2048:Int)<(m1:Int):=by omega
     clear HSz hr2 hsm1 hm1 HTk;generalize smN ov k=s0 at *;go_wp2_with fail;refine (HU _ _ _).mono ?_;rintro e w3 ⟨rfl,rfl⟩;exact zah (P:=Tryz.prog) (fn:=Tryz.f21) rfl (by show GrV w0 W ov R0 _ _;rw [HV.out];exact ⟨rfl,HB2.1.b⟩)
    ·have HV:Hid (R0=zd4 E z m1 ((ov.drop (k+1)).map (·.1))):=by show R0=_;rw [HSz.out,iN (by rw [hr2];simp),iN (by omega)]
     have t2:¬(2048:Int)<(m1:Int):=by omega
     have hO:=HB2.1.o;have q0:=HB2.1.x.cl;have qf:=HB2.1.x.fz;have HM:Hid (m1=smN ov (k+1)):=hm1;clear HSz hr2 hsm1 hm1;generalize hs0:smN ov k=s0 at *;clear hs0;have hs2:=HB2.1.b.size;go_wp2_with (at_builtin;refine wpList_append_lies _ rfl _ _ 22 rfl W.heap.size 57 i0 (.agg #[.string ⟨#[]⟩,.slice none 0 0]) 2 40 Tryz.underlying22 hinf hz0 hz1 hz2 rfl (by decide) _ _ _ rfl (hO.alloc _) ⟨w2.heap.size,0,none⟩ 1 1 [.string nm,.slice A2 nl n2] rfl rfl ?c1 ?c2 (by decide) ?c3 ?c4 ?c5 (w2.heap.size+1) (by simp) ?_)
     case c1=>exact World.news_of_block (cs:=#[.string nm,.slice A2 nl n2]) (t:=57) (fr:=(0,0)) (heap_alloc_new w2 _)
     case c2=>intro u hu;simp only [List.mem_cons,List.not_mem_nil,or_false] at hu;rcases hu with rfl | rfl <;> rfl
     case c3=>unfold maxLen;omega
     case c4=>omega
     case c5=>rw [sA];omega
     intro g3 cap w3 hown hgrow hat hlt3;have hA2:=HB2.1.later (zaa w2 (.cells #[.string nm,.slice A2 nl n2] 57));have hO2:=hO.alloc (.cells #[.string nm,.slice A2 nl n2] 57);have hx3:GX w3 (W.heap.size+1) gv:=hA2.x.same (hgrow.block _ hA2.x.lt (fun e=>hA2.x.ne hO2 (by decide) e.symm rfl));have hr3:GX w3 W.heap.size (.slice none 0 0):=hA2.r.same (hgrow.block _ hA2.r.lt (fun e=>hA2.r.ne hO2 (by decide) e.symm rfl));have hbl3:bW W w3:=hA2.b.grown hgrow hA2.b.size (fun j e=>(hO2.lt j e).1);have HW3:=(show Hid (AtO w0 W (w3.setCell ⟨W.heap.size+1,0,none⟩ (.slice (some ⟨g3,0,none⟩) (k+1) cap)) (.slice (some ⟨g3,0,none⟩) (k+1) cap) ov (k+1)) from
      ⟨hbl3.setCell (p:=⟨W.heap.size+1,0,none⟩) (Nat.le_succ _) _,hr3.same (bS _ _ _ _ (by show W.heap.size≠W.heap.size+1;omega)),hx3.set _,by
       rw [HTk.out];exact zaj hown fun j hj=>bS _ _ _ _ (hx3.ne hown (by decide) hj)⟩)
     have q3:=hx3.cl;have qf3:=hx3.fz;clear hown hgrow hat hlt3 hA2 hO2 hx3 hr3 hbl3 hO HB2 q0 qf y0 y1 y2 HTk;go_wp2_with fail;go_roundw
     case rel=>exact ⟨k+1,_,by omega,by rw [<-HM.out];omega,by rw [<-HM.out],by go_num,HW3,by rw [<-HM.out];exact HV⟩
     case measure=>simp [intOf];omega
   ·have t1:(r.2 != 0)=true:=by simpa using hr2
    have HV:Hid (R0=some (p0,r.2)):=by show R0=_;rw [HSz.out,iP hr2]
    clear HSz hr2 hsm1 hm1 HTk;generalize smN ov k=s0 at *;go_wp2_with fail;refine (HU _ _ _).mono ?_;rintro e w3 ⟨rfl,rfl⟩;exact zah (P:=Tryz.prog) (fn:=Tryz.f21) rfl (by show GrV w0 W ov R0 _ _;rw [HV.out];exact ⟨rfl,HB2.1.b⟩)
  ·obtain rfl:k=ov.length:=by omega
   have HV:Hid (R0=none):=by show R0=_;rw [HR.out,List.drop_of_length_le (nL _)];rfl
   have HO:Hid (wr.ownsRow W.heap.size 57 2 gv ov.length (grc ov)):=by have:=HW.o;rw [List.take_of_length_le (nL _)] at this;exact this
   have q0:=HW.x.cl;have r0:=HW.r.cl;have rf:=HW.r.fz;obtain ⟨A3,n3,rfl⟩:=zaf HO.out;clear HG HR HBd HTx HLn HC;generalize smN ov ov.length=s0 at *;go_wp2_with fail;refine ret_gx rfl rfl rfl (HW.r.set (.slice A3 ov.length n3)) ?_
   show GrV w0 W ov R0 _ _
   rw [HV.out];exact ⟨_,rfl,zaj HO fun j hj=>bS _ _ _ _ (HW.r.ne HO (by decide) hj),HW.b.setCell (p:=⟨W.heap.size,0,none⟩) (nL _) _⟩
end Go.Proofs.YtkihfkcmcdiajabGreatDoor.N
