import Derived.Test.YtkihfkcmcdiajabGreatDoorPo11
set_option maxRecDepth 100000
set_option maxHeartbeats 8000000
namespace Go.Proofs.YtkihfkcmcdiajabGreatDoor
open Go.RowKit
theorem zma (w:World) :
  Cl 66 #[.int .i64 97] w (rB w (.tuple #[sv (spn 65 90 ||| spn 97 122),.int .i64 0])):=by
 have HH:=hO (Holds.zero w);have HR:=hO (zaN w z4);go_enter Tryz.func66,Tryz.ntmps66;go_wp2_with fail;refine (zad 97 122 _ (by omega) (by omega) (by omega)).mono ?_;rintro e w1 ⟨rfl,hb1⟩;go_wp2_with fail;refine (zad 65 90 _ (by omega) (by omega) (by omega)).mono ?_;rintro e w2 ⟨rfl,hb2⟩;go_wp2_with fail;refine (zad 48 57 _ (by omega) (by omega) (by omega)).mono ?_;rintro e w3 ⟨rfl,hb3⟩;go_wp2_with fail;refine (zas _ _ _).mono ?_;rintro e w4 ⟨rfl,hb4⟩;have hq:=zbc w w1 w2 w3 w4 (spn 97 122) (spn 65 90) (spn 48 57) hb1 hb2 hb3 hb4;clear hb1 hb2 hb3 hb4;obtain ⟨hl3,hl4,HR4,H0,H6,H7,H8⟩:=hq;obtain ⟨l0,c00,c01,c02,c03,f00,f01,f02,f03⟩:=H0.out;go_wp2
 have HRf:=HR4;refine bodyPost_ret (v:=.tuple #[sv ((spn 97 122 ||| spn 65 90)),.int .i64 0]) (by simp [results,Tryz.results66,go_sem, *]) rfl ⟨?_,?_⟩
 ·exact congrArg (fun q=>Ending.returned (.tuple #[sv q,.int .i64 0])) (BitVec.or_comm _ _)
 ·repeat (first | exact HRf.out | (refine Below.setCell ?_ (by first | omega | (simp <;> omega)) _) | (refine Below.alloc ?_ (by first | omega | (simp <;> omega)) _))
theorem zmb (w:World) :
  Cl 66 #[.int .i64 99] w (rB w (.tuple #[sv (spn 0 31 ||| bt 127),.int .i64 0])):=by
 have HH:=hO (Holds.zero w);have HR:=hO (zaN w z4);go_enter Tryz.func66,Tryz.ntmps66;go_wp2_with fail;refine (zad 97 122 _ (by omega) (by omega) (by omega)).mono ?_;rintro e w1 ⟨rfl,hb1⟩;go_wp2_with fail;refine (zad 65 90 _ (by omega) (by omega) (by omega)).mono ?_;rintro e w2 ⟨rfl,hb2⟩;go_wp2_with fail;refine (zad 48 57 _ (by omega) (by omega) (by omega)).mono ?_;rintro e w3 ⟨rfl,hb3⟩;go_wp2_with fail;refine (zas _ _ _).mono ?_;rintro e w4 ⟨rfl,hb4⟩;have hq:=zbc w w1 w2 w3 w4 (spn 97 122) (spn 65 90) (spn 48 57) hb1 hb2 hb3 hb4;clear hb1 hb2 hb3 hb4;obtain ⟨hl3,hl4,HR4,H0,H6,H7,H8⟩:=hq;have HQ:Hid (Below (w4.heap.size+1) (w4.alloc (c4 (spn 97 122 ||| spn 65 90))) (w4.alloc (c4 (spn 97 122 ||| spn 65 90)))):=bR _ _;go_wp2_with fail;refine (zad 0 31 _ (by omega) (by omega) (by omega)).mono ?_;rintro e w5 ⟨rfl,hb⟩
 replace HQ:=(show Hid _ from HQ.trans (hb.mono (by first | exact HQ.size | (have h:=HQ.size;simp at h;omega) | simp)))
 go_wp2_with fail;refine (zby _ 127 _ (by omega) (by omega)).mono ?_;rintro e w5 ⟨rfl,hb⟩
 replace HQ:=(show Hid _ from HQ.trans (hb.mono (by first | exact HQ.size | (have h:=HQ.size;simp at h;omega) | simp)))
 rw [show (127:Int).toNat=127 from rfl];have HR5:=hO ((HR4.alloc (by omega) (c4 (spn 97 122 ||| spn 65 90))).trans (HQ.mono (by omega)));obtain ⟨l0,c00,c01,c02,c03,f00,f01,f02,f03⟩:=(H0.alloc (c4 (spn 97 122 ||| spn 65 90))).below HQ (by have h:=H0.lt;omega);clear hb;go_wp2
 have HRf:=HR5;refine bodyPost_ret (v:=.tuple #[sv (spn 0 31 ||| bt 127),.int .i64 0]) (by simp [results,Tryz.results66,go_sem, *]) rfl ⟨?_,?_⟩
 ·rfl
 ·repeat (first | exact HRf.out | (refine Below.setCell ?_ (by first | omega | (simp <;> omega)) _) | (refine Below.alloc ?_ (by first | omega | (simp <;> omega)) _))
theorem zjZ (w:World) :
  Cl 66 #[.int .i64 100] w (rB w (.tuple #[sv (spn 48 57),.int .i64 0])):=by
 have HH:=hO (Holds.zero w);have HR:=hO (zaN w z4);go_enter Tryz.func66,Tryz.ntmps66;go_wp2_with fail;refine (zad 97 122 _ (by omega) (by omega) (by omega)).mono ?_;rintro e w1 ⟨rfl,hb1⟩;go_wp2_with fail;refine (zad 65 90 _ (by omega) (by omega) (by omega)).mono ?_;rintro e w2 ⟨rfl,hb2⟩;go_wp2_with fail;refine (zad 48 57 _ (by omega) (by omega) (by omega)).mono ?_;rintro e w3 ⟨rfl,hb3⟩;go_wp2_with fail;refine (zas _ _ _).mono ?_;rintro e w4 ⟨rfl,hb4⟩;have hq:=zbc w w1 w2 w3 w4 (spn 97 122) (spn 65 90) (spn 48 57) hb1 hb2 hb3 hb4;clear hb1 hb2 hb3 hb4;obtain ⟨hl3,hl4,HR4,H0,H6,H7,H8⟩:=hq;obtain ⟨l0,c00,c01,c02,c03,f00,f01,f02,f03⟩:=H0.out;obtain ⟨l8,c80,c81,c82,c83,f80,f81,f82,f83⟩:=H8.out;go_wp2
 have HRf:=HR4;refine bodyPost_ret (v:=.tuple #[sv (spn 48 57),.int .i64 0]) (by simp [results,Tryz.results66,go_sem, *]) rfl ⟨?_,?_⟩
 ·rfl
 ·repeat (first | exact HRf.out | (refine Below.setCell ?_ (by first | omega | (simp <;> omega)) _) | (refine Below.alloc ?_ (by first | omega | (simp <;> omega)) _))
theorem zj0 (w:World) :
  Cl 66 #[.int .i64 103] w (rB w (.tuple #[sv (spn 33 126),.int .i64 0])):=by
 have HH:=hO (Holds.zero w);have HR:=hO (zaN w z4);go_enter Tryz.func66,Tryz.ntmps66;go_wp2_with fail;refine (zad 97 122 _ (by omega) (by omega) (by omega)).mono ?_;rintro e w1 ⟨rfl,hb1⟩;go_wp2_with fail;refine (zad 65 90 _ (by omega) (by omega) (by omega)).mono ?_;rintro e w2 ⟨rfl,hb2⟩;go_wp2_with fail;refine (zad 48 57 _ (by omega) (by omega) (by omega)).mono ?_;rintro e w3 ⟨rfl,hb3⟩;go_wp2_with fail;refine (zas _ _ _).mono ?_;rintro e w4 ⟨rfl,hb4⟩;have hq:=zbc w w1 w2 w3 w4 (spn 97 122) (spn 65 90) (spn 48 57) hb1 hb2 hb3 hb4;clear hb1 hb2 hb3 hb4;obtain ⟨hl3,hl4,HR4,H0,H6,H7,H8⟩:=hq;have HQ:Hid (Below (w4.heap.size+1) (w4.alloc (c4 (spn 97 122 ||| spn 65 90))) (w4.alloc (c4 (spn 97 122 ||| spn 65 90)))):=bR _ _;go_wp2_with fail;refine (zad 33 126 _ (by omega) (by omega) (by omega)).mono ?_;rintro e w5 ⟨rfl,hb⟩
 replace HQ:=(show Hid _ from HQ.trans (hb.mono (by first | exact HQ.size | (have h:=HQ.size;simp at h;omega) | simp)))
 have HR5:=hO ((HR4.alloc (by omega) (c4 (spn 97 122 ||| spn 65 90))).trans (HQ.mono (by omega)));obtain ⟨l0,c00,c01,c02,c03,f00,f01,f02,f03⟩:=(H0.alloc (c4 (spn 97 122 ||| spn 65 90))).below HQ (by have h:=H0.lt;omega);clear hb;go_wp2
 have HRf:=HR5;refine bodyPost_ret (v:=.tuple #[sv (spn 33 126),.int .i64 0]) (by simp [results,Tryz.results66,go_sem, *]) rfl ⟨?_,?_⟩
 ·rfl
 ·repeat (first | exact HRf.out | (refine Below.setCell ?_ (by first | omega | (simp <;> omega)) _) | (refine Below.alloc ?_ (by first | omega | (simp <;> omega)) _))
theorem zj1 (w:World) :
  Cl 66 #[.int .i64 108] w (rB w (.tuple #[sv (spn 97 122),.int .i64 0])):=by
 have HH:=hO (Holds.zero w);have HR:=hO (zaN w z4);go_enter Tryz.func66,Tryz.ntmps66;go_wp2_with fail;refine (zad 97 122 _ (by omega) (by omega) (by omega)).mono ?_;rintro e w1 ⟨rfl,hb1⟩;go_wp2_with fail;refine (zad 65 90 _ (by omega) (by omega) (by omega)).mono ?_;rintro e w2 ⟨rfl,hb2⟩;go_wp2_with fail;refine (zad 48 57 _ (by omega) (by omega) (by omega)).mono ?_;rintro e w3 ⟨rfl,hb3⟩;go_wp2_with fail;refine (zas _ _ _).mono ?_;rintro e w4 ⟨rfl,hb4⟩;have hq:=zbc w w1 w2 w3 w4 (spn 97 122) (spn 65 90) (spn 48 57) hb1 hb2 hb3 hb4;clear hb1 hb2 hb3 hb4;obtain ⟨hl3,hl4,HR4,H0,H6,H7,H8⟩:=hq;obtain ⟨l0,c00,c01,c02,c03,f00,f01,f02,f03⟩:=H0.out;obtain ⟨l6,c60,c61,c62,c63,f60,f61,f62,f63⟩:=H6.out;go_wp2
 have HRf:=HR4;refine bodyPost_ret (v:=.tuple #[sv (spn 97 122),.int .i64 0]) (by simp [results,Tryz.results66,go_sem, *]) rfl ⟨?_,?_⟩
 ·rfl
 ·repeat (first | exact HRf.out | (refine Below.setCell ?_ (by first | omega | (simp <;> omega)) _) | (refine Below.alloc ?_ (by first | omega | (simp <;> omega)) _))
theorem zj2 (w:World) :
  Cl 66 #[.int .i64 115] w (rB w (.tuple #[sv (spn 9 13 ||| bt 32),.int .i64 0])):=by
 have HH:=hO (Holds.zero w);have HR:=hO (zaN w z4);go_enter Tryz.func66,Tryz.ntmps66;go_wp2_with fail;refine (zad 97 122 _ (by omega) (by omega) (by omega)).mono ?_;rintro e w1 ⟨rfl,hb1⟩;go_wp2_with fail;refine (zad 65 90 _ (by omega) (by omega) (by omega)).mono ?_;rintro e w2 ⟨rfl,hb2⟩;go_wp2_with fail;refine (zad 48 57 _ (by omega) (by omega) (by omega)).mono ?_;rintro e w3 ⟨rfl,hb3⟩;go_wp2_with fail;refine (zas _ _ _).mono ?_;rintro e w4 ⟨rfl,hb4⟩;have hq:=zbc w w1 w2 w3 w4 (spn 97 122) (spn 65 90) (spn 48 57) hb1 hb2 hb3 hb4;clear hb1 hb2 hb3 hb4;obtain ⟨hl3,hl4,HR4,H0,H6,H7,H8⟩:=hq;have HQ:Hid (Below (w4.heap.size+1) (w4.alloc (c4 (spn 97 122 ||| spn 65 90))) (w4.alloc (c4 (spn 97 122 ||| spn 65 90)))):=bR _ _;go_wp2_with fail;refine (zad 9 13 _ (by omega) (by omega) (by omega)).mono ?_;rintro e w5 ⟨rfl,hb⟩
 replace HQ:=(show Hid _ from HQ.trans (hb.mono (by first | exact HQ.size | (have h:=HQ.size;simp at h;omega) | simp)))
 go_wp2_with fail;refine (zby _ 32 _ (by omega) (by omega)).mono ?_;rintro e w5 ⟨rfl,hb⟩
 replace HQ:=(show Hid _ from HQ.trans (hb.mono (by first | exact HQ.size | (have h:=HQ.size;simp at h;omega) | simp)))
 rw [show (32:Int).toNat=32 from rfl];have HR5:=hO ((HR4.alloc (by omega) (c4 (spn 97 122 ||| spn 65 90))).trans (HQ.mono (by omega)));obtain ⟨l0,c00,c01,c02,c03,f00,f01,f02,f03⟩:=(H0.alloc (c4 (spn 97 122 ||| spn 65 90))).below HQ (by have h:=H0.lt;omega);clear hb;go_wp2
 have HRf:=HR5;refine bodyPost_ret (v:=.tuple #[sv (spn 9 13 ||| bt 32),.int .i64 0]) (by simp [results,Tryz.results66,go_sem, *]) rfl ⟨?_,?_⟩
 ·rfl
 ·repeat (first | exact HRf.out | (refine Below.setCell ?_ (by first | omega | (simp <;> omega)) _) | (refine Below.alloc ?_ (by first | omega | (simp <;> omega)) _))
theorem zj3 (w:World) :
  Cl 66 #[.int .i64 117] w (rB w (.tuple #[sv (spn 65 90),.int .i64 0])):=by
 have HH:=hO (Holds.zero w);have HR:=hO (zaN w z4);go_enter Tryz.func66,Tryz.ntmps66;go_wp2_with fail;refine (zad 97 122 _ (by omega) (by omega) (by omega)).mono ?_;rintro e w1 ⟨rfl,hb1⟩;go_wp2_with fail;refine (zad 65 90 _ (by omega) (by omega) (by omega)).mono ?_;rintro e w2 ⟨rfl,hb2⟩;go_wp2_with fail;refine (zad 48 57 _ (by omega) (by omega) (by omega)).mono ?_;rintro e w3 ⟨rfl,hb3⟩;go_wp2_with fail;refine (zas _ _ _).mono ?_;rintro e w4 ⟨rfl,hb4⟩;have hq:=zbc w w1 w2 w3 w4 (spn 97 122) (spn 65 90) (spn 48 57) hb1 hb2 hb3 hb4;clear hb1 hb2 hb3 hb4;obtain ⟨hl3,hl4,HR4,H0,H6,H7,H8⟩:=hq;obtain ⟨l0,c00,c01,c02,c03,f00,f01,f02,f03⟩:=H0.out;obtain ⟨l7,c70,c71,c72,c73,f70,f71,f72,f73⟩:=H7.out;go_wp2
 have HRf:=HR4;refine bodyPost_ret (v:=.tuple #[sv (spn 65 90),.int .i64 0]) (by simp [results,Tryz.results66,go_sem, *]) rfl ⟨?_,?_⟩
 ·rfl
 ·repeat (first | exact HRf.out | (refine Below.setCell ?_ (by first | omega | (simp <;> omega)) _) | (refine Below.alloc ?_ (by first | omega | (simp <;> omega)) _))
theorem zj4 (w:World) :
  Cl 66 #[.int .i64 119] w (rB w (.tuple #[sv (spn 65 90 ||| spn 97 122 ||| spn 48 57),.int .i64 0])):=by
 have HH:=hO (Holds.zero w);have HR:=hO (zaN w z4);go_enter Tryz.func66,Tryz.ntmps66;go_wp2_with fail;refine (zad 97 122 _ (by omega) (by omega) (by omega)).mono ?_;rintro e w1 ⟨rfl,hb1⟩;go_wp2_with fail;refine (zad 65 90 _ (by omega) (by omega) (by omega)).mono ?_;rintro e w2 ⟨rfl,hb2⟩;go_wp2_with fail;refine (zad 48 57 _ (by omega) (by omega) (by omega)).mono ?_;rintro e w3 ⟨rfl,hb3⟩;go_wp2_with fail;refine (zas _ _ _).mono ?_;rintro e w4 ⟨rfl,hb4⟩;have hq:=zbc w w1 w2 w3 w4 (spn 97 122) (spn 65 90) (spn 48 57) hb1 hb2 hb3 hb4;clear hb1 hb2 hb3 hb4;obtain ⟨hl3,hl4,HR4,H0,H6,H7,H8⟩:=hq;have HQ:Hid (Below (w4.heap.size+1) (w4.alloc (c4 (spn 97 122 ||| spn 65 90))) (w4.alloc (c4 (spn 97 122 ||| spn 65 90)))):=bR _ _;obtain ⟨l8,c80,c81,c82,c83,f80,f81,f82,f83⟩:=H8.out;go_wp2_with fail;refine (zas _ _ _).mono ?_;rintro e w5 ⟨rfl,hb⟩
 replace HQ:=(show Hid _ from HQ.trans (hb.mono (by first | exact HQ.size | (have h:=HQ.size;simp at h;omega) | simp)))
 have HR5:=hO ((HR4.alloc (by omega) (c4 (spn 97 122 ||| spn 65 90))).trans (HQ.mono (by omega)));obtain ⟨l0,c00,c01,c02,c03,f00,f01,f02,f03⟩:=(H0.alloc (c4 (spn 97 122 ||| spn 65 90))).below HQ (by have h:=H0.lt;omega);clear hb;go_wp2
 have HRf:=HR5;refine bodyPost_ret (v:=.tuple #[sv ((spn 97 122 ||| spn 65 90) ||| spn 48 57),.int .i64 0]) (by simp [results,Tryz.results66,go_sem, *]) rfl ⟨?_,?_⟩
 ·exact congrArg (fun q=>Ending.returned (.tuple #[sv q,.int .i64 0])) (by rw [BitVec.or_comm (spn 97 122)])
 ·repeat (first | exact HRf.out | (refine Below.setCell ?_ (by first | omega | (simp <;> omega)) _) | (refine Below.alloc ?_ (by first | omega | (simp <;> omega)) _))
theorem zj5 (w:World) :
  Cl 66 #[.int .i64 112] w (rB w (.tuple #[sv (spn 33 126 &&& ~~~ (spn 65 90 ||| spn 97 122 ||| spn 48 57)),.int .i64 0])):=by
 have HH:=hO (Holds.zero w);have HR:=hO (zaN w z4);go_enter Tryz.func66,Tryz.ntmps66;go_wp2_with fail;refine (zad 97 122 _ (by omega) (by omega) (by omega)).mono ?_;rintro e w1 ⟨rfl,hb1⟩;go_wp2_with fail;refine (zad 65 90 _ (by omega) (by omega) (by omega)).mono ?_;rintro e w2 ⟨rfl,hb2⟩;go_wp2_with fail;refine (zad 48 57 _ (by omega) (by omega) (by omega)).mono ?_;rintro e w3 ⟨rfl,hb3⟩;go_wp2_with fail;refine (zas _ _ _).mono ?_;rintro e w4 ⟨rfl,hb4⟩;have hq:=zbc w w1 w2 w3 w4 (spn 97 122) (spn 65 90) (spn 48 57) hb1 hb2 hb3 hb4;clear hb1 hb2 hb3 hb4;obtain ⟨hl3,hl4,HR4,H0,H6,H7,H8⟩:=hq;have HQ:Hid (Below (w4.heap.size+1) (w4.alloc (c4 (spn 97 122 ||| spn 65 90))) (w4.alloc (c4 (spn 97 122 ||| spn 65 90)))):=bR _ _;obtain ⟨l8,c80,c81,c82,c83,f80,f81,f82,f83⟩:=H8.out;go_wp2
 go_region_with (first | (go_at_call 69;refine (zad 33 126 _ (by omega) (by omega) (by omega)).mono ?_;rintro e w5 ⟨rfl,hb⟩;have hq2:Below (w4.heap.size+1) (w4.alloc (c4 (spn 97 122 ||| spn 65 90))) w5:=(by first | exact HQ.out.trans (hb.mono (by first | exact HQ.out.size | (have h:=HQ.out.size;simp at h;omega))) | exact HQ.out.drew.trans (hb.mono (by simp)));replace HQ:=(show Hid _ from hq2);obtain ⟨l0,c00,c01,c02,c03,f00,f01,f02,f03⟩:=(H0.out.alloc (c4 (spn 97 122 ||| spn 65 90))).below HQ.out (by have h:=H0.out.lt;omega);obtain ⟨l8,c80,c81,c82,c83,f80,f81,f82,f83⟩:=(H8.out.alloc (c4 (spn 97 122 ||| spn 65 90))).below HQ.out (by omega);obtain ⟨l9,c90,c91,c92,c93,f90,f91,f92,f93⟩:=(Holds.new w4 (spn 97 122 ||| spn 65 90)).below HQ.out (by omega)) | (go_at_call 67;refine (zas _ _ _).mono ?_;rintro e w5 ⟨rfl,hb⟩;have hq2:Below (w4.heap.size+1) (w4.alloc (c4 (spn 97 122 ||| spn 65 90))) w5:=(by first | exact HQ.out.trans (hb.mono (by first | exact HQ.out.size | (have h:=HQ.out.size;simp at h;omega))) | exact HQ.out.drew.trans (hb.mono (by simp)));replace HQ:=(show Hid _ from hq2);obtain ⟨l0,c00,c01,c02,c03,f00,f01,f02,f03⟩:=(H0.out.alloc (c4 (spn 97 122 ||| spn 65 90))).below HQ.out (by have h:=H0.out.lt;omega);obtain ⟨l8,c80,c81,c82,c83,f80,f81,f82,f83⟩:=(H8.out.alloc (c4 (spn 97 122 ||| spn 65 90))).below HQ.out (by omega);obtain ⟨l9,c90,c91,c92,c93,f90,f91,f92,f93⟩:=(Holds.new w4 (spn 97 122 ||| spn 65 90)).below HQ.out (by omega)) | (go_at_call 93;refine (zi0 _ _ _).mono ?_;rintro e w5 ⟨rfl,hb⟩;have hq2:Below (w4.heap.size+1) (w4.alloc (c4 (spn 97 122 ||| spn 65 90))) w5:=(by first | exact HQ.out.trans (hb.mono (by first | exact HQ.out.size | (have h:=HQ.out.size;simp at h;omega))) | exact HQ.out.drew.trans (hb.mono (by simp)));replace HQ:=(show Hid _ from hq2);obtain ⟨l0,c00,c01,c02,c03,f00,f01,f02,f03⟩:=(H0.out.alloc (c4 (spn 97 122 ||| spn 65 90))).below HQ.out (by have h:=H0.out.lt;omega);obtain ⟨l8,c80,c81,c82,c83,f80,f81,f82,f83⟩:=(H8.out.alloc (c4 (spn 97 122 ||| spn 65 90))).below HQ.out (by omega);obtain ⟨l9,c90,c91,c92,c93,f90,f91,f92,f93⟩:=(Holds.new w4 (spn 97 122 ||| spn 65 90)).below HQ.out (by omega)))
 all_goals
  have HR5:=hO ((HR4.alloc (by omega) (c4 (spn 97 122 ||| spn 65 90))).trans (HQ.mono (by omega)));clear hb;go_wp2
  have HRf:=HR5;refine bodyPost_ret (v:=.tuple #[sv (spn 33 126 &&& ~~~ ((spn 97 122 ||| spn 65 90) ||| spn 48 57)),.int .i64 0]) (by simp [results,Tryz.results66,go_sem, *]) rfl ⟨?_,?_⟩
  ·exact congrArg (fun q=>Ending.returned (.tuple #[sv q,.int .i64 0])) (by rw [BitVec.or_comm (spn 97 122)])
  ·repeat (first | exact HRf.out | (refine Below.setCell ?_ (by first | omega | (simp <;> omega)) _) | (refine Below.alloc ?_ (by first | omega | (simp <;> omega)) _))
theorem zj6 (w:World) :
  Cl 66 #[.int .i64 120] w (rB w (.tuple #[sv (spn 48 57 ||| spn 65 70 ||| spn 97 102),.int .i64 0])):=by
 have HH:=hO (Holds.zero w);have HR:=hO (zaN w z4);go_enter Tryz.func66,Tryz.ntmps66;go_wp2_with fail;refine (zad 97 122 _ (by omega) (by omega) (by omega)).mono ?_;rintro e w1 ⟨rfl,hb1⟩;go_wp2_with fail;refine (zad 65 90 _ (by omega) (by omega) (by omega)).mono ?_;rintro e w2 ⟨rfl,hb2⟩;go_wp2_with fail;refine (zad 48 57 _ (by omega) (by omega) (by omega)).mono ?_;rintro e w3 ⟨rfl,hb3⟩;go_wp2_with fail;refine (zas _ _ _).mono ?_;rintro e w4 ⟨rfl,hb4⟩;have hq:=zbc w w1 w2 w3 w4 (spn 97 122) (spn 65 90) (spn 48 57) hb1 hb2 hb3 hb4;clear hb1 hb2 hb3 hb4;obtain ⟨hl3,hl4,HR4,H0,H6,H7,H8⟩:=hq;have HQ:Hid (Below (w4.heap.size+1) (w4.alloc (c4 (spn 97 122 ||| spn 65 90))) (w4.alloc (c4 (spn 97 122 ||| spn 65 90)))):=bR _ _;obtain ⟨l8,c80,c81,c82,c83,f80,f81,f82,f83⟩:=H8.out;go_wp2
 go_region_with (first | (go_at_call 69;refine (zad _ _ _ (by omega) (by omega) (by omega)).mono ?_;rintro e w5 ⟨rfl,hb⟩;have hq2:Below (w4.heap.size+1) (w4.alloc (c4 (spn 97 122 ||| spn 65 90))) w5:=(by first | exact HQ.out.trans (hb.mono (by first | exact HQ.out.size | (have h:=HQ.out.size;simp at h;omega))) | exact HQ.out.drew.trans (hb.mono (by simp)));replace HQ:=(show Hid _ from hq2);obtain ⟨l0,c00,c01,c02,c03,f00,f01,f02,f03⟩:=(H0.out.alloc (c4 (spn 97 122 ||| spn 65 90))).below HQ.out (by have h:=H0.out.lt;omega);obtain ⟨l8,c80,c81,c82,c83,f80,f81,f82,f83⟩:=(H8.out.alloc (c4 (spn 97 122 ||| spn 65 90))).below HQ.out (by omega)) | (go_at_call 67;refine (zas _ _ _).mono ?_;rintro e w5 ⟨rfl,hb⟩;have hq2:Below (w4.heap.size+1) (w4.alloc (c4 (spn 97 122 ||| spn 65 90))) w5:=(by first | exact HQ.out.trans (hb.mono (by first | exact HQ.out.size | (have h:=HQ.out.size;simp at h;omega))) | exact HQ.out.drew.trans (hb.mono (by simp)));replace HQ:=(show Hid _ from hq2);obtain ⟨l0,c00,c01,c02,c03,f00,f01,f02,f03⟩:=(H0.out.alloc (c4 (spn 97 122 ||| spn 65 90))).below HQ.out (by have h:=H0.out.lt;omega);obtain ⟨l8,c80,c81,c82,c83,f80,f81,f82,f83⟩:=(H8.out.alloc (c4 (spn 97 122 ||| spn 65 90))).below HQ.out (by omega)))
 all_goals
  have HR5:=hO ((HR4.alloc (by omega) (c4 (spn 97 122 ||| spn 65 90))).trans (HQ.mono (by omega)));clear hb;go_wp2
  have HRf:=HR5;refine bodyPost_ret (v:=.tuple #[sv (spn 48 57 ||| (spn 65 70 ||| spn 97 102)),.int .i64 0]) (by simp [results,Tryz.results66,go_sem, *]) rfl ⟨?_,?_⟩
  ·exact congrArg (fun q=>Ending.returned (.tuple #[sv q,.int .i64 0])) ((BitVec.or_assoc _ _ _).symm)
  ·repeat (first | exact HRf.out | (refine Below.setCell ?_ (by first | omega | (simp <;> omega)) _) | (refine Below.alloc ?_ (by first | omega | (simp <;> omega)) _))
theorem zfj (n:Int) (w:World) (hcap:¬(65<=n/\n<=90)) (h97:(n==97)=false) (h99:(n==99)=false) (h100:(n==100)=false) (h103:(n==103)=false) (h108:(n==108)=false) (h112:(n==112)=false) (h115:(n==115)=false) (h117:(n==117)=false) (h119:(n==119)=false) (h120:(n==120)=false) :
  Cl 66 #[.int .i64 n] w (rB w (.tuple #[sv 0#256,.int .i64 10])):=by
 by_cases g0:65<=n
 ·have g1:¬n<=90:=fun h=>hcap ⟨g0,h⟩
  have d0:decide (65<=n)=true:=by simpa using g0
  have d1:decide (n<=90)=false:=by simpa using g1
  clear hcap;have HH:=hO (Holds.zero w);have HR:=hO (zaN w z4);go_enter Tryz.func66,Tryz.ntmps66;go_wp2_with fail;refine (zad 97 122 _ (by omega) (by omega) (by omega)).mono ?_;rintro e w1 ⟨rfl,hb1⟩;go_wp2_with fail;refine (zad 65 90 _ (by omega) (by omega) (by omega)).mono ?_;rintro e w2 ⟨rfl,hb2⟩;go_wp2_with fail;refine (zad 48 57 _ (by omega) (by omega) (by omega)).mono ?_;rintro e w3 ⟨rfl,hb3⟩;go_wp2_with fail;refine (zas _ _ _).mono ?_;rintro e w4 ⟨rfl,hb4⟩;have hq:=zbc w w1 w2 w3 w4 (spn 97 122) (spn 65 90) (spn 48 57) hb1 hb2 hb3 hb4;clear hb1 hb2 hb3 hb4;obtain ⟨hl3,hl4,HR4,H0,H6,H7,H8⟩:=hq;obtain ⟨l0,c0,c1,c2,c3,f0,f1,f2,f3⟩:=H0.out;go_wp2
  have HRf:=HR4;refine bodyPost_ret (v:=.tuple #[sv 0#256,.int .i64 10]) (by simp [results,Tryz.results66,go_sem,zal, *]) rfl ⟨rfl,?_⟩
  repeat (first | exact HRf.out | (refine Below.setCell ?_ (by first | omega | (simp <;> omega)) _) | (refine Below.alloc ?_ (by first | omega | (simp <;> omega)) _))
 ·have d0:decide (65<=n)=false:=by simpa using g0
  clear hcap;have HH:=hO (Holds.zero w);have HR:=hO (zaN w z4);go_enter Tryz.func66,Tryz.ntmps66;go_wp2_with fail;refine (zad 97 122 _ (by omega) (by omega) (by omega)).mono ?_;rintro e w1 ⟨rfl,hb1⟩;go_wp2_with fail;refine (zad 65 90 _ (by omega) (by omega) (by omega)).mono ?_;rintro e w2 ⟨rfl,hb2⟩;go_wp2_with fail;refine (zad 48 57 _ (by omega) (by omega) (by omega)).mono ?_;rintro e w3 ⟨rfl,hb3⟩;go_wp2_with fail;refine (zas _ _ _).mono ?_;rintro e w4 ⟨rfl,hb4⟩;have hq:=zbc w w1 w2 w3 w4 (spn 97 122) (spn 65 90) (spn 48 57) hb1 hb2 hb3 hb4;clear hb1 hb2 hb3 hb4;obtain ⟨hl3,hl4,HR4,H0,H6,H7,H8⟩:=hq;obtain ⟨l0,c0,c1,c2,c3,f0,f1,f2,f3⟩:=H0.out;go_wp2
  have HRf:=HR4;refine bodyPost_ret (v:=.tuple #[sv 0#256,.int .i64 10]) (by simp [results,Tryz.results66,go_sem,zal, *]) rfl ⟨rfl,?_⟩
  repeat (first | exact HRf.out | (refine Below.setCell ?_ (by first | omega | (simp <;> omega)) _) | (refine Below.alloc ?_ (by first | omega | (simp <;> omega)) _))
theorem zdT (n:Nat) (w:World) (hcap:¬(65<=n/\n<=90)) :
  Cl 66 #[.int .i64 n] w (rB w (.tuple #[sv (sml n).1,.int .i64 (sml n).2])):=by
 by_cases h97:n=97
 ·subst h97;rw [znJ];exact zma w
 by_cases h99:n=99
 ·subst h99;rw [znK];exact zmb w
 by_cases h100:n=100
 ·subst h100;rw [zi1];exact zjZ w
 by_cases h103:n=103
 ·subst h103;rw [zi2];exact zj0 w
 by_cases h108:n=108
 ·subst h108;rw [zi3];exact zj1 w
 by_cases h112:n=112
 ·subst h112;rw [zi4];exact zj5 w
 by_cases h115:n=115
 ·subst h115;rw [zi5];exact zj2 w
 by_cases h117:n=117
 ·subst h117;rw [zi6];exact zj3 w
 by_cases h119:n=119
 ·subst h119;rw [zi7];exact zj4 w
 by_cases h120:n=120
 ·subst h120;rw [zi8];exact zj6 w
 rw [zfv n h97 h99 h100 h103 h108 h112 h115 h117 h119 h120];exact zfj n w (by omega) (bF (by omega)) (bF (by omega)) (bF (by omega)) (bF (by omega)) (bF (by omega)) (bF (by omega)) (bF (by omega)) (bF (by omega)) (bF (by omega)) (bF (by omega))
theorem zc1 (n:Int) (w:World) (hn:n<0) :
  Cl 66 #[.int .i64 n] w (rB w (.tuple #[sv 0#256,.int .i64 10])) :=
 zfj n w (by omega) (bF (by omega)) (bF (by omega)) (bF (by omega)) (bF (by omega)) (bF (by omega)) (bF (by omega)) (bF (by omega)) (bF (by omega)) (bF (by omega)) (bF (by omega))
theorem zbt (n:Nat) (hn:n<256) (w:World) :
  Cl 66 #[.int .i64 n] w (rB w (.tuple #[sv (cls n).1,.int .i64 (cls n).2])):=by
 by_cases hc:65<=n/\n<=90
 ·have HH:=hO (Holds.zero w)
  have HR:=hO (zaN w z4);have Hc:=hO hc;have g0:65<=(n:Int):=by omega
  have g1:(n:Int)<=90:=by omega
  have d0:decide (65<=(n:Int))=true:=by simpa using g0
  have d1:decide ((n:Int)<=90)=true:=by simpa using g1
  clear hc
  rcases zdN (n+32) with he | he
  ·have HE:=hO (zgX n Hc he)
   go_enter Tryz.func66,Tryz.ntmps66;go_wp2_with fail;rw [show (n:Int)+32=((n+32:Nat):Int) from by omega];refine (zdT (n+32) _ (by have:=Hc.out;omega)).mono ?_;rintro e w1 ⟨rfl,hb⟩;have hl:w.heap.size<w1.heap.size:=by have h:=hb.size;simp at h;omega
   have HR1:=hO (HR.trans (hb.mono (by simp)));have HH1:=hO (HH.below hb (by simp));rw [he];clear he hb HH HR;generalize (sml (n+32)).1=r at *;go_wp2_with fail;refine (zhv r _).mono ?_;rintro e w2 ⟨rfl,hb⟩;have HR2:=hO ((HR1.alloc (by omega) (c4 r)).trans (hb.mono (by simp;omega)));have hl2:w.heap.size<w2.heap.size:=by have h:=hb.size;simp at h;omega
   obtain ⟨l0,c0,c1,c2,c3,f0,f1,f2,f3⟩:=(HH1.alloc (c4 r)).below hb (by simp;omega);generalize hr : ~~~ r=q at *;clear hr hb;go_wp2
   rw [HE.out];refine bodyPost_ret (v:=.tuple #[sv q,.int .i64 0]) (by simp [results,Tryz.results66,go_sem, *]) rfl ⟨rfl,zcn HR2 (nL _) _⟩
  ·have HE:=hO (zjV n Hc he)
   go_enter Tryz.func66,Tryz.ntmps66;go_wp2_with fail;rw [show (n:Int)+32=((n+32:Nat):Int) from by omega];refine (zdT (n+32) _ (by have:=Hc.out;omega)).mono ?_;rintro e w1 ⟨rfl,hb⟩;have hl:w.heap.size<w1.heap.size:=by have h:=hb.size;simp at h;omega
   have HR1:=hO (HR.trans (hb.mono (by simp)));obtain ⟨l0,c0,c1,c2,c3,f0,f1,f2,f3⟩:=HH.below hb (by simp);rw [he];clear he hb HH HR;generalize (sml (n+32)).1=r at *;go_wp2
   rw [HE.out];refine bodyPost_ret (v:=.tuple #[sv 0#256,.int .i64 10]) (by simp [results,Tryz.results66,go_sem,zal, *]) rfl ⟨rfl,?_⟩
   repeat (first | exact HR1.out | (refine Below.setCell ?_ (by first | omega | (simp <;> omega)) _) | (refine Below.alloc ?_ (by first | omega | (simp <;> omega)) _))
 ·rw [zeI n hc]
  exact zdT n w hc
abbrev p6 (W:World) (g:Nat) (x:BitVec 256) (tx:ByteArray):World:=(((((W.setCell ⟨g,0,none⟩ (.int .i64 28)).setCell ⟨g,5,none⟩ (.int .u64 (wd x 0))).setCell ⟨g,6,none⟩ (.int .u64 (wd x 1))).setCell ⟨g,7,none⟩ (.int .u64 (wd x 2))).setCell ⟨g,8,none⟩ (.int .u64 (wd x 3))).setCell ⟨g,4,none⟩ (.string tx)
theorem p6_tx {W:World} {g:Nat} {fr en:Int} (h:TX W g ⟨0,0,fr,en,⟨#[]⟩,0,0,0,0⟩) (x:BitVec 256) (tx:ByteArray):TX (p6 W g x tx) g ⟨28,0,fr,en,tx,wd x 0,wd x 1,wd x 2,wd x 3⟩:=by
 have h:=h.heap;have h0:=heap_setCell_same _ g 0 _ 69 (.int .i64 28) h;have h1:=heap_setCell_same _ g 5 _ 69 (.int .u64 (wd x 0)) h0;have h2:=heap_setCell_same _ g 6 _ 69 (.int .u64 (wd x 1)) h1;have h3:=heap_setCell_same _ g 7 _ 69 (.int .u64 (wd x 2)) h2;have h4:=heap_setCell_same _ g 8 _ 69 (.int .u64 (wd x 3)) h3;have h5:=heap_setCell_same _ g 4 _ 69 (.string tx) h4;refine ⟨?_⟩;rw [h5];simp
theorem zhN {W:World} {g b:Nat} (h:b≠g) (x:BitVec 256) (tx:ByteArray):(p6 W g x tx).heap[b]?=W.heap[b]?:=by
 rw [heap_setCell_other _ _ _ _ h,heap_setCell_other _ _ _ _ h,heap_setCell_other _ _ _ _ h,heap_setCell_other _ _ _ _ h,heap_setCell_other _ _ _ _ h,heap_setCell_other _ _ _ _ h]
theorem zhO {B:Nat} {w W:World} {g:Nat} (h:Below B w W) (hb:B<=g) (x:BitVec 256) (tx:ByteArray):Below B w (p6 W g x tx):=(((((h.setCell (p:=⟨g,0,none⟩) hb _).setCell (p:=⟨g,5,none⟩) hb _).setCell (p:=⟨g,6,none⟩) hb _).setCell (p:=⟨g,7,none⟩) hb _).setCell (p:=⟨g,8,none⟩) hb _).setCell (p:=⟨g,4,none⟩) hb _
theorem zj7 (n:Nat):(cls n).2=0∨(cls n).2=10:=by
 unfold cls
 split
 ·split
  ·exact .inl rfl
  ·exact zdN (n+32)
 ·exact zdN n
theorem zgZ (s:ByteArray) (b:Nat) (hs:s.size<=140737488355000) (hb:b<s.size) (w:World):Cl 49 #[.string s,.int .i64 b] w (rB w (zct (zdE s b))):=by
 have HWr:Hid (∀i e w,Cl 43 #[.int .i64 i,.int .i64 e] w fun e' w'=>e'=.returned (.tuple #[tkG tk0,.int .i64 i,.int .i64 e])/\bW w w'):=fun i e w=>zbP i e w
 have HA1:Hid (∀w,Cl 40 #[.string s,.int .i64 ((b:Int)+1)] w (rU w (.int .i64 (chr s (b+1))))):=fun w=>za0 s (b+1) w
 have HA2:Hid (∀w,Cl 40 #[.string s,.int .i64 ((b:Int)+2)] w (rU w (.int .i64 (chr s (b+2))))):=fun w=>za0 s (b+2) w
 have HX:Hid (TX ((w.alloc (tkO tk0)).alloc (tkO ⟨0,0,b,b+2,⟨#[]⟩,0,0,0,0⟩)) w.heap.size tk0/\TX ((w.alloc (tkO tk0)).alloc (tkO ⟨0,0,b,b+2,⟨#[]⟩,0,0,0,0⟩)) (w.heap.size+1) ⟨0,0,b,b+2,⟨#[]⟩,0,0,0,0⟩):=⟨(TX.new w _).below (zaa _ _),by have h:=TX.new (w.alloc (tkO tk0)) ⟨0,0,b,b+2,⟨#[]⟩,0,0,0,0⟩;rw [sA] at h;exact h⟩;have HB:Hid (bW w ((w.alloc (tkO tk0)).alloc (tkO ⟨0,0,b,b+2,⟨#[]⟩,0,0,0,0⟩))):=(zaa w _).alloc (zaa w _).size _;by_cases hu:chr s (b+1)=117/\chr s (b+2)=123
 ·have t1:(chr s (b+1)==117)=true:=by rw [hu.1];rfl
  have t2:(chr s (b+2)==123)=true:=by rw [hu.2];rfl
  have h2:b+2<s.size:=zaB (by omega);have HU:Hid (zdE s b=zbZ s b):=by show zdE s b=_;unfold zdE;rw [iP hu]
  have HP:Hid (∀w,Cl 71 #[.string s,.int .i64 b] w (rB w (zct (zbZ s b)))):=fun w=>ziu s b hs (by omega) w
  clear hu
  cases hp:zbZ s b with
  | inl t =>
   rw [hp] at HU HP;go_enter Tryz.func49,Tryz.ntmps49;go_wp2_with fail;refine (HA1 _).mono ?_;rintro e w2 ⟨rfl,rfl⟩;go_wp2_with fail;refine (HA2 _).mono ?_;rintro e w2 ⟨rfl,rfl⟩;clear HA1 HA2;go_wp2_with fail;refine (HP _).mono ?_;rintro e w3 ⟨rfl,b3⟩;have HX3:=hO (HX.1.below b3);have HB3:Hid (bW w w3):=HB.trans (b3.mono HB.size);clear b3 HWr HP;obtain ⟨c0,c1,c2,c3,c4,c5,c6,c7,c8⟩:=HX3.cells;obtain ⟨f0,f1',f2',f3,f4,f5,f6,f7,f8⟩:=HX3.fz;unfold zct;go_wp2_with fail;exact zai rfl rfl rfl rfl rfl (zar HX3 t) ⟨by rw [HU.out];rfl,zac HB3 (nL _) t⟩
  | inr q =>
   rw [hp] at HU HP;go_enter Tryz.func49,Tryz.ntmps49;go_wp2_with fail;refine (HA1 _).mono ?_;rintro e w2 ⟨rfl,rfl⟩;go_wp2_with fail;refine (HA2 _).mono ?_;rintro e w2 ⟨rfl,rfl⟩;clear HA1 HA2;go_wp2_with fail;refine (HP _).mono ?_;rintro e w3 ⟨rfl,b3⟩;have HX3:=hO (HX.1.below b3);have HB3:Hid (bW w w3):=HB.trans (b3.mono HB.size);clear b3 HWr HP;obtain ⟨c0,c1,c2,c3,c4,c5,c6,c7,c8⟩:=HX3.cells;obtain ⟨f0,f1',f2',f3,f4,f5,f6,f7,f8⟩:=HX3.fz;unfold zct;go_wp2_with fail;exact zai rfl rfl rfl rfl rfl (zar HX3 tk0) ⟨by rw [HU.out];rfl,zac HB3 (nL _) tk0⟩
 ·by_cases h117:chr s (b+1)=117
  ·have t1:(chr s (b+1)==117)=true:=by rw [h117];rfl
   have t2:(chr s (b+2)==123)=false:=bF (fun q=>hu ⟨h117,q⟩);have t3:(chr s (b+1)==101)=false:=by rw [h117];rfl
   have t4:(chr s (b+1)==102)=false:=by rw [h117];rfl
   have n1:¬chr s (b+1)=101:=by omega
   have n2:¬chr s (b+1)=102:=by omega
   clear h117;by_cases hc:0<=chr s (b+1)/\(cls (chr s (b+1)).toNat).2=0
   ·have hcl:=zbi s (b+1)
    have hb1:b+1<s.size:=zaB hc.1;have HE:Hid (zdE s b=.inl ⟨28,0,b,b+2,s.extract (b+1) (b+2),wd (cls (chr s (b+1)).toNat).1 0,wd (cls (chr s (b+1)).toNat).1 1,wd (cls (chr s (b+1)).toNat).1 2,wd (cls (chr s (b+1)).toNat).1 3⟩):=by show zdE s b=_;unfold zdE;rw [iN hu,iN n1,iN n2,iP hc]
    have HC:Hid (∀w,Cl 66 #[.int .i64 (chr s (b+1))] w (rB w (.tuple #[sv (cls (chr s (b+1)).toNat).1,.int .i64 0]))):=fun w=>by
     have h:=zbt (chr s (b+1)).toNat (by omega) w;rw [hc.2,show (((chr s (b+1)).toNat:Nat):Int)=chr s (b+1) from by omega] at h;exact h
    clear hc hu;generalize (cls (chr s (b+1)).toNat).1=x at *;go_enter Tryz.func49,Tryz.ntmps49;go_wp2_with fail;refine (HA1 _).mono ?_;rintro e w2 ⟨rfl,rfl⟩;go_wp2_with fail;refine (HA2 _).mono ?_;rintro e w2 ⟨rfl,rfl⟩;go_wp2_with fail;refine (HC _).mono ?_;rintro e w3 ⟨rfl,b3⟩;have HX3:Hid (TX w3 w.heap.size tk0/\TX w3 (w.heap.size+1) ⟨0,0,b,b+2,⟨#[]⟩,0,0,0,0⟩):=⟨HX.1.below b3,HX.2.below b3⟩;have HB3:Hid (bW w w3):=HB.trans (b3.mono HB.size);clear b3 HC HX HB;go_wp2_with fail;have HW4:Hid (TX (w3.alloc (.cells #[.int .u64 (wd x 0),.int .u64 (wd x 1),.int .u64 (wd x 2),.int .u64 (wd x 3)] 63)) w.heap.size tk0/\TX (w3.alloc (.cells #[.int .u64 (wd x 0),.int .u64 (wd x 1),.int .u64 (wd x 2),.int .u64 (wd x 3)] 63)) (w.heap.size+1) ⟨0,0,b,b+2,⟨#[]⟩,0,0,0,0⟩/\Holds (w3.alloc (.cells #[.int .u64 (wd x 0),.int .u64 (wd x 1),.int .u64 (wd x 2),.int .u64 (wd x 3)] 63)) w3.heap.size x/\bW w (w3.alloc (.cells #[.int .u64 (wd x 0),.int .u64 (wd x 1),.int .u64 (wd x 2),.int .u64 (wd x 3)] 63))):=⟨HX3.1.below (zaa _ _),HX3.2.below (zaa _ _),Holds.new w3 x,HB3.alloc HB3.size _⟩;generalize w3.alloc (.cells #[.int .u64 (wd x 0),.int .u64 (wd x 1),.int .u64 (wd x 2),.int .u64 (wd x 3)] 63)=w4 at *
    have HP:Hid (TX (p6 w4 (w.heap.size+1) x (s.extract (b+1) (b+2))).drew w.heap.size tk0/\TX (p6 w4 (w.heap.size+1) x (s.extract (b+1) (b+2))).drew (w.heap.size+1) ⟨28,0,b,b+2,s.extract (b+1) (b+2),wd x 0,wd x 1,wd x 2,wd x 3⟩/\bW w (p6 w4 (w.heap.size+1) x (s.extract (b+1) (b+2))).drew):=⟨(HW4.1.same (zhN (by omega) x (s.extract (b+1) (b+2)))).below (below_drewN (bR _ _) 1),(p6_tx HW4.2.1 x (s.extract (b+1) (b+2))).below (below_drewN (bR _ _) 1),below_drewN (zhO HW4.2.2.2 (by omega) x (s.extract (b+1) (b+2))) 1⟩;obtain ⟨l0,e0,e1,e2,e3,g0,g1,g2,g3⟩:=HW4.2.2.1;obtain ⟨c0,c1,c2,c3,c4,c5,c6,c7,c8⟩:=HW4.2.1.cells;obtain ⟨f0,f1',f2',f3,f4,f5,f6,f7,f8⟩:=HW4.2.1.fz;have ne1:¬w3.heap.size=w.heap.size+1:=by have:=HX3.2.lt;omega
    have ne2:¬w.heap.size+1=w3.heap.size:=by omega
    obtain ⟨j1,hj1⟩:∃j,j=b+1:=⟨_,rfl⟩;obtain ⟨j2,hj2⟩:∃j,j=b+2:=⟨_,rfl⟩;have u1:IntKind.i64.wrap ((b:Int)+1)=(j1:Int):=by rw [hj1,wI];omega
    have u2:IntKind.i64.wrap ((b:Int)+2)=(j2:Int):=by rw [hj2,wI];omega
    have y0:(0:Int)<=(j1:Int):=by omega
    have y1:(j1:Int)<=(j2:Int):=by omega
    have y2:(j2:Int)<=(s.size:Int):=by omega
    rw [<-hj1,<-hj2] at HP HE;clear hj1 hj2;clear HW4 HX3 HB3 HWr;go_region
    all_goals
     generalize (((((((w4.setCell ⟨w.heap.size+1,0,none⟩ (.int .i64 28)).setCell ⟨w.heap.size+1,5,none⟩ (.int .u64 (wd x 0))).setCell ⟨w.heap.size+1,6,none⟩ (.int .u64 (wd x 1))).setCell ⟨w.heap.size+1,7,none⟩ (.int .u64 (wd x 2))).setCell ⟨w.heap.size+1,8,none⟩ (.int .u64 (wd x 3))).setCell ⟨w.heap.size+1,4,none⟩ (.string (s.extract j1 j2)))).drew=w6 at *;clear e0 e1 e2 e3 g0 g1 g2 g3 c0 c1 c2 c3 c4 c5 c6 c7 c8 f0 f1' f2' f3 f4 f5 f6 f7 f8;obtain ⟨c0,c1,c2,c3,c4,c5,c6,c7,c8⟩:=HP.2.1.cells;obtain ⟨d0,d1,d2,d3,d4,d5,d6,d7,d8⟩:=HP.1.cells;obtain ⟨f0,f1',f2',f3,f4,f5,f6,f7,f8⟩:=HP.1.fz;go_wp2_with fail;exact zai (t:=⟨28,0,b,b+2,s.extract j1 j2,wd x 0,wd x 1,wd x 2,wd x 3⟩) (p:=0) (e:=0) rfl rfl rfl rfl rfl (zar HP.1 ⟨28,0,b,b+2,s.extract j1 j2,wd x 0,wd x 1,wd x 2,wd x 3⟩) ⟨by rw [HE.out];rfl,zac HP.2.2 (nL _) ⟨28,0,b,b+2,s.extract j1 j2,wd x 0,wd x 1,wd x 2,wd x 3⟩⟩
   ·have HE:Hid (zdE s b=.inr (b,10)):=by show zdE s b=_;unfold zdE;rw [iN hu,iN n1,iN n2,iN hc]
    have hcl:=zbi s (b+1);have HC:Hid (∀w,Cl 66 #[.int .i64 (chr s (b+1))] w fun e w'=>(∃x,e=.returned (.tuple #[sv x,.int .i64 10]))/\bW w w'):=fun w=>by
     by_cases h0:chr s (b+1)<0
     ·exact (zc1 _ w h0).mono fun e w' ⟨h1,h2⟩=>⟨⟨_,h1⟩,h2⟩
     ·have h:=zbt (chr s (b+1)).toNat (by omega) w
      rw [show (((chr s (b+1)).toNat:Nat):Int)=chr s (b+1) from by omega] at h;have h10:(cls (chr s (b+1)).toNat).2=10:=(zj7 _).resolve_left (fun q=>hc ⟨by omega,q⟩);rw [h10] at h;exact h.mono fun e w' ⟨h1,h2⟩=>⟨⟨_,h1⟩,h2⟩
    clear hc hu;go_enter Tryz.func49,Tryz.ntmps49;go_wp2_with fail;refine (HA1 _).mono ?_;rintro e w2 ⟨rfl,rfl⟩;go_wp2_with fail;refine (HA2 _).mono ?_;rintro e w2 ⟨rfl,rfl⟩;go_wp2_with fail;refine (HC _).mono ?_;rintro e w3 ⟨⟨x,rfl⟩,b3⟩;have HX3:Hid (TX w3 w.heap.size tk0/\TX w3 (w.heap.size+1) ⟨0,0,b,b+2,⟨#[]⟩,0,0,0,0⟩):=⟨HX.1.below b3,HX.2.below b3⟩;have HB3:Hid (bW w w3):=HB.trans (b3.mono HB.size);clear b3 HC HX HB;go_wp2_with fail;refine (HWr _ _ _).mono ?_;rintro e w4 ⟨rfl,b4⟩;have HX4:Hid (TX w4 w.heap.size tk0):=HX3.1.below ((zaa _ _).trans (b4.mono (zaa _ _).size));have HB4:Hid (bW w w4):=HB3.trans (((zaa _ _).trans (b4.mono (zaa _ _).size)).mono HB3.size);clear b4 HWr;obtain ⟨c0,c1,c2,c3,c4,c5,c6,c7,c8⟩:=HX4.cells;obtain ⟨f0,f1',f2',f3,f4,f5,f6,f7,f8⟩:=HX4.fz;go_wp2_with fail;exact zai rfl rfl rfl rfl rfl (zar HX4 tk0) ⟨by rw [HE.out];rfl,zac HB4 (nL _) tk0⟩
  ·have t1:(chr s (b+1)==117)=false:=bF h117
   by_cases n1:chr s (b+1)=101
   ·have HE:Hid (zdE s b=.inl ⟨29,0,b,b+2,⟨#[]⟩,0,0,0,0⟩):=by show zdE s b=_;unfold zdE;rw [iN hu,iP n1]
    have t3:(chr s (b+1)==101)=true:=by rw [n1];rfl
    clear hu n1 HX HB;go_enter Tryz.func49,Tryz.ntmps49;go_wp2_with fail;refine (HA1 _).mono ?_;rintro e w2 ⟨rfl,rfl⟩;go_wp2_with fail;exact zai (t:=⟨29,0,b,b+2,⟨#[]⟩,0,0,0,0⟩) rfl rfl rfl rfl rfl ((TX.new w ⟨29,0,b,b+2,⟨#[]⟩,0,0,0,0⟩).below (zaa _ _)) ⟨by rw [HE.out];rfl,(zaa w _).alloc (zaa w _).size _⟩
   have t3:(chr s (b+1)==101)=false:=bF n1;by_cases n2:chr s (b+1)=102
   ·have HE:Hid (zdE s b=.inl ⟨30,0,b,b+2,⟨#[]⟩,0,0,0,0⟩):=by show zdE s b=_;unfold zdE;rw [iN hu,iN n1,iP n2]
    have t4:(chr s (b+1)==102)=true:=by rw [n2];rfl
    clear hu n1 n2 HX HB;go_enter Tryz.func49,Tryz.ntmps49;go_wp2_with fail;refine (HA1 _).mono ?_;rintro e w2 ⟨rfl,rfl⟩;go_wp2_with fail;exact zai (t:=⟨30,0,b,b+2,⟨#[]⟩,0,0,0,0⟩) rfl rfl rfl rfl rfl ((TX.new w ⟨30,0,b,b+2,⟨#[]⟩,0,0,0,0⟩).below (zaa _ _)) ⟨by rw [HE.out];rfl,(zaa w _).alloc (zaa w _).size _⟩
   have t4:(chr s (b+1)==102)=false:=bF n2;by_cases hc:0<=chr s (b+1)/\(cls (chr s (b+1)).toNat).2=0
   ·have hcl:=zbi s (b+1)
    have hb1:b+1<s.size:=zaB hc.1;have HE:Hid (zdE s b=.inl ⟨28,0,b,b+2,s.extract (b+1) (b+2),wd (cls (chr s (b+1)).toNat).1 0,wd (cls (chr s (b+1)).toNat).1 1,wd (cls (chr s (b+1)).toNat).1 2,wd (cls (chr s (b+1)).toNat).1 3⟩):=by show zdE s b=_;unfold zdE;rw [iN hu,iN n1,iN n2,iP hc]
    have HC:Hid (∀w,Cl 66 #[.int .i64 (chr s (b+1))] w (rB w (.tuple #[sv (cls (chr s (b+1)).toNat).1,.int .i64 0]))):=fun w=>by
     have h:=zbt (chr s (b+1)).toNat (by omega) w;rw [hc.2,show (((chr s (b+1)).toNat:Nat):Int)=chr s (b+1) from by omega] at h;exact h
    clear hc hu;generalize (cls (chr s (b+1)).toNat).1=x at *;go_enter Tryz.func49,Tryz.ntmps49;go_wp2_with fail;refine (HA1 _).mono ?_;rintro e w2 ⟨rfl,rfl⟩;go_wp2_with fail;refine (HC _).mono ?_;rintro e w3 ⟨rfl,b3⟩;have HX3:Hid (TX w3 w.heap.size tk0/\TX w3 (w.heap.size+1) ⟨0,0,b,b+2,⟨#[]⟩,0,0,0,0⟩):=⟨HX.1.below b3,HX.2.below b3⟩;have HB3:Hid (bW w w3):=HB.trans (b3.mono HB.size);clear b3 HC HX HB;go_wp2_with fail;have HW4:Hid (TX (w3.alloc (.cells #[.int .u64 (wd x 0),.int .u64 (wd x 1),.int .u64 (wd x 2),.int .u64 (wd x 3)] 63)) w.heap.size tk0/\TX (w3.alloc (.cells #[.int .u64 (wd x 0),.int .u64 (wd x 1),.int .u64 (wd x 2),.int .u64 (wd x 3)] 63)) (w.heap.size+1) ⟨0,0,b,b+2,⟨#[]⟩,0,0,0,0⟩/\Holds (w3.alloc (.cells #[.int .u64 (wd x 0),.int .u64 (wd x 1),.int .u64 (wd x 2),.int .u64 (wd x 3)] 63)) w3.heap.size x/\bW w (w3.alloc (.cells #[.int .u64 (wd x 0),.int .u64 (wd x 1),.int .u64 (wd x 2),.int .u64 (wd x 3)] 63))):=⟨HX3.1.below (zaa _ _),HX3.2.below (zaa _ _),Holds.new w3 x,HB3.alloc HB3.size _⟩;generalize w3.alloc (.cells #[.int .u64 (wd x 0),.int .u64 (wd x 1),.int .u64 (wd x 2),.int .u64 (wd x 3)] 63)=w4 at *
    have HP:Hid (TX (p6 w4 (w.heap.size+1) x (s.extract (b+1) (b+2))).drew w.heap.size tk0/\TX (p6 w4 (w.heap.size+1) x (s.extract (b+1) (b+2))).drew (w.heap.size+1) ⟨28,0,b,b+2,s.extract (b+1) (b+2),wd x 0,wd x 1,wd x 2,wd x 3⟩/\bW w (p6 w4 (w.heap.size+1) x (s.extract (b+1) (b+2))).drew):=⟨(HW4.1.same (zhN (by omega) x (s.extract (b+1) (b+2)))).below (below_drewN (bR _ _) 1),(p6_tx HW4.2.1 x (s.extract (b+1) (b+2))).below (below_drewN (bR _ _) 1),below_drewN (zhO HW4.2.2.2 (by omega) x (s.extract (b+1) (b+2))) 1⟩;obtain ⟨l0,e0,e1,e2,e3,g0,g1,g2,g3⟩:=HW4.2.2.1;obtain ⟨c0,c1,c2,c3,c4,c5,c6,c7,c8⟩:=HW4.2.1.cells;obtain ⟨f0,f1',f2',f3,f4,f5,f6,f7,f8⟩:=HW4.2.1.fz;have ne1:¬w3.heap.size=w.heap.size+1:=by have:=HX3.2.lt;omega
    have ne2:¬w.heap.size+1=w3.heap.size:=by omega
    obtain ⟨j1,hj1⟩:∃j,j=b+1:=⟨_,rfl⟩;obtain ⟨j2,hj2⟩:∃j,j=b+2:=⟨_,rfl⟩;have u1:IntKind.i64.wrap ((b:Int)+1)=(j1:Int):=by rw [hj1,wI];omega
    have u2:IntKind.i64.wrap ((b:Int)+2)=(j2:Int):=by rw [hj2,wI];omega
    have y0:(0:Int)<=(j1:Int):=by omega
    have y1:(j1:Int)<=(j2:Int):=by omega
    have y2:(j2:Int)<=(s.size:Int):=by omega
    rw [<-hj1,<-hj2] at HP HE;clear hj1 hj2;clear HW4 HX3 HB3 HWr;go_region
    all_goals
     generalize (((((((w4.setCell ⟨w.heap.size+1,0,none⟩ (.int .i64 28)).setCell ⟨w.heap.size+1,5,none⟩ (.int .u64 (wd x 0))).setCell ⟨w.heap.size+1,6,none⟩ (.int .u64 (wd x 1))).setCell ⟨w.heap.size+1,7,none⟩ (.int .u64 (wd x 2))).setCell ⟨w.heap.size+1,8,none⟩ (.int .u64 (wd x 3))).setCell ⟨w.heap.size+1,4,none⟩ (.string (s.extract j1 j2)))).drew=w6 at *;clear e0 e1 e2 e3 g0 g1 g2 g3 c0 c1 c2 c3 c4 c5 c6 c7 c8 f0 f1' f2' f3 f4 f5 f6 f7 f8;obtain ⟨c0,c1,c2,c3,c4,c5,c6,c7,c8⟩:=HP.2.1.cells;obtain ⟨d0,d1,d2,d3,d4,d5,d6,d7,d8⟩:=HP.1.cells;obtain ⟨f0,f1',f2',f3,f4,f5,f6,f7,f8⟩:=HP.1.fz;go_wp2_with fail;exact zai (t:=⟨28,0,b,b+2,s.extract j1 j2,wd x 0,wd x 1,wd x 2,wd x 3⟩) (p:=0) (e:=0) rfl rfl rfl rfl rfl (zar HP.1 ⟨28,0,b,b+2,s.extract j1 j2,wd x 0,wd x 1,wd x 2,wd x 3⟩) ⟨by rw [HE.out];rfl,zac HP.2.2 (nL _) ⟨28,0,b,b+2,s.extract j1 j2,wd x 0,wd x 1,wd x 2,wd x 3⟩⟩
   ·have HE:Hid (zdE s b=.inr (b,10)):=by show zdE s b=_;unfold zdE;rw [iN hu,iN n1,iN n2,iN hc]
    have hcl:=zbi s (b+1);have HC:Hid (∀w,Cl 66 #[.int .i64 (chr s (b+1))] w fun e w'=>(∃x,e=.returned (.tuple #[sv x,.int .i64 10]))/\bW w w'):=fun w=>by
     by_cases h0:chr s (b+1)<0
     ·exact (zc1 _ w h0).mono fun e w' ⟨h1,h2⟩=>⟨⟨_,h1⟩,h2⟩
     ·have h:=zbt (chr s (b+1)).toNat (by omega) w
      rw [show (((chr s (b+1)).toNat:Nat):Int)=chr s (b+1) from by omega] at h;have h10:(cls (chr s (b+1)).toNat).2=10:=(zj7 _).resolve_left (fun q=>hc ⟨by omega,q⟩);rw [h10] at h;exact h.mono fun e w' ⟨h1,h2⟩=>⟨⟨_,h1⟩,h2⟩
    clear hc hu;go_enter Tryz.func49,Tryz.ntmps49;go_wp2_with fail;refine (HA1 _).mono ?_;rintro e w2 ⟨rfl,rfl⟩;go_wp2_with fail;refine (HC _).mono ?_;rintro e w3 ⟨⟨x,rfl⟩,b3⟩;have HX3:Hid (TX w3 w.heap.size tk0/\TX w3 (w.heap.size+1) ⟨0,0,b,b+2,⟨#[]⟩,0,0,0,0⟩):=⟨HX.1.below b3,HX.2.below b3⟩;have HB3:Hid (bW w w3):=HB.trans (b3.mono HB.size);clear b3 HC HX HB;go_wp2_with fail;refine (HWr _ _ _).mono ?_;rintro e w4 ⟨rfl,b4⟩;have HX4:Hid (TX w4 w.heap.size tk0):=HX3.1.below ((zaa _ _).trans (b4.mono (zaa _ _).size));have HB4:Hid (bW w w4):=HB3.trans (((zaa _ _).trans (b4.mono (zaa _ _).size)).mono HB3.size);clear b4 HWr;obtain ⟨c0,c1,c2,c3,c4,c5,c6,c7,c8⟩:=HX4.cells;obtain ⟨f0,f1',f2',f3,f4,f5,f6,f7,f8⟩:=HX4.fz;go_wp2_with fail;exact zai rfl rfl rfl rfl rfl (zar HX4 tk0) ⟨by rw [HE.out];rfl,zac HB4 (nL _) tk0⟩
theorem zj8 (s:ByteArray) (b:Nat) (hs:s.size<=140737488355328) (hb:b<s.size) (w:World):Cl 50 #[.string s,.int .i64 b] w (rB w (zct (zea s b))):=by
 have HX:Hid (TX (w.alloc (tkO tk0)) w.heap.size tk0):=TX.new w tk0;have HB:Hid (bW w (w.alloc (tkO tk0))):=zaa w _;have HWr:Hid (∀i e w,Cl 43 #[.int .i64 i,.int .i64 e] w fun e' w'=>e'=.returned (.tuple #[tkG tk0,.int .i64 i,.int .i64 e])/\bW w w'):=fun i e w=>zbP i e w
 have HA:Hid (∀w,Cl 40 #[.string s,.int .i64 ((b:Int)+1)] w (rU w (.int .i64 (chr s (b+1))))):=fun w=>za0 s (b+1) w
 by_cases h43:chr s (b+1)=43
 ·have h1:b+1<s.size:=zaB (by omega)
  have t1:(chr s (b+1)==43)=true:=by rw [h43];rfl
  cases hq:zbR s (b+2) 50 with
  | inr e0 =>
   have HE:Hid (zea s b=.inr (b,e0)):=by show zea s b=_;unfold zea;simp only [h43,if_true,hq,true_or]
   have hne:e0≠0:=zfz hq;have t9:(e0 != 0)=true:=by rw [bne,bF hne];rfl
   have HNu:=(show Hid (∀w,Cl 45 #[.string s,.int .i64 b,.int .i64 ((b:Int)+2),.int .i64 50] w (rU w (.tuple #[.int .i64 0,.int .i64 e0]))) from fun w=>by
    have h:=zbs s b (b+2) 50 hs (by omega) w;rw [hq] at h;exact h)
   clear hq hne;go_enter Tryz.func50,Tryz.ntmps50;go_wp2_with fail;refine (HA _).mono ?_;rintro e w ⟨rfl,rfl⟩;go_wp2_with fail;refine (HNu _).mono ?_;rintro e w2 ⟨rfl,rfl⟩;clear HNu;go_wp2_with fail;refine (HWr _ _ _).mono ?_;rintro e w3 ⟨rfl,b3⟩;have HX3:=hO (HX.below b3);have HB3:Hid (bW w w3):=HB.trans (b3.mono HB.size);clear b3 HWr;obtain ⟨c0,c1,c2,c3,c4,c5,c6,c7,c8⟩:=HX3.cells;obtain ⟨f0,f1,f2,f3,f4,f5,f6,f7,f8⟩:=HX3.fz;go_wp2_with fail;exact zai rfl rfl rfl rfl rfl (zar HX3 tk0) ⟨by rw [HE.out];rfl,zac HB3 (nL _) tk0⟩
  | inl n0 =>
   have HE:Hid (zea s b=.inl ⟨14,n0,b,spN dgB s (b+2),⟨#[]⟩,0,0,0,0⟩):=by show zea s b=_;unfold zea;simp only [h43,if_true,hq,true_or]
   have HNu:=(show Hid (∀w,Cl 45 #[.string s,.int .i64 b,.int .i64 ((b:Int)+2),.int .i64 50] w (rU w (.tuple #[.int .i64 n0,.int .i64 0]))) from fun w=>by
    have h:=zbs s b (b+2) 50 hs (by omega) w;rw [hq] at h;exact h)
   have HDg:Hid (∀w,Cl 46 #[.string s,.int .i64 ((b:Int)+2)] w (rU w (.int .i64 (spN dgB s (b+2))))):=fun w=>zcj s (b+2) hs (by omega) w
   clear hq;go_enter Tryz.func50,Tryz.ntmps50;go_wp2_with fail;refine (HA _).mono ?_;rintro e w ⟨rfl,rfl⟩;go_wp2_with fail;refine (HNu _).mono ?_;rintro e w2 ⟨rfl,rfl⟩;clear HNu;go_wp2_with fail;refine (HDg _).mono ?_;rintro e w3 ⟨rfl,rfl⟩;clear HDg;obtain ⟨c0,c1,c2,c3,c4,c5,c6,c7,c8⟩:=HX.cells;obtain ⟨f0,f1,f2,f3,f4,f5,f6,f7,f8⟩:=HX.fz;go_wp2_with fail;exact zai rfl rfl rfl rfl rfl (TX.new w ⟨14,n0,b,spN dgB s (b+2),⟨#[]⟩,0,0,0,0⟩) ⟨by rw [HE.out];rfl,zaa w _⟩
 ·have t1:(chr s (b+1)==43)=false:=bF h43
  by_cases h45:chr s (b+1)=45
  ·have h1:b+1<s.size:=zaB (by omega)
   have t2:(chr s (b+1)==45)=true:=by rw [h45];rfl
   cases hq:zbR s (b+2) 50 with
   | inr e0 =>
    have HE:Hid (zea s b=.inr (b,e0)):=by show zea s b=_;unfold zea;simp only [h45,if_true,hq,or_true]
    have hne:e0≠0:=zfz hq;have t9:(e0 != 0)=true:=by rw [bne,bF hne];rfl
    have HNu:=(show Hid (∀w,Cl 45 #[.string s,.int .i64 b,.int .i64 ((b:Int)+2),.int .i64 50] w (rU w (.tuple #[.int .i64 0,.int .i64 e0]))) from fun w=>by
     have h:=zbs s b (b+2) 50 hs (by omega) w;rw [hq] at h;exact h)
    clear hq hne;go_enter Tryz.func50,Tryz.ntmps50;go_wp2_with fail;refine (HA _).mono ?_;rintro e w ⟨rfl,rfl⟩;go_wp2_with fail;refine (HA _).mono ?_;rintro e w ⟨rfl,rfl⟩;clear HA;go_wp2_with fail;refine (HNu _).mono ?_;rintro e w2 ⟨rfl,rfl⟩;clear HNu;go_wp2_with fail;refine (HWr _ _ _).mono ?_;rintro e w3 ⟨rfl,b3⟩;have HX3:=hO (HX.below b3);have HB3:Hid (bW w w3):=HB.trans (b3.mono HB.size);clear b3 HWr;obtain ⟨c0,c1,c2,c3,c4,c5,c6,c7,c8⟩:=HX3.cells;obtain ⟨f0,f1,f2,f3,f4,f5,f6,f7,f8⟩:=HX3.fz;go_wp2_with fail;exact zai rfl rfl rfl rfl rfl (zar HX3 tk0) ⟨by rw [HE.out];rfl,zac HB3 (nL _) tk0⟩
   | inl n0 =>
    have HE:Hid (zea s b=.inl ⟨15,n0,b,spN dgB s (b+2),⟨#[]⟩,0,0,0,0⟩):=by show zea s b=_;unfold zea;simp only [h45,if_true,hq,or_true,iN (show ¬(45:Int)=43 by decide)]
    have HNu:=(show Hid (∀w,Cl 45 #[.string s,.int .i64 b,.int .i64 ((b:Int)+2),.int .i64 50] w (rU w (.tuple #[.int .i64 n0,.int .i64 0]))) from fun w=>by
     have h:=zbs s b (b+2) 50 hs (by omega) w;rw [hq] at h;exact h)
    have HDg:Hid (∀w,Cl 46 #[.string s,.int .i64 ((b:Int)+2)] w (rU w (.int .i64 (spN dgB s (b+2))))):=fun w=>zcj s (b+2) hs (by omega) w
    clear hq;go_enter Tryz.func50,Tryz.ntmps50;go_wp2_with fail;refine (HA _).mono ?_;rintro e w ⟨rfl,rfl⟩;go_wp2_with fail;refine (HA _).mono ?_;rintro e w ⟨rfl,rfl⟩;clear HA;go_wp2_with fail;refine (HNu _).mono ?_;rintro e w2 ⟨rfl,rfl⟩;clear HNu;go_wp2_with fail;refine (HDg _).mono ?_;rintro e w3 ⟨rfl,rfl⟩;clear HDg;obtain ⟨c0,c1,c2,c3,c4,c5,c6,c7,c8⟩:=HX.cells;obtain ⟨f0,f1,f2,f3,f4,f5,f6,f7,f8⟩:=HX.fz;go_wp2_with fail;exact zai rfl rfl rfl rfl rfl (TX.new w ⟨15,n0,b,spN dgB s (b+2),⟨#[]⟩,0,0,0,0⟩) ⟨by rw [HE.out];rfl,zaa w _⟩
  ·have t2:(chr s (b+1)==45)=false:=bF h45
   cases hq:zbR s (b+1) 50 with
   | inr e0 =>
    have HE:Hid (zea s b=.inr (b,e0)):=by show zea s b=_;unfold zea;simp only [hq,iN (show ¬(chr s (b+1)=43∨chr s (b+1)=45) by omega)]
    have hne:e0≠0:=zfz hq;have t9:(e0 != 0)=true:=by rw [bne,bF hne];rfl
    have HNu:=(show Hid (∀w,Cl 45 #[.string s,.int .i64 b,.int .i64 ((b:Int)+1),.int .i64 50] w (rU w (.tuple #[.int .i64 0,.int .i64 e0]))) from fun w=>by
     have h:=zbs s b (b+1) 50 hs (by omega) w;rw [hq] at h;exact h)
    clear hq hne;go_enter Tryz.func50,Tryz.ntmps50;go_wp2_with fail;refine (HA _).mono ?_;rintro e w ⟨rfl,rfl⟩;go_wp2_with fail;refine (HA _).mono ?_;rintro e w ⟨rfl,rfl⟩;clear HA;go_wp2_with fail;refine (HNu _).mono ?_;rintro e w2 ⟨rfl,rfl⟩;clear HNu;go_wp2_with fail;refine (HWr _ _ _).mono ?_;rintro e w3 ⟨rfl,b3⟩;have HX3:=hO (HX.below b3);have HB3:Hid (bW w w3):=HB.trans (b3.mono HB.size);clear b3 HWr;obtain ⟨c0,c1,c2,c3,c4,c5,c6,c7,c8⟩:=HX3.cells;obtain ⟨f0,f1,f2,f3,f4,f5,f6,f7,f8⟩:=HX3.fz;go_wp2_with fail;exact zai rfl rfl rfl rfl rfl (zar HX3 tk0) ⟨by rw [HE.out];rfl,zac HB3 (nL _) tk0⟩
   | inl n0 =>
    have HE:Hid (zea s b=.inl ⟨13,n0,b,spN dgB s (b+1),⟨#[]⟩,0,0,0,0⟩):=by show zea s b=_;unfold zea;simp only [iN h43,iN h45,hq,iN (show ¬(chr s (b+1)=43∨chr s (b+1)=45) by omega)]
    have HNu:=(show Hid (∀w,Cl 45 #[.string s,.int .i64 b,.int .i64 ((b:Int)+1),.int .i64 50] w (rU w (.tuple #[.int .i64 n0,.int .i64 0]))) from fun w=>by
     have h:=zbs s b (b+1) 50 hs (by omega) w;rw [hq] at h;exact h)
    have HDg:Hid (∀w,Cl 46 #[.string s,.int .i64 ((b:Int)+1)] w (rU w (.int .i64 (spN dgB s (b+1))))):=fun w=>zcj s (b+1) hs (by omega) w
    clear hq;go_enter Tryz.func50,Tryz.ntmps50;go_wp2_with fail;refine (HA _).mono ?_;rintro e w ⟨rfl,rfl⟩;go_wp2_with fail;refine (HA _).mono ?_;rintro e w ⟨rfl,rfl⟩;clear HA;go_wp2_with fail;refine (HNu _).mono ?_;rintro e w2 ⟨rfl,rfl⟩;clear HNu;go_wp2_with fail;refine (HDg _).mono ?_;rintro e w3 ⟨rfl,rfl⟩;clear HDg;obtain ⟨c0,c1,c2,c3,c4,c5,c6,c7,c8⟩:=HX.cells;obtain ⟨f0,f1,f2,f3,f4,f5,f6,f7,f8⟩:=HX.fz;go_wp2_with fail;exact zai rfl rfl rfl rfl rfl (TX.new w ⟨13,n0,b,spN dgB s (b+1),⟨#[]⟩,0,0,0,0⟩) ⟨by rw [HE.out];rfl,zaa w _⟩
theorem zj9 (s:ByteArray) (b:Nat) (hs:s.size<=140737488355000) (hb:b+1<s.size) (w:World):Cl 51 #[.string s,.int .i64 b] w (rB w (zct (ze8 s b))):=by
 have HWr:Hid (∀i e w,Cl 43 #[.int .i64 i,.int .i64 e] w fun e' w'=>e'=.returned (.tuple #[tkG tk0,.int .i64 i,.int .i64 e])/\bW w w'):=fun i e w=>zbP i e w
 have HA2:Hid (∀w,Cl 40 #[.string s,.int .i64 ((b:Int)+2)] w (rU w (.int .i64 (chr s (b+2))))):=fun w=>za0 s (b+2) w
 have HA:Hid (∀k w,Cl 40 #[.string s,.int .i64 ((k:Nat):Int)] w (rU w (.int .i64 (chr s k)))):=fun k w=>za0 s k w
 have HH:Hid (∀c w,Cl 41 #[.int .i64 c] w (rU w (.bool (hdB c)))):=fun c w=>zfy c w
 have HR:Hid (∀w,Cl 42 #[.string s,.int .i64 ((b:Int)+2)] w (rU w (.int .i64 (spN nmB s (b+2))))):=fun w=>zjf s (b+2) (by omega) (by omega) w
 have hge:=zbe nmB s (by decide) (b+2);have hle:=zbF nmB s (by decide) (b+2) (by omega)
 cases hh:hdB (chr s (b+2)) with
 | false =>
  have HE:Hid (ze8 s b=.inl ⟨21,0,b,b+2,⟨#[]⟩,0,0,0,0⟩):=by show ze8 s b=_;unfold ze8;rw [iN (by rw [hh];simp)]
  go_enter Tryz.func51,Tryz.ntmps51;go_wp2_with fail;refine (HA2 _).mono ?_;rintro e w2 ⟨rfl,rfl⟩;go_wp2_with fail;refine (HH _ _).mono ?_;rintro e w2 ⟨rfl,rfl⟩;rw [hh];clear HA HA2 HH HR hh;go_wp2_with fail;exact zai (t:=⟨21,0,b,b+2,⟨#[]⟩,0,0,0,0⟩) rfl rfl rfl rfl rfl ((TX.new w ⟨21,0,b,b+2,⟨#[]⟩,0,0,0,0⟩).below (zaa _ _)) ⟨by rw [HE.out];rfl,(zaa w _).alloc (zaa w _).size _⟩
 | true =>
  obtain ⟨n,hn⟩:∃n,n=spN nmB s (b+2):=⟨_,rfl⟩;have HU:Hid (ze8 s b=if chr s n=58 then (if 32<n - b - 2 then .inr (b+2,2) else .inl ⟨21,0,b,n+1,s.extract (b+2) n,0,0,0,0⟩) else .inl ⟨21,0,b,b+2,⟨#[]⟩,0,0,0,0⟩):=by
   show ze8 s b=_
   unfold ze8;rw [<-hn];by_cases q:chr s n=58
   ·rw [iP ⟨hh,q⟩,iP q]
   ·rw [iN (fun z=>q z.2),iN q]
  rw [<-hn] at HR hge hle;clear hn;by_cases h58:chr s n=58
  ·have t1:(chr s n==58)=true:=by rw [h58];rfl
   have u1:IntKind.i64.wrap ((n:Int) - (b:Int))=(n:Int) - (b:Int):=by rw [wI];omega
   have u2:IntKind.i64.wrap ((n:Int) - (b:Int) - 2)=((n - b - 2:Nat):Int):=by rw [wI];omega
   by_cases h32:32<n - b - 2
   ·have HE:Hid (ze8 s b=.inr (b+2,2)):=by show ze8 s b=_;rw [HU.out,iP h58,iP h32]
    have HX:Hid (TX ((w.alloc (tkO tk0)).alloc (tkO ⟨21,0,b,b+2,⟨#[]⟩,0,0,0,0⟩)) w.heap.size tk0):=(TX.new w _).below (zaa _ _);have HB:Hid (bW w ((w.alloc (tkO tk0)).alloc (tkO ⟨21,0,b,b+2,⟨#[]⟩,0,0,0,0⟩))):=(zaa w _).alloc (zaa w _).size _;obtain ⟨m,hm⟩:∃m,m=n - b - 2:=⟨_,rfl⟩;rw [<-hm] at u2 h32;have t2:decide (32<m)=true:=decide_eq_true h32;clear hm HU h58;go_enter Tryz.func51,Tryz.ntmps51;go_wp2_with fail;refine (HA2 _).mono ?_;rintro e w2 ⟨rfl,rfl⟩;go_wp2_with fail;refine (HH _ _).mono ?_;rintro e w2 ⟨rfl,rfl⟩;rw [hh];go_wp2_with fail;refine (HR _).mono ?_;rintro e w2 ⟨rfl,rfl⟩;go_wp2_with fail;refine (HA _ _).mono ?_;rintro e w2 ⟨rfl,rfl⟩;clear HA HA2 HH HR hh;go_wp2_with fail;refine (HWr _ _ _).mono ?_;rintro e w3 ⟨rfl,b3⟩;have HX3:=hO (HX.below b3);have HB3:Hid (bW w w3):=HB.trans (b3.mono HB.size);clear b3 HWr HX HB;obtain ⟨c0,c1,c2,c3,c4,c5,c6,c7,c8⟩:=HX3.cells;obtain ⟨f0,f1,f2,f3,f4,f5,f6,f7,f8⟩:=HX3.fz;go_wp2_with fail;exact zai rfl rfl rfl rfl rfl (zar HX3 tk0) ⟨by rw [HE.out];rfl,zac HB3 (nL _) tk0⟩
   ·have HE:Hid (ze8 s b=.inl ⟨21,0,b,n+1,s.extract (b+2) n,0,0,0,0⟩):=by show ze8 s b=_;rw [HU.out,iP h58,iN h32]
    obtain ⟨m,hm⟩:∃m,m=n - b - 2:=⟨_,rfl⟩;rw [<-hm] at u2 h32;have t2:decide (32<m)=false:=dF h32;have z1:(0:Int)<=(b:Int)+2:=by omega
    have z2:(b:Int)+2<=(n:Int):=by omega
    have z3:(n:Int)<=(s.size:Int):=by omega
    clear hm HU h58;go_enter Tryz.func51,Tryz.ntmps51;go_wp2_with fail;refine (HA2 _).mono ?_;rintro e w2 ⟨rfl,rfl⟩;go_wp2_with fail;refine (HH _ _).mono ?_;rintro e w2 ⟨rfl,rfl⟩;rw [hh];go_wp2_with fail;refine (HR _).mono ?_;rintro e w2 ⟨rfl,rfl⟩;go_wp2_with fail;refine (HA _ _).mono ?_;rintro e w2 ⟨rfl,rfl⟩;clear HA HA2 HH HR hh HWr;go_wp2_with fail;exact zai (t:=⟨21,0,b,n+1,s.extract (b+2) n,0,0,0,0⟩) rfl rfl rfl rfl rfl ((TX.new w ⟨21,0,b,n+1,s.extract (b+2) n,0,0,0,0⟩).below (zaa _ _)) ⟨by rw [HE.out];rfl,(zaa w _).alloc (zaa w _).size _⟩
  ·have t1:(chr s n==58)=false:=bF h58
   have HE:Hid (ze8 s b=.inl ⟨21,0,b,b+2,⟨#[]⟩,0,0,0,0⟩):=by show ze8 s b=_;rw [HU.out,iN h58]
   clear HU h58;go_enter Tryz.func51,Tryz.ntmps51;go_wp2_with fail;refine (HA2 _).mono ?_;rintro e w2 ⟨rfl,rfl⟩;go_wp2_with fail;refine (HH _ _).mono ?_;rintro e w2 ⟨rfl,rfl⟩;rw [hh];go_wp2_with fail;refine (HR _).mono ?_;rintro e w2 ⟨rfl,rfl⟩;go_wp2_with fail;refine (HA _ _).mono ?_;rintro e w2 ⟨rfl,rfl⟩;clear HA HA2 HH HR hh HWr;go_wp2_with fail;exact zai (t:=⟨21,0,b,b+2,⟨#[]⟩,0,0,0,0⟩) rfl rfl rfl rfl rfl ((TX.new w ⟨21,0,b,b+2,⟨#[]⟩,0,0,0,0⟩).below (zaa _ _)) ⟨by rw [HE.out];rfl,(zaa w _).alloc (zaa w _).size _⟩
def mbV:Rd (BitVec 256×Nat)->Value
 | .inl (x,n)=>.tuple #[sv x,.int .i64 n,.agg #[.int .i64 0,.int .i64 0]]
 | .inr (a,c)=>.tuple #[sv 0#256,.int .i64 0,.agg #[.int .i64 a,.int .i64 c]]
structure FHolds (w:World) (b:Nat) (p q:Int):Prop where
 lt:b<w.heap.size
 c0:w.cell? ⟨b,0,none⟩=some (.int .i64 p)
 c1:w.cell? ⟨b,1,none⟩=some (.int .i64 q)
 f0:w.frozen? ⟨b,0,none⟩=false
 f1:w.frozen? ⟨b,1,none⟩=false
theorem FHolds.below {B:Nat} {w w':World} {b:Nat} {p q:Int} (h:FHolds w b p q) (hb:Below B w w') (hB:b<B):FHolds w' b p q :=
 ⟨nM h.lt hb.size,(hb.cell (p:=⟨b,0,none⟩) hB).trans h.c0,(hb.cell (p:=⟨b,1,none⟩) hB).trans h.c1,(hb.frozen (p:=⟨b,0,none⟩) hB).trans h.f0,(hb.frozen (p:=⟨b,1,none⟩) hB).trans h.f1⟩
theorem FHolds.new (w:World) (p q:Int):FHolds (w.alloc (.cells #[.int .i64 p,.int .i64 q] 27)) w.heap.size p q:=by
 constructor <;> simp [go_sem]
abbrev fz:Obj:=.cells #[.int .i64 0,.int .i64 0] 27
theorem zcT (w:World):Holds ((w.alloc z4).alloc fz) w.heap.size 0#256/\FHolds ((w.alloc z4).alloc fz) (w.heap.size+1) 0 0/\bW w ((w.alloc z4).alloc fz):=by
 refine ⟨(Holds.zero w).alloc _,?_,((bR _ _).alloc (nL _) _).alloc (by simp) _⟩;have h:=FHolds.new (w.alloc z4) 0 0;rw [show (w.alloc z4).heap.size=w.heap.size+1 from by simp] at h;exact h
theorem zaM {B:Nat} {w w':World} {b c:Nat} {x0 x1 x2 x3 y0 y1:Value} (h:Below B w w') (hb:B<=b) (hc:B<=c) :
  Below B w ((((((w'.setCell ⟨b,0,none⟩ x0).setCell ⟨b,1,none⟩ x1).setCell ⟨b,2,none⟩ x2).setCell ⟨b,3,none⟩ x3).setCell ⟨c,0,none⟩ y0).setCell ⟨c,1,none⟩ y1) :=
 (((((h.setCell hb _).setCell hb _).setCell hb _).setCell hb _).setCell hc _).setCell hc _
theorem zmc (w:World) (p:Addr) (v:Value):(w.setCell p v).heap.size=w.heap.size:=by simp [World.setCell]
theorem zgj {w':World} {b c:Nat} {x0 x1 x2 x3 y0 y1:Value} :
  ((((((w'.setCell ⟨b,0,none⟩ x0).setCell ⟨b,1,none⟩ x1).setCell ⟨b,2,none⟩ x2).setCell ⟨b,3,none⟩ x3).setCell ⟨c,0,none⟩ y0).setCell ⟨c,1,none⟩ y1).heap.size=w'.heap.size:=by
 simp only [zmc]
theorem zfO (s:ByteArray) (i:Nat) (hi:i<=s.size) (hs:s.size<=140737488355328) (w:World) :
  Cl 160 #[.string s,.int .i64 i] w (rB w (mbV (zaW s i))):=by
 obtain ⟨q1,q2,q3⟩:=zcT w;have HH:=hO q1;have HG:=hO q2;have HR:=hO q3;clear q1 q2 q3;by_cases h:i+1<s.size
 ·have hb:s[i+1].toNat<256:=s[i+1].toNat_lt
  have HX:Hid (∀w,Cl 112 #[.int .u8 (s[i+1].toNat:Int)] w (rB w (.tuple #[sv (cls s[i+1].toNat).1,.int .i64 (cls s[i+1].toNat).2]))):=fun w=>zeJ _ hb w
  by_cases hc:(cls s[i+1].toNat).2=0
  ·have HF:Hid (zaW s i=.inl ((cls s[i+1].toNat).1,i+2)):=(by show zaW s i=_;unfold zaW;rw [zam h];rw [iP ⟨h,hc⟩];rfl)
   go_enter Tryz.func160,Tryz.ntmps160;go_wp2_with fail;refine (HX _).mono ?_;rintro e w1 ⟨rfl,hb1⟩;rw [hc];have hl:w.heap.size+1<w1.heap.size:=by have h:=hb1.size;simp at h;omega
   have HR1:=hO (HR.trans (hb1.mono (by simp;omega)));obtain ⟨_,g0,g1,k0,k1⟩:=HG.below hb1 (by simp);obtain ⟨_,c0,c1,c2,c3,f0,f1,f2,f3⟩:=HH.below hb1 (by simp;omega);clear hb1 HX hc HH HG HR;generalize (cls s[i+1].toNat).1=r at *;go_wp2
   rw [HF.out];refine bodyPost_ret (v:=mbV (.inl (r,i+2))) (by simp [results,Tryz.results160,go_sem,mbV,zal, *]) rfl ⟨rfl,?_⟩;exact (zaM HR1 (nL _) (by omega)).alloc (by rw [zgj];omega) _
  ·have HF:Hid (zaW s i=.inr (i,10)):=(by show zaW s i=_;unfold zaW;rw [zam h];rw [iN (fun q=>hc q.2)])
   have hc':((cls s[i+1].toNat).2==0)=false:=bF hc;clear hc;go_enter Tryz.func160,Tryz.ntmps160;go_wp2_with fail;refine (HX _).mono ?_;rintro e w1 ⟨rfl,hb1⟩;have hl:w.heap.size+1<w1.heap.size:=by have h:=hb1.size;simp at h;omega
   have HR1:=hO (HR.trans (hb1.mono (by simp;omega)));obtain ⟨_,g0,g1,k0,k1⟩:=HG.below hb1 (by simp);obtain ⟨_,c0,c1,c2,c3,f0,f1,f2,f3⟩:=HH.below hb1 (by simp;omega);clear hb1 HX HH HG HR;generalize cls s[i+1].toNat=r at *;go_wp2
   rw [HF.out];refine bodyPost_ret (v:=mbV (.inr (i,10))) (by simp [results,Tryz.results160,go_sem,mbV,zal, *]) rfl ⟨rfl,?_⟩;exact (zaM HR1 (nL _) (by omega)).alloc (by rw [zgj];omega) _
 ·have HF:Hid (zaW s i=.inr (i,10)):=(by show zaW s i=_;unfold zaW;rw [iN (fun q=>h q.1)])
  have h1:¬(i:Int)+1<(s.size:Int):=by omega
  go_enter Tryz.func160,Tryz.ntmps160;go_wp2
  rw [HF.out];refine bodyPost_ret (v:=mbV (.inr (i,10))) (by simp [results,Tryz.results160,go_sem,mbV,zal, *]) rfl ⟨rfl,?_⟩;exact ((bR _ _).alloc (nL _) _).alloc (by simp) _
end Go.Proofs.YtkihfkcmcdiajabGreatDoor
