/- DERIVED. Plain mathematics and walks, laid together (5). -/
import Derived.WalkKit
import Derived.Lib.Builder
import Derived.Lib.UnsafeStr
import Derived.Lib.AppendStr
import Derived.Lib.RuneBytes
import Derived.Lib.DecodeN
import Derived.Laws.RangeAny
import Derived.Lib.RuneCount
import Derived.Laws.Runes
import Derived.Lib.Strings
import Derived.Lib.Small
import Derived.Deep.AppendLies
import Derived.Maps.Range
import Derived.OwnWalk
import Derived.ProofKit
import Derived.BigQuiet
import Derived.WalkSmall
import Derived.Deep.RegionHeld3
import Derived.Test.YtnpifgcgjgddoaaGreatDoorPb04
set_option maxRecDepth 100000
set_option maxHeartbeats 8000000
namespace Go.Proofs.YtnpifgcgjgddoaaGreatDoor.N
open Go.RowKit
theorem app_ty (ty : TypeId) (A : Option Addr) (n c : Nat) (x : Value) (W : World) : (Builtin.append_ #[23, 22] ty #[.slice A n c, x]).run Tryz.prog W = (Builtin.append_ #[23, 23] ty #[.slice A n c, x]).run Tryz.prog W := by
 unfold Builtin.append_
 simp only [List.getElem?_toArray, List.getElem?_cons_zero, List.getElem?_cons_succ, Sem.run_bind, run_underlying Tryz.underlying23, Result.andThen_ok, pure_bind]
 refine congrArg (Result.andThen _) (funext fun size => funext fun w2 => ?_)
 simp only [run_underlying Tryz.underlying22, Result.andThen_ok]
theorem zg6 {w : World} {ops : Array Oper} {rest : List Oper} {o : Oper} {a : Act} {Q : Exit -> Act -> World -> Prop} (hgd : o.guard = none) (s x : Operand)
  (ho : o.op = .call { callee := .builtin .append, args := #[s, x], argTypes := #[23, 22] }) (base : Nat) (v : Value) (n : Nat) (xs : List Value) (hs : a.eval s = v) (hown : w.ownsRow base 51 7 v n xs)
  (ad : Addr) (m c : Nat) (news : List Value) (hx : a.eval x = .slice (some ad) m c) (hl : news.length = m * 7) (hnews : ∀ j u, news[j]? = some u -> w.cell? (ad.add j) = some u) (h1 : ∀ u ∈ news, u.oneCell' = true)
  (hm : 0 < m) (h63 : n + m <= 2000000000000) (hbase : base <= w.heap.size)
  (h : ∀ g cap w', w'.ownsRow base 51 7 (.slice (some ⟨g, 0, none⟩) (n + m) cap) (n + m) (xs ++ news) -> w.grownBy w' v.ownBlock -> (v.ownBlock = some g ∨ g = w.heap.size) -> g < w'.heap.size -> wpList Tryz.prog ops Q rest (a.put o.dst (.slice (some ⟨g, 0, none⟩) (n + m) cap)) w') : wpList Tryz.prog ops Q (o :: rest) a w := by
 obtain ⟨i0, hinf, hz0, hz1, hz2⟩ := info_parts T.Tryz.info43
 obtain ⟨A, cp, hv⟩ : ∃ A cp, v = .slice A n cp := by
  rcases hown.2 with ⟨q, h0⟩ | ⟨g, cap, cur, q, _⟩
  ·exact ⟨none, 0, by rw [q, h0]⟩
  ·exact ⟨_, cap, q⟩
 refine wpList_plain hgd fun _ hK => ?_
 obtain ⟨g, cap, w', hr, h2, h3, h4, h5⟩ := run_append_lies (P := Tryz.prog) w 23 o.type base 51 i0 _ 7 64 Tryz.underlying23 hinf hz0 hz1 hz2 rfl (by decide) v n xs hown ad m c news hl hnews h1 hm (by unfold maxLen; omega) (by omega) hbase _ rfl
 rw [hv, <- app_ty, <- hv] at hr
 unfold Oper.wp execOp
 simp only [ho, resolve, invoke, builtin, Sem.run_bind, Sem.run_pure, Result.andThen_ok, List.map_toArray, List.map_cons, List.map_nil, hs, hx, hr]
 exact hK _ _ (h g cap w' h2 h3 h4 h5)
theorem zcp {E : PE} {z : Nat} {w0 W : World} {b : Nat} {tv : Value} {i d : Nat} {v : Value} {L : List Nd} (h : RS E z w0 W b tv i d v L) (hlt : i < E.l.length) (hz : E.l.length <= 1000000) :
  Calls Tryz.prog 90 #[.pointer (some ⟨b, 0, none⟩), .int .i64 (kdA E i)] W fun e W' => e = .returned (.tuple #[]) /\ RS E z w0 W' b tv (i + 1) d v L /\ Fr W W' b v v := by
 obtain ⟨t, ht, hk, _, _⟩ := zam E z h.hi
 have HH : Hid (∀ _ : Unit, Calls Tryz.prog 62 #[.pointer (some ⟨b, 0, none⟩)] W fun e W' => e = .returned (.agg #[.int .i64 t.kd, .int .i64 t.nn, .int .i64 t.fr, .int .i64 t.en, .string t.tx, .int .u64 t.s0, .int .u64 t.s1, .int .u64 t.s2, .int .u64 t.s3]) /\ Below W.heap.size W W') := fun _ => zaq h t ht
 have H := hO h
 have fl0 := zjz
 rw [<- hk]
 have t1 : (t.kd != t.kd) = false := by simp
 obtain ⟨j, hj⟩ : ∃ j, j = i + 1 := ⟨_, rfl⟩
 have u1 : IntKind.i64.wrap ((i : Int) + 1) = (j : Int) := by rw [IntKind.wrap_i64]; omega
 have hj2 : j <= E.l.length := by omega
 rw [<- hj]
 clear h ht hk hj
 go_enter Tryz.func90, Tryz.ntmps90
 go_wp2_with fail
 refine (HH.out ()).mono ?_
 rintro e w1 ⟨rfl, hb⟩
 have H1 := hO (H.out.later hb)
 have HF : Hid (Fr W w1 b v v) := Fr.below b v hb
 clear hb HH H
 obtain ⟨k0, k1, k2, k3⟩ := H1.out.x.cl
 have f1' := H1.out.x.fz 1
 go_wp2_with fail
 go_end0
 exact ⟨rfl, H1.out.s1 hj2, HF.out.trans (Fr.set _ _ _ _ _)⟩
theorem zj1 {E : PE} {z : Nat} {w0 W : World} {b : Nat} {tv : Value} {i d : Nat} {v : Value} {L : List Nd} (h : RS E z w0 W b tv i d v L) (k : Int) (hne : ¬ kdA E i = k) :
  Calls Tryz.prog 90 #[.pointer (some ⟨b, 0, none⟩), .int .i64 k] W fun e W' => e = pnc (plA E z i) 60 /\ Below w0.heap.size w0 W' := by
 obtain ⟨t, ht, hk, _, _⟩ := zam E z h.hi
 have HH : Hid (∀ _ : Unit, Calls Tryz.prog 62 #[.pointer (some ⟨b, 0, none⟩)] W fun e W' => e = .returned (.agg #[.int .i64 t.kd, .int .i64 t.nn, .int .i64 t.fr, .int .i64 t.en, .string t.tx, .int .u64 t.s0, .int .u64 t.s1, .int .u64 t.s2, .int .u64 t.s3]) /\ Below W.heap.size W W') := fun _ => zaq h t ht
 have HR : Hid (∀ W, RS E z w0 W b tv i d v L -> Calls Tryz.prog 64 #[.pointer (some ⟨b, 0, none⟩), .int .i64 60] W fun e W' => e = pnc (plA E z i) 60 /\ Below W.heap.size W W') := fun W h => zbx h 60
 have H := hO h
 have fl0 := zjz
 have t1 : (t.kd != k) = true := by rw [hk]; simpa using hne
 clear h ht hk hne
 go_enter Tryz.func90, Tryz.ntmps90
 go_wp2_with fail
 refine (HH.out ()).mono ?_
 rintro e w1 ⟨rfl, hb⟩
 have H1 := hO (H.out.later hb)
 clear hb HH H
 go_wp2_with fail
 refine (HR.out _ H1.out).mono ?_
 rintro e w2 ⟨rfl, hb⟩
 exact zac rfl ⟨rfl, H1.out.bl.trans (hb.mono H1.out.bl.size)⟩
theorem zh1 {E : PE} {z : Nat} {w0 W : World} {b : Nat} {tv : Value} {i d : Nat} {v : Value} {L : List Nd} (h : RS E z w0 W b tv i d v L) (hlt : i < E.l.length) (hd : ¬ 240 <= d) (hz : E.l.length <= 1000000) :
  Calls Tryz.prog 184 #[.pointer (some ⟨b, 0, none⟩)] W fun e W' => e = .returned (.tuple #[]) /\ RS E z w0 W' b tv (i + 1) (d + 1) v L /\ Fr W W' b v v := by
 have H := hO h
 obtain ⟨j, hj⟩ : ∃ j, j = i + 1 := ⟨_, rfl⟩
 have u1 : IntKind.i64.wrap ((i : Int) + 1) = (j : Int) := by rw [IntKind.wrap_i64]; omega
 obtain ⟨m, hm⟩ : ∃ m, m = d + 1 := ⟨_, rfl⟩
 have u2 : IntKind.i64.wrap ((d : Int) + 1) = (m : Int) := by rw [IntKind.wrap_i64]; omega
 have t1 : ((d : Int) == 240) = false := by rw [beq_eq_false_iff_ne]; omega
 have H2 : Hid (RS E z w0 (W.setCell ⟨b, 2, none⟩ (.int .i64 m)) b tv i m v L) := h.s2 (by omega)
 have hj2 : j <= E.l.length := by omega
 rw [<- hj, <- hm]
 clear h hj hm
 obtain ⟨k0, k1, k2, k3⟩ := H.out.x.cl
 have f1' := H.out.x.fz 1
 have f2' := H.out.x.fz 2
 go_enter Tryz.func184, Tryz.ntmps184
 go_wp2_with fail
 go_end0
 exact ⟨rfl, H2.out.s1 hj2, (Fr.set _ _ _ _ _).trans (Fr.set _ _ _ _ _)⟩
theorem zh2 {E : PE} {z : Nat} {w0 W : World} {b : Nat} {tv : Value} {i d : Nat} {v : Value} {L : List Nd} (h : RS E z w0 W b tv i d v L) (hd : 240 <= d) :
  Calls Tryz.prog 184 #[.pointer (some ⟨b, 0, none⟩)] W fun e W' => e = pnc (plA E z i) 4 /\ Below w0.heap.size w0 W' := by
 have H := hO h
 obtain rfl : d = 240 := by have := h.hd; omega
 have HR : Hid (∀ W, RS E z w0 W b tv i 240 v L -> Calls Tryz.prog 64 #[.pointer (some ⟨b, 0, none⟩), .int .i64 4] W fun e W' => e = pnc (plA E z i) 4 /\ Below W.heap.size W W') := fun W h => zbx h 4
 clear h hd
 obtain ⟨k0, k1, k2, k3⟩ := H.out.x.cl
 go_enter Tryz.func184, Tryz.ntmps184
 go_wp2_with fail
 refine (HR.out _ H.out).mono ?_
 rintro e w2 ⟨rfl, hb⟩
 exact zac rfl ⟨rfl, H.out.bl.trans (hb.mono H.out.bl.size)⟩
theorem zgh {E : PE} {z : Nat} {w0 W : World} {b : Nat} {tv : Value} {i d : Nat} {v : Value} {L : List Nd} (h : RS E z w0 W b tv i (d + 1) v L) :
  Calls Tryz.prog 185 #[.pointer (some ⟨b, 0, none⟩)] W fun e W' => e = .returned (.tuple #[]) /\ RS E z w0 W' b tv i d v L /\ Fr W W' b v v := by
 have hd := h.hd
 have H := hO h
 obtain ⟨m, hm⟩ : ∃ m, m = d + 1 := ⟨_, rfl⟩
 have u2 : IntKind.i64.wrap ((m : Int) - 1) = (d : Int) := by rw [IntKind.wrap_i64]; omega
 rw [<- hm] at H
 have hd2 : d <= 240 := by omega
 clear h hm hd
 obtain ⟨k0, k1, k2, k3⟩ := H.out.x.cl
 have f2' := H.out.x.fz 2
 go_enter Tryz.func185, Tryz.ntmps185
 go_wp2_with fail
 go_end0
 exact ⟨rfl, H.out.s2 hd2, Fr.set _ _ _ _ _⟩
theorem zj2 {E : PE} {z : Nat} {w0 W : World} {b : Nat} {tv : Value} {i d : Nat} {v : Value} {L : List Nd} (h : RS E z w0 W b tv i d v L) (M : List Nd) (q c : Nat) (hM : 0 < M.length) (hl : L.length + M.length <= 2000000000000)
  (hq : ∀ j u, (T.ndc M)[j]? = some u -> W.cell? ((⟨q, 0, none⟩ : Addr).add j) = some u) :
  Calls Tryz.prog 119 #[.pointer (some ⟨b, 0, none⟩), .slice (some ⟨q, 0, none⟩) M.length c] W fun e W' => e = .returned (.tuple #[]) /\ ∃ v', RS E z w0 W' b tv i d v' (L ++ M) /\ Fr W W' b v v' := by
 have H := hO h
 have HQ : Hid (∀ j u, (T.ndc M)[j]? = some u -> W.cell? ((⟨q, 0, none⟩ : Addr).add j) = some u) := hq
 have H1 := (show Hid (∀ u ∈ T.ndc M, u.oneCell' = true) from fun u hu => by
  unfold T.ndc at hu
  rw [List.mem_flatMap] at hu
  obtain ⟨n, _, hn⟩ := hu
  exact T.zgg n u hn)
 obtain ⟨k0, k1, k2, k3⟩ := h.x.cl
 clear h hq
 go_enter Tryz.func119, Tryz.ntmps119
 go_wp2_with (at_builtin; refine zg6 rfl _ _ rfl w0.heap.size _ _ _ rfl H.out.o ⟨q, 0, none⟩ M.length c (T.ndc M) rfl (T.zgX M) HQ.out H1.out hM hl H.out.bl.size ?_)
 intro g cap w1 hown hgrow hat hlt
 have H2 : Hid (RS E z w0 (w1.setCell ⟨b, 3, none⟩ (.slice (some ⟨g, 0, none⟩) (L.length + M.length) cap)) b tv i d (.slice (some ⟨g, 0, none⟩) (L.length + M.length) cap) (L ++ M)) := H.out.grow hgrow (by rw [List.length_append, T.zdD]; exact hown)
 have HF : Hid (Fr W (w1.setCell ⟨b, 3, none⟩ (.slice (some ⟨g, 0, none⟩) (L.length + M.length) cap)) b v (.slice (some ⟨g, 0, none⟩) (L.length + M.length) cap)) := (Fr.grow b hgrow hat).trans (Fr.set _ _ _ _ _)
 have hx : RX w1 b tv i d v := H.out.x.same (hgrow.block b H.out.x.lt (fun e => H.out.x.ne H.out.o (by decide) e.symm rfl))
 have c3 := hx.cl.2.2.2
 have f3 := hx.fz 3
 clear hown hgrow hat hlt hx k0 k1 k2 k3 HQ H1 H
 go_wp2_with fail
 go_end0
 exact ⟨rfl, _, H2.out, HF.out⟩
theorem zb9 {E : PE} {z : Nat} {w0 W : World} {b : Nat} {tv : Value} {i d : Nat} {v : Value} {L : List Nd} (h : RS E z w0 W b tv i d v L) (hz : E.l.length <= 1000000) :
  Calls Tryz.prog 43 #[.pointer (some ⟨b, 0, none⟩)] W fun e W' => e = .returned (.bool (ruB E i)) /\ Below W.heap.size W W' := by
 obtain ⟨t, ht, hk, _, _⟩ := zam E z h.hi
 have HH : Hid (∀ _ : Unit, Calls Tryz.prog 62 #[.pointer (some ⟨b, 0, none⟩)] W fun e W' => e = .returned (.agg #[.int .i64 t.kd, .int .i64 t.nn, .int .i64 t.fr, .int .i64 t.en, .string t.tx, .int .u64 t.s0, .int .u64 t.s1, .int .u64 t.s2, .int .u64 t.s3]) /\ Below W.heap.size W W') := fun _ => zaq h t ht
 have H := hO h
 have fl0 := zjz
 by_cases h1 : kdA E i = 1
 ·have hlt := zbi (E := E) (i := i) (by omega)
  have HB : Hid (∀ W, RS E z w0 W b tv i d v L -> Calls Tryz.prog 65 #[.pointer (some ⟨b, 0, none⟩)] W fun e W' => e = .returned (.int .i64 (kdA E (i + 1))) /\ Below W.heap.size W W') := fun W h => ze9 h hlt hz
  have HR : Hid (ruB E i = (kdA E (i + 1) == 6)) := by show ruB E i = _; unfold ruB; rw [h1]; rfl
  rw [hk.trans h1] at HH
  clear h ht hk h1 hlt
  generalize kdA E (i + 1) = k2 at *
  go_enter Tryz.func43, Tryz.ntmps43
  go_wp2_with fail
  refine (HH.out ()).mono ?_
  rintro e w1 ⟨rfl, hb⟩
  have H1 := hO (H.out.later hb)
  have HB1 := hO hb
  clear hb HH H
  go_wp2_with fail
  refine (HB.out _ H1.out).mono ?_
  rintro e w2 ⟨rfl, hb⟩
  go_wp2_with fail
  go_ret
  exact ⟨by rw [HR.out]; rfl, HB1.out.trans (hb.mono HB1.out.size)⟩
 ·have HR : Hid (ruB E i = false) := by show ruB E i = _; unfold ruB; rw [bF h1]; rfl
  have t1 : (t.kd == 1) = false := by rw [hk]; exact bF h1
  clear h ht hk h1
  go_enter Tryz.func43, Tryz.ntmps43
  go_wp2_with fail
  refine (HH.out ()).mono ?_
  rintro e w1 ⟨rfl, hb⟩
  have HB1 := hO hb
  clear hb HH H
  go_wp2_with fail
  go_ret
  exact ⟨by rw [HR.out]; rfl, HB1.out⟩
def prK (k : Int) : Bool := k == 2 || k == 3 || k == 28 || k == 5 || k == 18 || k == 29 || k == 30 || k == 16 || k == 19 || k == 21 || k == 23 || k == 25
def bgP (E : PE) (i : Nat) : Bool := prK (kdA E i) || (kdA E i == 1 && !(kdA E (i + 1) == 6))
theorem zj3 (E : PE) (i : Nat) : bgn E i = (kdA E i == 8 || kdA E i == 9 || bgP E i) := by
 unfold bgn bgP bgK prK
 simp only [Bool.or_assoc]
theorem zaF {E : PE} {z : Nat} {w0 W : World} {b : Nat} {tv : Value} {i d : Nat} {v : Value} {L : List Nd} (h : RS E z w0 W b tv i d v L) (hz : E.l.length <= 1000000) :
  Calls Tryz.prog 164 #[.pointer (some ⟨b, 0, none⟩)] W fun e W' => e = .returned (.bool (bgP E i)) /\ Below W.heap.size W W' := by
 obtain ⟨t, ht, hk, _, _⟩ := zam E z h.hi
 have HH : Hid (∀ _ : Unit, Calls Tryz.prog 62 #[.pointer (some ⟨b, 0, none⟩)] W fun e W' => e = .returned (.agg #[.int .i64 t.kd, .int .i64 t.nn, .int .i64 t.fr, .int .i64 t.en, .string t.tx, .int .u64 t.s0, .int .u64 t.s1, .int .u64 t.s2, .int .u64 t.s3]) /\ Below W.heap.size W W') := fun _ => zaq h t ht
 have H := hO h
 have fl0 := zjz
 by_cases c2 : kdA E i = 2
 ·have HR : Hid (bgP E i = true) := by show bgP E i = _; unfold bgP; rw [c2]; rfl
  rw [hk.trans c2] at HH
  clear h ht hk c2 H
  go_enter Tryz.func164, Tryz.ntmps164
  go_wp2_with fail
  refine (HH.out ()).mono ?_
  rintro e w1 ⟨rfl, hb⟩
  have HB1 := hO hb
  clear hb HH
  go_wp2_with fail
  go_ret
  exact ⟨by rw [HR.out]; rfl, HB1.out⟩
 by_cases c3 : kdA E i = 3
 ·have HR : Hid (bgP E i = true) := by show bgP E i = _; unfold bgP; rw [c3]; rfl
  rw [hk.trans c3] at HH
  clear h ht hk c3 c2 H
  go_enter Tryz.func164, Tryz.ntmps164
  go_wp2_with fail
  refine (HH.out ()).mono ?_
  rintro e w1 ⟨rfl, hb⟩
  have HB1 := hO hb
  clear hb HH
  go_wp2_with fail
  go_ret
  exact ⟨by rw [HR.out]; rfl, HB1.out⟩
 by_cases c28 : kdA E i = 28
 ·have HR : Hid (bgP E i = true) := by show bgP E i = _; unfold bgP; rw [c28]; rfl
  rw [hk.trans c28] at HH
  clear h ht hk c28 c2 c3 H
  go_enter Tryz.func164, Tryz.ntmps164
  go_wp2_with fail
  refine (HH.out ()).mono ?_
  rintro e w1 ⟨rfl, hb⟩
  have HB1 := hO hb
  clear hb HH
  go_wp2_with fail
  go_ret
  exact ⟨by rw [HR.out]; rfl, HB1.out⟩
 by_cases c5 : kdA E i = 5
 ·have HR : Hid (bgP E i = true) := by show bgP E i = _; unfold bgP; rw [c5]; rfl
  rw [hk.trans c5] at HH
  clear h ht hk c5 c2 c3 c28 H
  go_enter Tryz.func164, Tryz.ntmps164
  go_wp2_with fail
  refine (HH.out ()).mono ?_
  rintro e w1 ⟨rfl, hb⟩
  have HB1 := hO hb
  clear hb HH
  go_wp2_with fail
  go_ret
  exact ⟨by rw [HR.out]; rfl, HB1.out⟩
 by_cases c18 : kdA E i = 18
 ·have HR : Hid (bgP E i = true) := by show bgP E i = _; unfold bgP; rw [c18]; rfl
  rw [hk.trans c18] at HH
  clear h ht hk c18 c2 c3 c28 c5 H
  go_enter Tryz.func164, Tryz.ntmps164
  go_wp2_with fail
  refine (HH.out ()).mono ?_
  rintro e w1 ⟨rfl, hb⟩
  have HB1 := hO hb
  clear hb HH
  go_wp2_with fail
  go_ret
  exact ⟨by rw [HR.out]; rfl, HB1.out⟩
 by_cases c29 : kdA E i = 29
 ·have HR : Hid (bgP E i = true) := by show bgP E i = _; unfold bgP; rw [c29]; rfl
  rw [hk.trans c29] at HH
  clear h ht hk c29 c2 c3 c28 c5 c18 H
  go_enter Tryz.func164, Tryz.ntmps164
  go_wp2_with fail
  refine (HH.out ()).mono ?_
  rintro e w1 ⟨rfl, hb⟩
  have HB1 := hO hb
  clear hb HH
  go_wp2_with fail
  go_ret
  exact ⟨by rw [HR.out]; rfl, HB1.out⟩
 by_cases c30 : kdA E i = 30
 ·have HR : Hid (bgP E i = true) := by show bgP E i = _; unfold bgP; rw [c30]; rfl
  rw [hk.trans c30] at HH
  clear h ht hk c30 c2 c3 c28 c5 c18 c29 H
  go_enter Tryz.func164, Tryz.ntmps164
  go_wp2_with fail
  refine (HH.out ()).mono ?_
  rintro e w1 ⟨rfl, hb⟩
  have HB1 := hO hb
  clear hb HH
  go_wp2_with fail
  go_ret
  exact ⟨by rw [HR.out]; rfl, HB1.out⟩
 by_cases c16 : kdA E i = 16
 ·have HR : Hid (bgP E i = true) := by show bgP E i = _; unfold bgP; rw [c16]; rfl
  rw [hk.trans c16] at HH
  clear h ht hk c16 c2 c3 c28 c5 c18 c29 c30 H
  go_enter Tryz.func164, Tryz.ntmps164
  go_wp2_with fail
  refine (HH.out ()).mono ?_
  rintro e w1 ⟨rfl, hb⟩
  have HB1 := hO hb
  clear hb HH
  go_wp2_with fail
  go_ret
  exact ⟨by rw [HR.out]; rfl, HB1.out⟩
 by_cases c19 : kdA E i = 19
 ·have HR : Hid (bgP E i = true) := by show bgP E i = _; unfold bgP; rw [c19]; rfl
  rw [hk.trans c19] at HH
  clear h ht hk c19 c2 c3 c28 c5 c18 c29 c30 c16 H
  go_enter Tryz.func164, Tryz.ntmps164
  go_wp2_with fail
  refine (HH.out ()).mono ?_
  rintro e w1 ⟨rfl, hb⟩
  have HB1 := hO hb
  clear hb HH
  go_wp2_with fail
  go_ret
  exact ⟨by rw [HR.out]; rfl, HB1.out⟩
 by_cases c21 : kdA E i = 21
 ·have HR : Hid (bgP E i = true) := by show bgP E i = _; unfold bgP; rw [c21]; rfl
  rw [hk.trans c21] at HH
  clear h ht hk c21 c2 c3 c28 c5 c18 c29 c30 c16 c19 H
  go_enter Tryz.func164, Tryz.ntmps164
  go_wp2_with fail
  refine (HH.out ()).mono ?_
  rintro e w1 ⟨rfl, hb⟩
  have HB1 := hO hb
  clear hb HH
  go_wp2_with fail
  go_ret
  exact ⟨by rw [HR.out]; rfl, HB1.out⟩
 by_cases c23 : kdA E i = 23
 ·have HR : Hid (bgP E i = true) := by show bgP E i = _; unfold bgP; rw [c23]; rfl
  rw [hk.trans c23] at HH
  clear h ht hk c23 c2 c3 c28 c5 c18 c29 c30 c16 c19 c21 H
  go_enter Tryz.func164, Tryz.ntmps164
  go_wp2_with fail
  refine (HH.out ()).mono ?_
  rintro e w1 ⟨rfl, hb⟩
  have HB1 := hO hb
  clear hb HH
  go_wp2_with fail
  go_ret
  exact ⟨by rw [HR.out]; rfl, HB1.out⟩
 by_cases c25 : kdA E i = 25
 ·have HR : Hid (bgP E i = true) := by show bgP E i = _; unfold bgP; rw [c25]; rfl
  rw [hk.trans c25] at HH
  clear h ht hk c25 c2 c3 c28 c5 c18 c29 c30 c16 c19 c21 c23 H
  go_enter Tryz.func164, Tryz.ntmps164
  go_wp2_with fail
  refine (HH.out ()).mono ?_
  rintro e w1 ⟨rfl, hb⟩
  have HB1 := hO hb
  clear hb HH
  go_wp2_with fail
  go_ret
  exact ⟨by rw [HR.out]; rfl, HB1.out⟩
 by_cases c1 : kdA E i = 1
 ·have HR : Hid (bgP E i = !(ruB E i)) := by
   show bgP E i = _
   unfold bgP ruB
   rw [c1]
   show (false || (true && !(kdA E (i + 1) == 6))) = !(true && (kdA E (i + 1) == 6))
   simp
  have HU : Hid (∀ W, RS E z w0 W b tv i d v L -> Calls Tryz.prog 43 #[.pointer (some ⟨b, 0, none⟩)] W fun e W' => e = .returned (.bool (ruB E i)) /\ Below W.heap.size W W') := fun W h => zb9 h hz
  have hnot : ∀ (x : Bool) (w : World), (Op.unary .not (.bool x)).run Tryz.prog w = .ok (.bool (!x)) w := fun _ _ => rfl
  rw [hk.trans c1] at HH
  clear h ht hk c1 c2 c3 c28 c5 c18 c29 c30 c16 c19 c21 c23 c25
  generalize ruB E i = r2 at *
  go_enter Tryz.func164, Tryz.ntmps164
  go_wp2_with fail
  refine (HH.out ()).mono ?_
  rintro e w1 ⟨rfl, hb⟩
  have H1 := hO (H.out.later hb)
  have HB1 := hO hb
  clear hb HH H
  go_wp2_with fail
  refine (HU.out _ H1.out).mono ?_
  rintro e w2 ⟨rfl, hb⟩
  go_wp2_with fail
  go_ret
  exact ⟨by rw [HR.out]; rfl, HB1.out.trans (hb.mono HB1.out.size)⟩
 ·have HR : Hid (bgP E i = false) := by
   show bgP E i = _
   unfold bgP prK
   simp only [bF c1, bF c2, bF c3, bF c28, bF c5, bF c18, bF c29, bF c30, bF c16, bF c19, bF c21, bF c23, bF c25]
   rfl
  have v1 : (t.kd == 1) = false := by rw [hk]; exact bF c1
  have v2 : (t.kd == 2) = false := by rw [hk]; exact bF c2
  have v3 : (t.kd == 3) = false := by rw [hk]; exact bF c3
  have v28 : (t.kd == 28) = false := by rw [hk]; exact bF c28
  have v5 : (t.kd == 5) = false := by rw [hk]; exact bF c5
  have v18 : (t.kd == 18) = false := by rw [hk]; exact bF c18
  have v29 : (t.kd == 29) = false := by rw [hk]; exact bF c29
  have v30 : (t.kd == 30) = false := by rw [hk]; exact bF c30
  have v16 : (t.kd == 16) = false := by rw [hk]; exact bF c16
  have v19 : (t.kd == 19) = false := by rw [hk]; exact bF c19
  have v21 : (t.kd == 21) = false := by rw [hk]; exact bF c21
  have v23 : (t.kd == 23) = false := by rw [hk]; exact bF c23
  have v25 : (t.kd == 25) = false := by rw [hk]; exact bF c25
  clear h ht hk c1 c2 c3 c28 c5 c18 c29 c30 c16 c19 c21 c23 c25 H
  go_enter Tryz.func164, Tryz.ntmps164
  go_wp2_with fail
  refine (HH.out ()).mono ?_
  rintro e w1 ⟨rfl, hb⟩
  have HB1 := hO hb
  clear hb HH
  go_wp2_with fail
  go_ret
  exact ⟨by rw [HR.out]; rfl, HB1.out⟩
theorem zft {E : PE} {z : Nat} {w0 W : World} {b : Nat} {tv : Value} {i d : Nat} {v : Value} {L : List Nd} (h : RS E z w0 W b tv i d v L) (hz : E.l.length <= 1000000) :
  Calls Tryz.prog 146 #[.pointer (some ⟨b, 0, none⟩)] W fun e W' => e = .returned (.bool (bgn E i)) /\ Below W.heap.size W W' := by
 obtain ⟨t, ht, hk, _, _⟩ := zam E z h.hi
 have HH : Hid (∀ _ : Unit, Calls Tryz.prog 62 #[.pointer (some ⟨b, 0, none⟩)] W fun e W' => e = .returned (.agg #[.int .i64 t.kd, .int .i64 t.nn, .int .i64 t.fr, .int .i64 t.en, .string t.tx, .int .u64 t.s0, .int .u64 t.s1, .int .u64 t.s2, .int .u64 t.s3]) /\ Below W.heap.size W W') := fun _ => zaq h t ht
 have H := hO h
 have fl0 := zjz
 by_cases c8 : kdA E i = 8
 ·have HR : Hid (bgn E i = true) := by show bgn E i = _; unfold bgn; rw [c8]; rfl
  rw [hk.trans c8] at HH
  clear h ht hk c8 H
  go_enter Tryz.func146, Tryz.ntmps146
  go_wp2_with fail
  refine (HH.out ()).mono ?_
  rintro e w1 ⟨rfl, hb⟩
  have HB1 := hO hb
  clear hb HH
  go_wp2_with fail
  go_ret
  exact ⟨by rw [HR.out]; rfl, HB1.out⟩
 by_cases c9 : kdA E i = 9
 ·have HR : Hid (bgn E i = true) := by show bgn E i = _; unfold bgn; rw [c9]; rfl
  rw [hk.trans c9] at HH
  clear h ht hk c9 c8 H
  go_enter Tryz.func146, Tryz.ntmps146
  go_wp2_with fail
  refine (HH.out ()).mono ?_
  rintro e w1 ⟨rfl, hb⟩
  have HB1 := hO hb
  clear hb HH
  go_wp2_with fail
  go_ret
  exact ⟨by rw [HR.out]; rfl, HB1.out⟩
 have HR : Hid (bgn E i = bgP E i) := by show bgn E i = _; rw [zj3, bF c8, bF c9]; rfl
 have HU : Hid (∀ W, RS E z w0 W b tv i d v L -> Calls Tryz.prog 164 #[.pointer (some ⟨b, 0, none⟩)] W fun e W' => e = .returned (.bool (bgP E i)) /\ Below W.heap.size W W') := fun W h => zaF h hz
 have v8 : (t.kd == 8) = false := by rw [hk]; exact bF c8
 have v9 : (t.kd == 9) = false := by rw [hk]; exact bF c9
 clear h ht hk c8 c9
 generalize bgP E i = r2 at *
 go_enter Tryz.func146, Tryz.ntmps146
 go_wp2_with fail
 refine (HH.out ()).mono ?_
 rintro e w1 ⟨rfl, hb⟩
 have H1 := hO (H.out.later hb)
 have HB1 := hO hb
 clear hb HH H
 go_wp2_with fail
 refine (HU.out _ H1.out).mono ?_
 rintro e w2 ⟨rfl, hb⟩
 go_wp2_with fail
 go_ret
 exact ⟨by rw [HR.out]; rfl, HB1.out.trans (hb.mono HB1.out.size)⟩
def sfO (k : Int) : Int := if k = 10 then 11 else if k = 11 then 9 else if k = 12 then 10 else if k = 13 then 14 else if k = 14 then 15 else if k = 15 then 16 else 0
def sfB (k : Int) : Bool := k == 10 || k == 11 || k == 12 || k == 13 || k == 14 || k == 15
theorem zgi (k : Int) (W : World) : Calls Tryz.prog 188 #[.int .i64 k] W fun e W' => e = .returned (.tuple #[.int .i64 (sfO k), .bool (sfB k)]) /\ W' = W := by
 by_cases c10 : k = 10
 ·subst c10
  go_enter Tryz.func188, Tryz.ntmps188
  go_wp2_with fail
  go_ret2
  exact ⟨rfl, rfl⟩
 by_cases c11 : k = 11
 ·subst c11
  clear c10
  go_enter Tryz.func188, Tryz.ntmps188
  go_wp2_with fail
  go_ret2
  exact ⟨rfl, rfl⟩
 by_cases c12 : k = 12
 ·subst c12
  clear c10 c11
  go_enter Tryz.func188, Tryz.ntmps188
  go_wp2_with fail
  go_ret2
  exact ⟨rfl, rfl⟩
 by_cases c13 : k = 13
 ·subst c13
  clear c10 c11 c12
  go_enter Tryz.func188, Tryz.ntmps188
  go_wp2_with fail
  go_ret2
  exact ⟨rfl, rfl⟩
 by_cases c14 : k = 14
 ·subst c14
  clear c10 c11 c12 c13
  go_enter Tryz.func188, Tryz.ntmps188
  go_wp2_with fail
  go_ret2
  exact ⟨rfl, rfl⟩
 by_cases c15 : k = 15
 ·subst c15
  clear c10 c11 c12 c13 c14
  go_enter Tryz.func188, Tryz.ntmps188
  go_wp2_with fail
  go_ret2
  exact ⟨rfl, rfl⟩
 have v10 : (k == 10) = false := bF c10
 have v11 : (k == 11) = false := bF c11
 have v12 : (k == 12) = false := bF c12
 have v13 : (k == 13) = false := bF c13
 have v14 : (k == 14) = false := bF c14
 have v15 : (k == 15) = false := bF c15
 have e1 : sfO k = 0 := by unfold sfO; rw [if_neg c10, if_neg c11, if_neg c12, if_neg c13, if_neg c14, if_neg c15]
 have e2 : sfB k = false := by unfold sfB; rw [v10, v11, v12, v13, v14, v15]; rfl
 rw [e1, e2]
 clear c10 c11 c12 c13 c14 c15 e1 e2
 go_enter Tryz.func188, Tryz.ntmps188
 go_wp2_with fail
 go_ret2
 exact ⟨rfl, rfl⟩
end Go.Proofs.YtnpifgcgjgddoaaGreatDoor.N
namespace Go.Proofs.YtnpifgcgjgddoaaGreatDoor.R
open Go.RowKit
theorem zeh (lo hi : Int) (w : World) (h0 : 0 <= lo) (hle : lo <= hi) (h1 : hi <= 255) :
  Calls Tryz.prog 183 #[.agg #[.int .u64 0, .int .u64 0, .int .u64 0, .int .u64 0], .int .i64 lo, .int .i64 hi] w fun e w' => e = .returned (sv (spn lo hi)) /\ Below w.heap.size w w' := by
 have h := zcO 0#256 lo hi w h0 hle h1
 rw [BitVec.zero_or, sv, zah, zah, zah, zah] at h
 exact h
theorem ziZ (lo hi : Int) (w : World) (h0 : 0 <= lo) (hle : lo <= hi) (h1 : hi <= 255) :
  Calls Tryz.prog 218 #[.int .i64 lo, .int .i64 hi] w fun e w' => e = .returned (.bool true) /\ w' = w := by
 have H1 : Hid (∀ w, Calls Tryz.prog 189 #[.int .i64 lo] w fun e w' => e = .returned (.bool true) /\ w' = w) := fun w => by
  have e := zbv lo w
  rwa [decide_eq_true h0, decide_eq_true (show lo <= 255 by omega)] at e
 have H2 : Hid (∀ w, Calls Tryz.prog 189 #[.int .i64 hi] w fun e w' => e = .returned (.bool true) /\ w' = w) := fun w => by
  have e := zbv hi w
  rwa [decide_eq_true (show 0 <= hi by omega), decide_eq_true h1] at e
 clear h0 h1
 go_enter Tryz.func218, Tryz.ntmps218
 go_wp2_with fail
 refine (H1.out _).mono ?_
 rintro e w' ⟨rfl, rfl⟩
 go_wp2_with fail
 refine (H2.out _).mono ?_
 rintro e w' ⟨rfl, rfl⟩
 go_wp2
 go_ret
 exact ⟨rfl, rfl⟩
theorem zj4 (lo hi : Int) (w : World) (h0 : 0 <= lo) (hle : lo <= hi) (h1 : hi <= 255) :
  Calls Tryz.prog 215 #[.int .i64 lo, .int .i64 hi] w fun e w' => e = .returned (.tuple #[sv (spn lo hi), .int .i64 0]) /\ Below w.heap.size w w' := by
 have HH := hO (Holds.zero w)
 have HR := hO ((Below.refl w.heap.size w).alloc (Nat.le_refl _) (.cells #[.int .u64 0, .int .u64 0, .int .u64 0, .int .u64 0] 49))
 have H1 : Hid (∀ w, Calls Tryz.prog 218 #[.int .i64 lo, .int .i64 hi] w fun e w' => e = .returned (.bool true) /\ w' = w) := fun w => ziZ lo hi w h0 hle h1
 have H2 : Hid (∀ w, Calls Tryz.prog 183 #[.agg #[.int .u64 0, .int .u64 0, .int .u64 0, .int .u64 0], .int .i64 lo, .int .i64 hi] w fun e w' => e = .returned (sv (spn lo hi)) /\ Below w.heap.size w w') := fun w => zeh lo hi w h0 hle h1
 generalize spn lo hi = r at *
 go_enter Tryz.func215, Tryz.ntmps215
 go_wp2_with fail
 refine (H1.out _).mono ?_
 rintro e w1 ⟨rfl, rfl⟩
 go_wp2_with fail
 refine (H2.out _).mono ?_
 rintro e w2 ⟨rfl, hb⟩
 have HR2 := hO (HR.out.trans (hb.mono (by simp)))
 obtain ⟨l0, c0, c1, c2, c3, f0, f1, f2, f3⟩ := HH.out.below hb (by simp)
 clear hb
 go_wp2
 exact bodyPost_ret (v := .tuple #[sv r, .int .i64 0]) (by simp [results, Tryz.results215, go_sem, *]) rfl ⟨rfl, (((HR2.out.setCell (Nat.le_refl _) _).setCell (Nat.le_refl _) _).setCell (Nat.le_refl _) _).setCell (Nat.le_refl _) _⟩
def chr (s : ByteArray) (i : Nat) : Int := if h : i < s.size then (s[i].toNat : Int) else -1
theorem zak {s : ByteArray} {i : Nat} (h : i < s.size) : chr s i = (s[i].toNat : Int) := by unfold chr; rw [dif_pos h]
theorem zau {s : ByteArray} {i : Nat} (h : ¬ i < s.size) : chr s i = -1 := by unfold chr; rw [dif_neg h]
def zae (l : List Int) : ByteArray := l.foldl (fun r n => r.push (UInt8.ofNat n.toNat)) ByteArray.empty
theorem za4 (l : List Int) : (zae l).data.toList = l.map (fun n => UInt8.ofNat n.toNat) := by
 have key : ∀ (l : List Int) (s : ByteArray), (l.foldl (fun r n => r.push (UInt8.ofNat n.toNat)) s).data.toList = s.data.toList ++ l.map (fun n => UInt8.ofNat n.toNat) := by
  intro l
  induction l with
  | nil => intro s; simp
  | cons b l ih => intro s; rw [List.foldl_cons, ih]; simp [ByteArray.push]
 have := key l ByteArray.empty
 simpa [zae] using this
def By (l : List Int) : Prop := ∀ n ∈ l, 0 <= n /\ n <= 255
theorem zce (l : List Int) : zae l = ⟨(l.map fun n => UInt8.ofNat n.toNat).toArray⟩ := by
 have h := za4 l
 cases ht : zae l with
 | mk d =>
  rw [ht] at h
  cases d with
  | mk x => simp at h; rw [h]
theorem zao (l : List Int) : (zae l).size = l.length := by
 rw [zce]; show (List.toArray _).size = _; simp
def cp (n : Int) : Prop := 0 <= n /\ n <= 1114111 /\ ¬ (55296 <= n /\ n <= 57343)
abbrev enL (n : Int) : List Int := Lib.encodeRuneZ n
theorem enL_by (n : Int) : By (enL n) := fun x hx => by have := Lib.encodeRuneZ_byte n x hx; omega
theorem zfu {r : Int} (h0 : 0 <= r) (h1 : r <= 127) : enL r = [r] := Lib.encodeRuneZ_one h0 h1
theorem zfv {r : Int} (h0 : 128 <= r) (h1 : r <= 2047) : enL r = [192 + r / 64, 128 + r % 64] := Lib.encodeRuneZ_two h0 h1
theorem zdh {r : Int} (h : (2048 <= r /\ r < 55296) ∨ (57343 < r /\ r <= 65535)) : enL r = [224 + r / 4096, 128 + r / 64 % 64, 128 + r % 64] := Lib.encodeRuneZ_three h
theorem zd3 {r : Int} (h0 : 65536 <= r) (h1 : r <= 1114111) : enL r = [240 + r / 262144, 128 + r / 4096 % 64, 128 + r / 64 % 64, 128 + r % 64] := Lib.encodeRuneZ_four h0 h1
theorem zfw {r : Int} (h : cp r) : (0 <= r /\ r <= 127) ∨ (128 <= r /\ r <= 2047) ∨ ((2048 <= r /\ r < 55296) ∨ (57343 < r /\ r <= 65535)) ∨ (65536 <= r /\ r <= 1114111) := by
 unfold cp at h; omega
def szI (n : Int) : Nat := if n <= 127 then 1 else if n <= 2047 then 2 else if n <= 65535 then 3 else 4
theorem zfx {r : Int} (h : cp r) : (enL r).length = szI r := by
 unfold szI
 rcases zfw h with q | q | q | q
 ·rw [zfu q.1 q.2, if_pos (by omega)]; rfl
 ·rw [zfv q.1 q.2, if_neg (by omega), if_pos (by omega)]; rfl
 ·rw [zdh q, if_neg (by omega), if_neg (by omega), if_pos (by omega)]; rfl
 ·rw [zd3 q.1 q.2, if_neg (by omega), if_neg (by omega), if_neg (by omega)]; rfl
theorem zfb (n : Int) : 1 <= szI n /\ szI n <= 4 := by
 unfold szI
 repeat' split
 all_goals omega
theorem ba_ext {a b : ByteArray} (h : a.data.toList = b.data.toList) : a = b := by
 cases a with | mk x => cases b with | mk y => cases x with | mk l => cases y with | mk m => simp at h; rw [h]
theorem zgj {r : Int} (h : cp r) : Utf8.encode r = zae (enL r) := by
 have hv : Utf8.valid r = true := by rw [validRune_eq]; unfold validRune; unfold cp at h; exact decide_eq_true (by omega)
 apply ba_ext
 rw [za4]
 unfold Utf8.encode
 simp only [hv, if_true]
 rcases zfw h with q | q | q | q
 ·rw [zfu q.1 q.2, if_pos (by omega)]; rfl
 ·rw [zfv q.1 q.2, if_neg (by omega), if_pos (by omega)]
  simp only [List.map_cons, List.map_nil]
  rw [show (192 + r / 64).toNat = 192 + r.toNat / 64 from by omega, show (128 + r % 64).toNat = 128 + r.toNat % 64 from by omega]
 ·rw [zdh q, if_neg (by omega), if_neg (by omega), if_pos (by omega)]
  simp only [List.map_cons, List.map_nil]
  rw [show (224 + r / 4096).toNat = 224 + r.toNat / 4096 from by omega, show (128 + r / 64 % 64).toNat = 128 + r.toNat / 64 % 64 from by omega, show (128 + r % 64).toNat = 128 + r.toNat % 64 from by omega]
 ·rw [zd3 q.1 q.2, if_neg (by omega), if_neg (by omega), if_neg (by omega)]
  simp only [List.map_cons, List.map_nil]
  rw [show (240 + r / 262144).toNat = 240 + r.toNat / 262144 from by omega, show (128 + r / 4096 % 64).toNat = 128 + r.toNat / 4096 % 64 from by omega, show (128 + r / 64 % 64).toNat = 128 + r.toNat / 64 % 64 from by omega, show (128 + r % 64).toNat = 128 + r.toNat % 64 from by omega]
theorem zi0 {l : List Int} (hb : By l) (k : Nat) : chr (zae l) k = (l[k]?).getD (-1) := by
 by_cases hk : k < l.length
 ·have h1 : k < (zae l).size := by rw [zao]; exact hk
  rw [zak h1, List.getElem?_eq_getElem hk]
  have e1 : (zae l).data.toList[k]? = some (zae l)[k] := by rw [List.getElem?_eq_getElem (by simpa using h1)]; rfl
  rw [za4, List.getElem?_map, List.getElem?_eq_getElem hk] at e1
  have e2 : UInt8.ofNat (l[k]).toNat = (zae l)[k] := Option.some.inj e1
  rw [<- e2]
  have := hb _ (List.getElem_mem hk)
  rw [UInt8.toNat_ofNat', Nat.mod_eq_of_lt (by omega)]
  simp; omega
 ·rw [zau (by rw [zao]; exact hk), List.getElem?_eq_none (by omega)]; rfl
theorem zi1 {r : Int} (h : cp r) : Lib.runeLen r = (szI r : Int) := by
 unfold Lib.runeLen szI
 unfold cp at h
 repeat' split
 all_goals omega
def bdB (n : Int) : Bool := decide (0 <= n /\ n <= 1114111)
theorem zeP {n : Int} (h : 0 <= n /\ n <= 1114111) : bdB n = true := decide_eq_true h
theorem zi2 {n : Int} (h : ¬ (0 <= n /\ n <= 1114111)) : bdB n = false := decide_eq_false h
def zcB (lo hi m : Int) : Option Int :=
 if lo / m = hi / m then none else if lo % m ≠ 0 then some ((lo / m + 1) * m) else if (hi + 1) % m ≠ 0 then some (hi / m * m) else none
def zc9 (lo hi : Int) : Nat -> Int -> Option Int
 | 0, _ => none
 | k + 1, m => match zcB lo hi (m * 64) with
  | some c => some c
  | none => zc9 lo hi k (m * 64)
def zdY (lo hi : Int) : Option Int := zc9 lo hi (szI lo - 1) 1
def Blk (lo hi : Int) : Prop := lo <= hi /\ ((0 <= lo /\ hi <= 127) ∨ (128 <= lo /\ hi <= 2047) ∨ (2048 <= lo /\ hi <= 55295) ∨ (57344 <= lo /\ hi <= 65535) ∨ (65536 <= lo /\ hi <= 1114111))
theorem zj5 {lo hi m c : Int} (hm : m = 64 ∨ m = 4096 ∨ m = 262144) (_h0 : 0 <= lo) (h1 : lo <= hi) (h : zcB lo hi m = some c) : lo < c /\ c <= hi := by
 unfold zcB at h
 split at h
 ·cases h
 ·split at h
  ·cases h; rcases hm with rfl | rfl | rfl <;> omega
  ·split at h
   ·cases h; rcases hm with rfl | rfl | rfl <;> omega
   ·cases h
theorem zh3 {lo hi c : Int} (h0 : 0 <= lo) (h1 : lo <= hi) : ∀ (k : Nat) (m : Int), (k <= 3 /\ m = 1 ∨ k <= 2 /\ m = 64 ∨ k <= 1 /\ m = 4096 ∨ k = 0) -> zc9 lo hi k m = some c -> lo < c /\ c <= hi
 | 0, _, _, h => by cases h
 | k + 1, m, hk, h => by
  rw [zc9] at h
  split at h
  ·next c' hc => cases h; exact zj5 (by omega) h0 h1 hc
  ·exact zh3 h0 h1 k (m * 64) (by omega) h
theorem zbH {lo hi c : Int} (h0 : 0 <= lo) (h1 : lo <= hi) (h : zdY lo hi = some c) : lo < c /\ c <= hi :=
 zh3 h0 h1 _ _ (.inl ⟨by have := zfb lo; omega, rfl⟩) h
theorem zi3 {lo hi : Int} {k : Nat} {m : Int} (h : zcB lo hi (m * 64) = none) : zc9 lo hi (k + 1) m = zc9 lo hi k (m * 64) := by rw [zc9, h]
theorem zi4 {lo hi c : Int} {k : Nat} {m : Int} (h : zcB lo hi (m * 64) = some c) : zc9 lo hi (k + 1) m = some c := by rw [zc9, h]
theorem Blk.cut {lo hi c : Int} (h : Blk lo hi) (hc : zdY lo hi = some c) : Blk lo (c - 1) /\ Blk c hi := by
 unfold Blk at *
 have := zbH (by omega) h.1 hc
 omega
theorem Blk.cpl {lo hi : Int} (h : Blk lo hi) : cp lo /\ cp hi /\ szI lo = szI hi /\ 0 <= lo /\ lo <= hi /\ hi <= 1114111 := by
 unfold Blk at h; unfold cp szI
 refine ⟨by omega, by omega, ?_, by omega, by omega, by omega⟩
 repeat' split
 all_goals omega
def pcs : Nat -> Int -> Int -> List (Int × Int)
 | 0, lo, hi => [(lo, hi)]
 | f + 1, lo, hi => match zdY lo hi with
  | none => [(lo, hi)]
  | some c => pcs f lo (c - 1) ++ pcs f c hi
abbrev za8 := List (Int × Int)
def shp (p : Int × Int) : za8 := (enL p.1).zip (enL p.2)
def shs (lo hi : Int) : List za8 := (pcs (hi - lo).toNat lo hi).map shp
theorem zby {f : Nat} {lo hi : Int} (h : zdY lo hi = none) : pcs f lo hi = [(lo, hi)] := by
 cases f with
 | zero => rfl
 | succ f => rw [pcs, h]
theorem zdi {f : Nat} {lo hi c : Int} (h : zdY lo hi = some c) : pcs (f + 1) lo hi = pcs f lo (c - 1) ++ pcs f c hi := by rw [pcs, h]
theorem zd4 : ∀ (f g : Nat) (lo hi : Int), 0 <= lo -> lo <= hi -> (hi - lo).toNat <= f -> (hi - lo).toNat <= g -> pcs f lo hi = pcs g lo hi
 | 0, g, lo, hi, h0, h1, hf, _ => by
  cases hs : zdY lo hi with
  | none => rw [zby hs, zby hs]
  | some c => have := zbH h0 h1 hs; omega
 | f + 1, 0, lo, hi, h0, h1, _, hg => by
  cases hs : zdY lo hi with
  | none => rw [zby hs, zby hs]
  | some c => have := zbH h0 h1 hs; omega
 | f + 1, g + 1, lo, hi, h0, h1, hf, hg => by
  cases hs : zdY lo hi with
  | none => rw [zby hs, zby hs]
  | some c =>
   have := zbH h0 h1 hs
   rw [zdi hs, zdi hs, zd4 f g lo (c - 1) h0 (by omega) (by omega) (by omega), zd4 f g c hi (by omega) (by omega) (by omega) (by omega)]
theorem zmE {lo hi : Int} (h : zdY lo hi = none) : shs lo hi = [shp (lo, hi)] := by unfold shs; rw [zby h]; rfl
theorem zmF {lo hi c : Int} (h0 : 0 <= lo) (h1 : lo <= hi) (h : zdY lo hi = some c) : shs lo hi = shs lo (c - 1) ++ shs c hi := by
 have hb := zbH h0 h1 h
 unfold shs
 rw [<- List.map_append]
 obtain ⟨f, hf⟩ : ∃ f, (hi - lo).toNat = f + 1 := ⟨(hi - lo).toNat - 1, by omega⟩
 rw [hf, zdi h, zd4 f _ lo (c - 1) h0 (by omega) (by omega) (Nat.le_refl _), zd4 f _ c hi (by omega) (by omega) (by omega) (Nat.le_refl _)]
theorem zg7 : ∀ (f : Nat) (lo hi : Int), 0 <= lo -> lo <= hi -> 1 <= (pcs f lo hi).length /\ ((pcs f lo hi).length : Int) <= hi - lo + 1
 | 0, lo, hi, _, h1 => by
  constructor
  ·show 1 <= 1; omega
  ·show ((1 : Nat) : Int) <= _; omega
 | f + 1, lo, hi, h0, h1 => by
  cases hs : zdY lo hi with
  | none =>
   rw [zby hs]
   constructor
   ·show 1 <= 1; omega
   ·show ((1 : Nat) : Int) <= _; omega
  | some c =>
   have := zbH h0 h1 hs
   have a := zg7 f lo (c - 1) h0 (by omega)
   have b := zg7 f c hi (by omega) (by omega)
   rw [zdi hs, List.length_append]
   omega
theorem zj6 {lo hi : Int} (h0 : 0 <= lo) (h1 : lo <= hi) : 1 <= (shs lo hi).length /\ ((shs lo hi).length : Int) <= hi - lo + 1 := by
 unfold shs; rw [List.length_map]; exact zg7 _ lo hi h0 h1
theorem zg8 {lo hi : Int} (h : Blk lo hi) : (shp (lo, hi)).length = szI lo := by
 obtain ⟨h1, h2, h3, _⟩ := h.cpl
 unfold shp
 rw [List.length_zip, zfx h1, zfx h2, <- h3, Nat.min_self]
def blks : List (Int × Int) := [(0, 127), (128, 2047), (2048, 55295), (57344, 65535), (65536, 1114111)]
def zgk (lo hi : Int) (b : Int × Int) : List za8 := if max b.1 lo <= min b.2 hi then shs (max b.1 lo) (min b.2 hi) else []
def zgU (lo hi : Int) (k : Nat) : List za8 := (blks.take k).flatMap (zgk lo hi)
def zdj (lo hi : Int) : List za8 := blks.flatMap (zgk lo hi)
theorem zfy (lo hi : Int) : zgU lo hi 5 = zdj lo hi := rfl
theorem zj7 (lo hi : Int) (k : Nat) (b : Int × Int) (h : blks[k]? = some b) : zgU lo hi (k + 1) = zgU lo hi k ++ zgk lo hi b := by
 unfold zgU
 rw [List.take_add_one, h, List.flatMap_append]
 simp
theorem zj8 {k : Nat} {b : Int × Int} (h : blks[k]? = some b) : 0 <= b.1 /\ b.1 <= b.2 /\ b.2 <= 1114111 /\ ∀ lo hi, max b.1 lo <= min b.2 hi -> Blk (max b.1 lo) (min b.2 hi) := by
 unfold Blk
 match k, h with
 | 0, h => cases h; exact ⟨by decide, by decide, by decide, fun lo hi _ => by omega⟩
 | 1, h => cases h; exact ⟨by decide, by decide, by decide, fun lo hi _ => by omega⟩
 | 2, h => cases h; exact ⟨by decide, by decide, by decide, fun lo hi _ => by omega⟩
 | 3, h => cases h; exact ⟨by decide, by decide, by decide, fun lo hi _ => by omega⟩
 | 4, h => cases h; exact ⟨by decide, by decide, by decide, fun lo hi _ => by omega⟩
theorem zj9 (lo hi : Int) (b : Int × Int) (h0 : 0 <= b.1) (h1 : b.1 <= b.2) : ((zgk lo hi b).length : Int) <= b.2 - b.1 + 1 := by
 unfold zgk
 split
 ·next h => have := zj6 (lo := max b.1 lo) (hi := min b.2 hi) (by omega) h; omega
 ·show ((0 : Nat) : Int) <= _; omega
theorem zfz (lo hi : Int) (l : List (Int × Int)) (h : ∀ b ∈ l, 0 <= b.1 /\ b.1 <= b.2) : ((l.flatMap (zgk lo hi)).length : Int) <= (l.map fun b => b.2 - b.1 + 1).sum := by
 induction l with
 | nil => simp
 | cons b l ih =>
  rw [List.flatMap_cons, List.length_append, List.map_cons, List.sum_cons]
  have h1 := h b (List.mem_cons_self)
  have h2 := zj9 lo hi b h1.1 h1.2
  have h3 := ih fun c hc => h c (List.mem_cons_of_mem _ hc)
  omega
theorem zpb : ∀ b ∈ blks, 0 <= b.1 /\ b.1 <= b.2 := by decide
theorem zka (lo hi : Int) (k : Nat) : ((zgU lo hi k).length : Int) <= ((blks.take k).map fun b => b.2 - b.1 + 1).sum :=
 zfz lo hi (blks.take k) fun b hb => zpb b (List.mem_of_mem_take hb)
theorem zkb (lo hi : Int) (k : Nat) (b : Int × Int) (h : blks[k]? = some b) : ((zgU lo hi k).length : Int) + (b.2 - b.1 + 1) <= 1114112 := by
 have h1 := zka lo hi k
 match k, h, h1 with
 | 0, h, h1 =>
  cases h; have e : ((blks.take 0).map fun b => b.2 - b.1 + 1).sum = 0 := by decide
  rw [e] at h1; dsimp only; omega
 | 1, h, h1 =>
  cases h; have e : ((blks.take 1).map fun b => b.2 - b.1 + 1).sum = 128 := by decide
  rw [e] at h1; dsimp only; omega
 | 2, h, h1 =>
  cases h; have e : ((blks.take 2).map fun b => b.2 - b.1 + 1).sum = 2048 := by decide
  rw [e] at h1; dsimp only; omega
 | 3, h, h1 =>
  cases h; have e : ((blks.take 3).map fun b => b.2 - b.1 + 1).sum = 55296 := by decide
  rw [e] at h1; dsimp only; omega
 | 4, h, h1 =>
  cases h; have e : ((blks.take 4).map fun b => b.2 - b.1 + 1).sum = 63488 := by decide
  rw [e] at h1; dsimp only; omega
theorem zh4 (lo hi : Int) (k : Nat) : (zgU lo hi k).length <= 1114112 := by
 have h1 := zka lo hi k
 have h2 : ((blks.take k).map fun b => b.2 - b.1 + 1).sum <= 1114112 := by
  match k with
  | 0 => decide
  | 1 => decide
  | 2 => decide
  | 3 => decide
  | 4 => decide
  | k + 5 => rw [List.take_of_length_le (by show 5 <= k + 5; omega)]; decide
 omega
def spc (s : za8) : List Value := s.flatMap fun p => [.int .i64 p.1, .int .i64 p.2]
theorem zbL (s t : za8) : spc (s ++ t) = spc s ++ spc t := by unfold spc; rw [List.flatMap_append]
theorem zkc {r : Int} (h : cp r) (k : Nat) (hk : k < szI r) : (enL r)[k]? = some (chr (Utf8.encode r) k) /\ k < (Utf8.encode r).size := by
 have hl := zfx h
 have h1 : k < (enL r).length := by omega
 rw [zgj h]
 refine ⟨?_, by rw [zao]; exact h1⟩
 rw [zi0 (enL_by r), List.getElem?_eq_getElem h1]; rfl
theorem zh5 {r : Int} (h : cp r) : (Utf8.encode r).size = szI r := by rw [zgj h, zao, zfx h]
theorem zpc {lo hi : Int} (h : Blk lo hi) (k : Nat) (hk : k < szI lo) : (shp (lo, hi))[k]? = some (chr (Utf8.encode lo) k, chr (Utf8.encode hi) k) := by
 obtain ⟨h1, h2, h3, _⟩ := h.cpl
 unfold shp
 rw [List.getElem?_zip_eq_some]
 exact ⟨(zkc h1 k hk).1, (zkc h2 k (by omega)).1⟩
theorem zmG {lo hi : Int} (h : Blk lo hi) (k : Nat) (hk : k < szI lo) : (shp (lo, hi)).take (k + 1) = (shp (lo, hi)).take k ++ [(chr (Utf8.encode lo) k, chr (Utf8.encode hi) k)] := by
 rw [List.take_add_one, zpc h k hk]; rfl
theorem zaV {w : World} {a b e size : Nat} {v : Value} {n : Nat} {xs : List Value} (h : w.ownsRow b e size v n xs) (hab : a <= b) : w.ownsRow a e size v n xs := by
 obtain ⟨h1, h2⟩ := h
 refine ⟨h1, ?_⟩
 rcases h2 with h2 | ⟨g, cap, cur, h3, h4, h5⟩
 ·exact .inl h2
 ·exact .inr ⟨g, cap, cur, h3, Nat.le_trans hab h4, h5⟩
theorem Below.grow {w w' : World} (hb : Below w.heap.size w w') (row : Option Nat) : w.grownBy w' row := ⟨hb.os, hb.tape, hb.output, hb.size, fun k hk _ => hb.block k hk⟩
theorem zaX {w w' : World} {base e size : Nat} {v : Value} {n : Nat} {xs : List Value} (h : w.ownsRow base e size v n xs) (hb : Below w.heap.size w w') : w'.ownsRow base e size v n xs := by
 refine h.kept (row := none) (Below.grow hb none) ?_
 cases h2 : v.ownBlock
 ·exact .inl rfl
 ·exact .inr (by simp)
structure RR (W : World) (B : Nat) (v : Value) (ss : List za8) (xs : List Value) : Prop where
 o : W.ownsRow B 149 1 v xs.length xs
 len : xs.length = ss.length
 each : ∀ (i : Nat) x s, xs[i]? = some x -> ss[i]? = some s -> W.ownsRow B 152 2 x s.length (spc s) /\ x.ownBlock ≠ none /\ x.ownBlock ≠ v.ownBlock
 apart : ∀ (i j : Nat) x y, xs[i]? = some x -> xs[j]? = some y -> i ≠ j -> x.ownBlock ≠ y.ownBlock
theorem RR.nil (W : World) (B : Nat) : RR W B (.slice none 0 0) [] [] :=
 ⟨World.ownsRow_nil _ _ _ _, rfl, fun _ _ _ h => (by cases h), fun _ _ _ _ h => (by cases h)⟩
theorem RR.lt {W : World} {B : Nat} {v : Value} {ss : List za8} {xs : List Value} (h : RR W B v ss xs) {i : Nat} {x : Value} (hx : xs[i]? = some x) : ∃ g, x.ownBlock = some g /\ B <= g /\ g < W.heap.size := by
 have hi : i < ss.length := by
  rw [<- h.len]
  by_cases q : i < xs.length
  ·exact q
  ·rw [List.getElem?_eq_none (by omega)] at hx; cases hx
 obtain ⟨h1, h2, _⟩ := h.each i x _ hx (List.getElem?_eq_getElem hi)
 cases hb : x.ownBlock with
 | none => exact absurd hb h2
 | some g => exact ⟨g, rfl, (h1.lt g hb).1, (h1.lt g hb).2⟩
theorem RR.below {W W' : World} {B : Nat} {v : Value} {ss : List za8} {xs : List Value} (h : RR W B v ss xs) (hb : Below W.heap.size W W') : RR W' B v ss xs :=
 ⟨zaX h.o hb, h.len, fun i x s hx hs => ⟨zaX (h.each i x s hx hs).1 hb, (h.each i x s hx hs).2⟩, h.apart⟩
theorem RR.alloc {W : World} {B : Nat} {v : Value} {ss : List za8} {xs : List Value} (h : RR W B v ss xs) (o : Obj) : RR (W.alloc o) B v ss xs :=
 h.below ((Below.refl _ _).alloc (Nat.le_refl _) _)
theorem RR.push {W W1 : World} {B : Nat} {v y : Value} {ss : List za8} {s : za8} {xs : List Value} {g0 g cap : Nat} {ob : Obj} (h : RR W B v ss xs) (hy : W.ownsRow B 152 2 y s.length (spc s)) (hyb : y.ownBlock = some g0)
  (hyv : v.ownBlock ≠ some g0) (hyx : ∀ (i : Nat) x, xs[i]? = some x -> x.ownBlock ≠ some g0)
  (hown : W1.ownsRow B 149 1 (.slice (some ⟨g, 0, none⟩) (xs.length + 1) cap) (xs.length + 1) (xs ++ [y])) (hgrow : (W.alloc ob).grownBy W1 v.ownBlock) (hat : v.ownBlock = some g ∨ g = W.heap.size + 1) :
  RR W1 B (.slice (some ⟨g, 0, none⟩) (xs.length + 1) cap) (ss ++ [s]) (xs ++ [y]) := by
 have hal := h.alloc ob
 have hya := hy.alloc ob
 have hg0 := (hy.lt g0 hyb).2
 have hne : ∀ x : Value, (∃ k, x.ownBlock = some k /\ k < W.heap.size) -> x.ownBlock ≠ v.ownBlock -> x.ownBlock ≠ (Value.slice (some ⟨g, 0, none⟩) (xs.length + 1) cap).ownBlock := by
  rintro x ⟨k, hk, hlt⟩ hv e
  rw [hk] at e
  have e2 : k = g := Option.some.inj e
  rcases hat with q | q
  ·exact hv (by rw [hk, q, e2])
  ·omega
 refine ⟨?_, by rw [List.length_append, List.length_append, h.len]; rfl, ?_, ?_⟩
 ·rw [List.length_append]; exact hown
 ·intro i x t hx ht
  by_cases hi : i < xs.length
  ·rw [List.getElem?_append_left hi] at hx
   rw [List.getElem?_append_left (by rw [<- h.len]; exact hi)] at ht
   obtain ⟨e1, e2, e3⟩ := hal.each i x t hx ht
   obtain ⟨k, hk, _, hlt⟩ := h.lt hx
   exact ⟨e1.kept hgrow (.inr e3), e2, hne x ⟨k, hk, hlt⟩ e3⟩
  ·rw [List.getElem?_append_right (by omega)] at hx
   rw [List.getElem?_append_right (by rw [<- h.len]; omega), <- h.len] at ht
   have hi0 : i - xs.length = 0 := by
    by_cases q : i - xs.length = 0
    ·exact q
    ·rw [List.getElem?_eq_none (by simp; omega)] at hx; cases hx
   rw [hi0] at hx ht
   cases hx
   cases ht
   have hv : y.ownBlock ≠ v.ownBlock := by rw [hyb]; exact Ne.symm hyv
   exact ⟨hya.kept hgrow (.inr hv), by rw [hyb]; simp, hne y ⟨g0, hyb, hg0⟩ hv⟩
 ·intro i j x z hx hz hij
  by_cases hi : i < xs.length
  ·rw [List.getElem?_append_left hi] at hx
   by_cases hj : j < xs.length
   ·rw [List.getElem?_append_left hj] at hz
    exact h.apart i j x z hx hz hij
   ·rw [List.getElem?_append_right (by omega)] at hz
    have hj0 : j - xs.length = 0 := by
     by_cases q : j - xs.length = 0
     ·exact q
     ·rw [List.getElem?_eq_none (by simp; omega)] at hz; cases hz
    rw [hj0] at hz
    cases hz
    rw [hyb]
    exact hyx i x hx
  ·rw [List.getElem?_append_right (by omega)] at hx
   have hi0 : i - xs.length = 0 := by
    by_cases q : i - xs.length = 0
    ·exact q
    ·rw [List.getElem?_eq_none (by simp; omega)] at hx; cases hx
   rw [hi0] at hx
   cases hx
   by_cases hj : j < xs.length
   ·rw [List.getElem?_append_left hj] at hz
    rw [hyb]
    exact Ne.symm (hyx j z hz)
   ·rw [List.getElem?_append_right (by omega)] at hz
    have hj0 : j - xs.length = 0 := by
     by_cases q : j - xs.length = 0
     ·exact q
     ·rw [List.getElem?_eq_none (by simp; omega)] at hz; cases hz
    omega
theorem zb6 (n : Int) (w : World) : Calls Tryz.prog 213 #[.int .i64 n] w fun e w' => e = .returned (.bool (bdB n)) /\ w' = w := by
 by_cases h0 : 0 <= n
 ·by_cases h1 : n <= 1114111
  ·have HE : Hid (bdB n = true) := zeP ⟨h0, h1⟩
   go_enter Tryz.func213, Tryz.ntmps213
   go_wp2
   go_ret
   exact ⟨by rw [HE.out]; rfl, rfl⟩
  ·have HE : Hid (bdB n = false) := zi2 (fun h => h1 h.2)
   go_enter Tryz.func213, Tryz.ntmps213
   go_wp2
   go_ret
   exact ⟨by rw [HE.out]; rfl, rfl⟩
 ·have HE : Hid (bdB n = false) := zi2 (fun h => h0 h.1)
  go_enter Tryz.func213, Tryz.ntmps213
  go_wp2
  go_ret
  exact ⟨by rw [HE.out]; rfl, rfl⟩
structure RBox (w : World) (b : Nat) (p q : Int) : Prop where
 lt : b < w.heap.size
 c0 : w.cell? ⟨b, 0, none⟩ = some (.int .i32 p)
 c1 : w.cell? ⟨b, 1, none⟩ = some (.int .i32 q)
theorem RBox.new (w : World) (p q : Int) : RBox (w.alloc (.cells #[.int .i32 p, .int .i32 q] 218)) w.heap.size p q := by
 constructor <;> simp [go_sem]
theorem RBox.below {B : Nat} {w w' : World} {b : Nat} {p q : Int} (h : RBox w b p q) (hb : Below B w w') (hB : b < B) : RBox w' b p q :=
 ⟨Nat.lt_of_lt_of_le h.lt hb.size, (hb.cell (p := ⟨b, 0, none⟩) hB).trans h.c0, (hb.cell (p := ⟨b, 1, none⟩) hB).trans h.c1⟩
theorem RBox.grown {w w' : World} {b : Nat} {p q : Int} {row : Option Nat} (h : RBox w b p q) (hg : w.grownBy w' row) (hne : row = some b -> False) : RBox w' b p q := by
 have e := hg.block b h.lt (fun e => hne e.symm)
 exact ⟨Nat.lt_of_lt_of_le h.lt hg.size, (World.cell?_of_block (a := ⟨b, 0, none⟩) e).trans h.c0, (World.cell?_of_block (a := ⟨b, 1, none⟩) e).trans h.c1⟩
def smV : Option Int -> Value
 | some c => .tuple #[.int .i32 c, .bool true]
 | none => .tuple #[.int .i32 0, .bool false]
structure AtM (w wr : World) (lo hi : Int) : Prop where
 x : RBox wr w.heap.size lo hi
 b : Below w.heap.size w wr
theorem zh6 (lo hi : Int) (h : Blk lo hi) (w : World) :
  Calls Tryz.prog 216 #[.agg #[.int .i32 lo, .int .i32 hi]] w fun e w' => e = .returned (smV (zdY lo hi)) /\ Below w.heap.size w w' := by
 have hcp := h.cpl.1
 have h0 := h.cpl.2.2.2.1
 have h1 := h.cpl.2.2.2.2.1
 have h2 := h.cpl.2.2.2.2.2
 have HL : Hid (∀ w, Calls Tryz.prog 219 #[.int .i32 lo] w fun e w' => e = .returned (.int .i64 (szI lo : Int)) /\ w' = w) := fun w => by
  have hh := Tryz.utf8_RuneLen lo w
  rwa [zi1 hcp] at hh
 have hsz := zfb lo
 have HA : Hid (AtM w (w.alloc (.cells #[.int .i32 lo, .int .i32 hi] 218)) lo hi) := ⟨RBox.new w lo hi, (Below.refl _ _).alloc (Nat.le_refl _) _⟩
 have HS : Hid (∀ c, zdY lo hi = some c -> lo < c /\ c <= hi) := fun c hc => zbH h0 h1 hc
 generalize hR : zdY lo hi = R at *
 have HR : Hid (zc9 lo hi (szI lo - 1) 1 = R) := hR
 generalize szI lo = K at *
 clear hR hcp h
 obtain ⟨_, c0, c1⟩ := HA.out.x
 go_enter Tryz.func216, Tryz.ntmps216
 go_wp2_with fail
 refine (HL.out _).mono ?_
 rintro e w1 ⟨rfl, rfl⟩
 clear c0 c1 HL
 go_wp2_with fail
 go_loopw [4, 11] (fun t u wr => ∃ k : Nat, ∃ m : Int, t = .int .i32 m /\ u = .int .i64 k /\ k + 1 <= K /\ Hid ((k = 0 /\ m = 1) ∨ (k = 1 /\ m = 64) ∨ (k = 2 /\ m = 4096) ∨ k = 3) /\ Hid (zc9 lo hi (K - 1 - k) m = R) /\ Hid (AtM w wr lo hi)) (fun _ u _ => 5 - (intOf u).toNat)
 case atStart => exact ⟨0, 1, rfl, rfl, by omega, .inl ⟨rfl, rfl⟩, HR, HA⟩
 case round =>
  obtain ⟨k, m, rfl, rfl, hk, HM, HK, HW⟩ := hrel
  clear HA HR
  by_cases hlt : k + 1 < K
  ·have hlt2 : (k : Int) < (K : Int) - 1 := by omega
   obtain ⟨m', hm', hmm⟩ : ∃ m' : Int, m' = m * 64 /\ (m' = 64 ∨ m' = 4096 ∨ m' = 262144) := ⟨_, rfl, by have e := HM.out; omega⟩
   have HM2 : Hid ((k + 1 = 0 /\ m' = 1) ∨ (k + 1 = 1 /\ m' = 64) ∨ (k + 1 = 2 /\ m' = 4096) ∨ k + 1 = 3) := (by show _ ∨ _; have e := HM.out; omega)
   have hwm : IntKind.i32.wrap (m * 64) = m' := by rw [<- hm', IntKind.wrap_i32]; rcases hmm with rfl | rfl | rfl <;> rfl
   have HKn := (show Hid (zcB lo hi m' = none -> zc9 lo hi (K - 1 - (k + 1)) m' = R) from fun e => by
    have e2 := HK.out
    rw [hm'] at e
    rw [show K - 1 - k = (K - 1 - (k + 1)) + 1 from by omega, zi3 e, <- hm'] at e2
    exact e2)
   have HKs := (show Hid (∀ c, zcB lo hi m' = some c -> R = some c /\ lo < c /\ c <= hi) from fun c e => by
    have e2 := HK.out
    rw [hm'] at e
    rw [show K - 1 - k = (K - 1 - (k + 1)) + 1 from by omega, zi4 e] at e2
    exact ⟨e2.symm, HS.out c e2.symm⟩)
   have hpos : 0 < m' /\ m' <= 262144 := by omega
   have hm0 : m' ≠ 0 := by omega
   have q1 : lo.tdiv m' = lo / m' := Int.tdiv_eq_ediv_of_nonneg h0
   have q2 : hi.tdiv m' = hi / m' := Int.tdiv_eq_ediv_of_nonneg (by omega)
   have q3 : lo.tmod m' = lo % m' := Int.tmod_eq_emod_of_nonneg h0
   have q4 : (hi + 1).tmod m' = (hi + 1) % m' := Int.tmod_eq_emod_of_nonneg (by omega)
   have b1 : 0 <= lo / m' /\ lo / m' <= lo := by rcases hmm with rfl | rfl | rfl <;> omega
   have b2 : 0 <= hi / m' /\ hi / m' <= hi := by rcases hmm with rfl | rfl | rfl <;> omega
   have b3 : 0 <= lo % m' /\ lo % m' < m' := by rcases hmm with rfl | rfl | rfl <;> omega
   have b4 : 0 <= (hi + 1) % m' /\ (hi + 1) % m' < m' := by rcases hmm with rfl | rfl | rfl <;> omega
   have HSe : Hid (∀ a b x y, a = lo / m' -> b = hi / m' -> x = lo % m' -> y = (hi + 1) % m' -> zcB lo hi m' = if a = b then none else if x ≠ 0 then some ((a + 1) * m') else if y ≠ 0 then some (b * m') else none) := fun a b x y e1 e2 e3 e4 => by rw [e1, e2, e3, e4]; rfl
   have HSq := hO (HSe.out (lo / m') (hi / m') (lo % m') ((hi + 1) % m') rfl rfl rfl rfl)
   clear hm' HK HM hmm HSe HS
   have c0 := HW.out.x.c0
   have c1 := HW.out.x.c1
   go_wp2_with fail
   go_quiet (fail)
   have HW1 : Hid (AtM w (wr.drewN nq) lo hi) := ⟨HW.out.x.below (below_drewN (Below.refl _ _) _) HW.out.x.lt, HW.out.b.trans (below_drewN (Below.refl _ _) _)⟩
   generalize wr.drewN nq = w1 at *
   clear c0 c1 HW q1 q2
   have c0 := HW1.out.x.c0
   have c1 := HW1.out.x.c1
   generalize lo / m' = a at *
   generalize hi / m' = b at *
   generalize lo % m' = x at *
   generalize (hi + 1) % m' = y at *
   by_cases hab : a = b
   ·have HN := hO (HKn.out (by rw [HSq.out, if_pos hab]))
    clear HKn HKs HSq
    subst hab
    go_wp2
    go_roundw
    case rel => exact ⟨k + 1, m', by go_num, by go_num, by omega, HM2, HN, HW1⟩
    case measure => simp [intOf]; omega
   ·have eab : (a == b) = false := bF hab
    by_cases hx : x = 0
    ·have ex : (x != 0) = false := by rw [hx]; rfl
     by_cases hy : y = 0
     ·have HN := hO (HKn.out (by rw [HSq.out, if_neg hab, if_neg (by omega), if_neg (by omega)]))
      have ey : (y != 0) = false := by rw [hy]; rfl
      clear HKn HKs HSq hab hx hy
      go_wp2
      go_roundw
      case rel => exact ⟨k + 1, m', by go_num, by go_num, by omega, HM2, HN, HW1⟩
      case measure => simp [intOf]; omega
     ·obtain ⟨hR, hb1, hb2⟩ := HKs.out (b * m') (by rw [HSq.out, if_neg hab, if_neg (by omega), if_pos hy])
      have ey : (y != 0) = true := bne_iff_ne.2 hy
      have HE := hO hR
      have v1 : IntKind.i32.wrap (b * m') = b * m' := by rw [IntKind.wrap_i32]; omega
      clear HKn HKs HSq hab hx hy hR hb1 hb2
      go_wp2
      go_ret2
      exact ⟨by rw [HE.out]; rfl, HW1.out.b⟩
    ·obtain ⟨hR, hb1, hb2⟩ := HKs.out ((a + 1) * m') (by rw [HSq.out, if_neg hab, if_pos hx])
     have ex : (x != 0) = true := bne_iff_ne.2 hx
     have HE := hO hR
     have v1 : IntKind.i32.wrap ((a + 1) * m') = (a + 1) * m' := by rw [IntKind.wrap_i32]; omega
     clear HKn HKs HSq hab hx hR hb1 hb2
     go_wp2
     go_ret2
     exact ⟨by rw [HE.out]; rfl, HW1.out.b⟩
  ·have HE : Hid (R = none) := (by have e := HK.out; rw [show K - 1 - k = 0 from by omega] at e; exact e.symm)
   obtain rfl : K = k + 1 := by omega
   clear HK HM HS
   go_wp2
   go_ret2
   exact ⟨by rw [HE.out]; rfl, HW.out.b⟩
theorem Tryz.info56 : (Tryz.prog.info? 152).map (fun i => (i.zero, i.size, i.bytes)) = some (some (.agg #[.int .i64 0, .int .i64 0]), 2, 16) := by kernel_rfl
structure AtS (w wr : World) (v : Value) (s : za8) : Prop where
 o : wr.ownsRow (w.heap.size + 1) 152 2 v s.length (spc s)
 lt : w.heap.size < wr.heap.size
 b : Below w.heap.size w wr
theorem zg9 (lo hi : Int) (h : Blk lo hi) (w : World) :
  Calls Tryz.prog 217 #[.agg #[.int .i32 lo, .int .i32 hi]] w fun e w' => ∃ v, e = .returned v /\ w'.ownsRow (w.heap.size + 1) 152 2 v (shp (lo, hi)).length (spc (shp (lo, hi))) /\ Below w.heap.size w w' := by
 obtain ⟨i0, hinf, hz0, hz1, hz2⟩ := info_parts Tryz.info56
 have hsz := zfb lo
 have HG : Hid (∀ k, k < szI lo -> (shp (lo, hi)).take (k + 1) = (shp (lo, hi)).take k ++ [(chr (Utf8.encode lo) k, chr (Utf8.encode hi) k)]) := fun k hk => zmG h k hk
 have HL : Hid ((shp (lo, hi)).length = szI lo) := zg8 h
 have hX := zh5 h.cpl.1
 have hY := zh5 h.cpl.2.1
 rw [<- h.cpl.2.2.1] at hY
 have c0 := (RBox.new w lo hi).c0
 have c1 := (RBox.new w lo hi).c1
 have HA : Hid (AtS w (w.alloc (.cells #[.int .i32 lo, .int .i32 hi] 218)) (.slice none 0 0) []) := ⟨World.ownsRow_nil _ _ _ _, by simp, (Below.refl _ _).alloc (Nat.le_refl _) _⟩
 generalize shp (lo, hi) = S at *
 generalize szI lo = K at *
 generalize hXe : Utf8.encode lo = X at *
 generalize hYe : Utf8.encode hi = Y at *
 clear h
 have hXi : (X.size : Int) = (K : Int) := by omega
 go_enter Tryz.func217, Tryz.ntmps217
 go_wp2_with fail
 go_quiet (fail)
 have HA1 : Hid (AtS w ((w.alloc (.cells #[.int .i32 lo, .int .i32 hi] 218)).drewN nq) (.slice none 0 0) []) := ⟨World.ownsRow_nil _ _ _ _, HA.out.lt, HA.out.b.trans (below_drewN (Below.refl _ _) _)⟩
 clear HA c0 c1
 generalize (w.alloc (.cells #[.int .i32 lo, .int .i32 hi] 218)).drewN nq = w0 at *
 go_wp2_with fail
 go_loopw [5, 15] (fun v t wr => ∃ k : Nat, k <= K /\ t = .int .i64 k /\ Hid (AtS w wr v (S.take k))) (fun _ t _ => 5 - (intOf t).toNat)
 case atStart => exact ⟨0, by omega, by go_num, HA1⟩
 case round =>
  obtain ⟨k, hk, rfl, HW⟩ := hrel
  clear HA1
  by_cases hlt : k < K
  ·have z0 : (0 : Int) <= (k : Int) := by omega
   have z1 : (k : Int) < (X.size : Int) := by omega
   have z2 : (k : Int) < (Y.size : Int) := by omega
   have z3 : (k : Int) < (K : Int) := by omega
   have hxk : k < X.size := by omega
   have hyk : k < Y.size := by omega
   have HT := hO (HG.out k hlt)
   have e1 := zak hxk
   have e2 := zak hyk
   rw [e1, e2] at HT
   clear e1 e2
   have hO := HW.out.o
   have hbl := HW.out.lt
   have HTl : Hid ((S.take k).length <= 4) := (by show _ <= _; have := List.length_take_le k S; omega)
   have wa : IntKind.i64.wrap (X[k].toNat : Int) = (X[k].toNat : Int) := by have := X[k].toNat_lt; rw [IntKind.wrap_i64]; omega
   have wb : IntKind.i64.wrap (Y[k].toNat : Int) = (Y[k].toNat : Int) := by have := Y[k].toNat_lt; rw [IntKind.wrap_i64]; omega
   generalize hxx : (X[k].toNat : Int) = a at *
   generalize hyy : (Y[k].toNat : Int) = b at *
   generalize S.take k = T at *
   go_wp2_with fail
   go_region_held3 (fun _ => True) (trivial) ((refine step_append_lies _ (by rfl) _ _ _ (by rfl) (w.heap.size + 1) 152 i0 _ 2 16 Tryz.underlying149 hinf hz0 hz1 hz2 rfl (by omega) _ _ (spc T) (by rfl) ((hO.alloc _).drew) ⟨wr.heap.size, 0, none⟩ 1 1 [.int .i64 a, .int .i64 b] (by rfl) (by rfl) (World.news_of_block (cs := #[.int .i64 a, .int .i64 b]) (t := 152) (fr := (0, 0)) (heap_alloc_new wr _)) (by simp [Value.oneCell']) (by omega) (by have := HTl.out; unfold maxLen; omega) (by have := HTl.out; omega) (by simp; omega) (wr.heap.size + 1) (by simp) ?_; intro g cap w1 hown1 hgrow hat hltg))
   all_goals
    have hle := fun j e => (hO.lt j e).1
    have HW2 := (show Hid (AtS w w1 (.slice (some ⟨g, 0, none⟩) (T.length + 1) cap) (S.take (k + 1))) from (by
     rw [HT.out]
     refine ⟨?_, Nat.lt_of_lt_of_le (by simp; omega) hgrow.size, ?_⟩
     ·rw [List.length_append, zbL]; exact hown1
     ·exact ((HW.out.b.alloc (by omega) (.cells #[.int .i64 a, .int .i64 b] 152)).drew).grown hgrow (by simp; omega) (fun j e => by have := hle j e; omega)))
    clear hown1 hgrow hat hltg hO HT HTl HW hle hxx hyy wa wb
    go_wp2
    go_roundw
    case rel => exact ⟨k + 1, by omega, by go_num, HW2⟩
    case measure => simp [intOf]; omega
  ·obtain rfl : K = k := by omega
   have HE : Hid (S.take K = S) := List.take_of_length_le (by have := HL.out; omega)
   rw [HE.out] at HW
   have o := HW.out.o
   have b := HW.out.b
   clear HG HL HE
   go_wp2
   go_ret
   exact ⟨_, rfl, o, b⟩
theorem Tryz.info54 : (Tryz.prog.info? 149).map (fun i => (i.zero, i.size, i.bytes)) = some (some (.slice none 0 0), 1, 24) := by kernel_rfl
def AppS (lo hi : Int) : Prop := ∀ (w : World) (B : Nat) (v : Value) (ss : List za8) (xs : List Value), RR w B v ss xs -> B <= w.heap.size -> ss.length + (hi - lo + 1).toNat <= 1114112 →
 Calls Tryz.prog 214 #[v, .agg #[.int .i32 lo, .int .i32 hi]] w fun e w' => ∃ v' xs', e = .returned v' /\ RR w' B v' (ss ++ shs lo hi) xs' /\ w.grownBy w' v.ownBlock /\ ∀ k, v'.ownBlock = some k -> v.ownBlock = some k ∨ w.heap.size <= k
theorem zcf (lo hi : Int) (h : Blk lo hi) (hs : zdY lo hi = none) : AppS lo hi := by
 intro w B v ss xs hR hB hn
 obtain ⟨i0, hinf, hz0, hz1, hz2⟩ := info_parts Tryz.info54
 have HS : Hid (∀ w, Calls Tryz.prog 216 #[.agg #[.int .i32 lo, .int .i32 hi]] w fun e w' => e = .returned (.tuple #[.int .i32 0, .bool false]) /\ Below w.heap.size w w') := fun w => by
  have e := zh6 lo hi h w
  rw [hs] at e
  exact e
 have HO : Hid (∀ w, Calls Tryz.prog 217 #[.agg #[.int .i32 lo, .int .i32 hi]] w fun e w' => ∃ v, e = .returned v /\ w'.ownsRow (w.heap.size + 1) 152 2 v (shp (lo, hi)).length (spc (shp (lo, hi))) /\ Below w.heap.size w w') := fun w => zg9 lo hi h w
 have HE := hO (zmE hs)
 have hl1 : 1 <= (shp (lo, hi)).length := by rw [zg8 h]; exact (zfb lo).1
 have hxl := hR.len
 have hn2 : xs.length + 1 <= 1114112 := by have := h.cpl.2.2.2.2.1; omega
 have HR := hO hR
 clear hR hs h hxl
 generalize shp (lo, hi) = s at *
 have HX := hO ((RBox.new w lo hi))
 have HB1 := hO (((Below.refl w.heap.size w).alloc (Nat.le_refl _) (.cells #[.int .i32 lo, .int .i32 hi] 218)))
 obtain ⟨_, c0, c1⟩ := HX.out
 go_enter Tryz.func214, Tryz.ntmps214
 go_wp2_with fail
 refine (HS.out _).mono ?_
 rintro e w1 ⟨rfl, hb1⟩
 have HX1 : Hid (RBox w1 w.heap.size lo hi) := HX.out.below hb1 (by simp)
 have HB2 : Hid (Below w.heap.size w w1) := HB1.out.trans (hb1.mono (by simp))
 clear c0 c1 HX HB1 hb1
 obtain ⟨hlt1, c0, c1⟩ := HX1.out
 go_wp2_with fail
 refine (HO.out _).mono ?_
 rintro e w2 ⟨y, rfl, hy, hb2⟩
 have HB3 : Hid (Below w.heap.size w w2) := HB2.out.trans (hb2.mono (by omega))
 have hz := hb2.size
 clear c0 c1 HX1 HB2 hb2
 obtain ⟨g0, cy, rfl, hyb, hyl⟩ := hy.form hl1
 have HR2 : Hid (RR w2 B v ss xs) := HR.out.below HB3.out
 have hO2 := HR2.out.o
 go_wp2_with (at_builtin; refine wpList_append_lies _ rfl _ _ 213 rfl B 149 i0 (.slice none 0 0) 1 24 Tryz.underlying213 hinf hz0 hz1 hz2 rfl (by decide) v xs.length xs rfl (hO2.alloc _) ⟨w2.heap.size, 0, none⟩ 1 1 [.slice (some ⟨g0, 0, none⟩) s.length cy] rfl rfl (cell_one_new _ _ _) ?c2 (by decide) ?c3 ?c4 ?c5 (w2.heap.size + 1) (by simp) ?_)
 case c2 => intro u hu; simp at hu; subst hu; rfl
 case c3 => unfold maxLen; omega
 case c4 => omega
 case c5 => simp; omega
 intro g cap w3 hown hgrow hat hlt
 have hyo : w2.ownsRow B 152 2 (.slice (some ⟨g0, 0, none⟩) s.length cy) s.length (spc s) := zaV hy (by omega)
 have HR3 := (show Hid (RR w3 B (.slice (some ⟨g, 0, none⟩) (xs.length + 1) cap) (ss ++ [s]) (xs ++ [.slice (some ⟨g0, 0, none⟩) s.length cy])) from
  HR2.out.push (g0 := g0) hyo rfl (fun e => by have := (HR.out.o.lt _ e).2; omega) (fun i x hx e => by
   obtain ⟨k, hk, _, hlt2⟩ := HR.out.lt hx
   rw [hk] at e
   cases e
   omega) hown hgrow hat)
 have HG : Hid (w.grownBy w3 v.ownBlock) := (Below.grow HB3.out _).trans ((World.grownBy_alloc w2 _ _).trans hgrow)
 have HK := (show Hid (∀ k, (Value.slice (some ⟨g, 0, none⟩) (xs.length + 1) cap).ownBlock = some k -> v.ownBlock = some k ∨ w.heap.size <= k) from fun k e => by
  have e2 : g = k := Option.some.inj e
  rcases hat with q | q
  ·exact .inl (by rw [q, e2])
  ·right; omega)
 clear hown hgrow hat hlt hO2 HR2 hyo hy HR HB3
 go_wp2
 go_ret
 exact ⟨_, _, rfl, by rw [HE.out]; exact HR3.out, HG.out, HK.out⟩
theorem zdZ (lo hi c : Int) (h : Blk lo hi) (hs : zdY lo hi = some c) (hA : AppS lo (c - 1)) (hA2 : AppS c hi) : AppS lo hi := by
 intro w B v ss xs hR hB hn
 have HS : Hid (∀ w, Calls Tryz.prog 216 #[.agg #[.int .i32 lo, .int .i32 hi]] w fun e w' => e = .returned (.tuple #[.int .i32 c, .bool true]) /\ Below w.heap.size w w') := fun w => by
  have e := zh6 lo hi h w
  rw [hs] at e
  exact e
 have h0 := h.cpl.2.2.2.1
 have h1 := h.cpl.2.2.2.2.1
 have h2 := h.cpl.2.2.2.2.2
 have hcb := zbH h0 h1 hs
 have HE := hO (zmF h0 h1 hs)
 have hll := zj6 (lo := lo) (hi := c - 1) h0 (by omega)
 have q1 : IntKind.i32.wrap (c - 1) = c - 1 := by rw [IntKind.wrap_i32]; omega
 have HA := hO hA
 have HA2 := hO hA2
 have HR := hO hR
 have HN := hO hn
 have HLL := hO hll
 clear hR hs h hA hA2 hn hll
 have HX := hO ((RBox.new w lo hi))
 have HB1 := hO (((Below.refl w.heap.size w).alloc (Nat.le_refl _) (.cells #[.int .i32 lo, .int .i32 hi] 218)))
 obtain ⟨_, c0, c1⟩ := HX.out
 go_enter Tryz.func214, Tryz.ntmps214
 go_wp2_with fail
 refine (HS.out _).mono ?_
 rintro e w1 ⟨rfl, hb1⟩
 have HX1 : Hid (RBox w1 w.heap.size lo hi) := HX.out.below hb1 (by simp)
 have HB2 : Hid (Below w.heap.size w w1) := HB1.out.trans (hb1.mono (by simp))
 clear c0 c1 HX HB1 hb1
 obtain ⟨hlt1, c0, c1⟩ := HX1.out
 have HR1 : Hid (RR w1 B v ss xs) := HR.out.below HB2.out
 go_wp2_with fail
 refine (HA.out w1 B v ss xs HR1.out (by omega) (by have := HN.out; omega)).mono ?_
 rintro e w2 ⟨v2, xs2, rfl, hR2, hg2, hk2⟩
 have HX2 : Hid (RBox w2 w.heap.size lo hi) := HX1.out.grown hg2 (fun e => by have := (HR.out.o.lt _ e).2; omega)
 have HR2 := hO hR2
 have HG2 := hO hg2
 have HK2 := hO hk2
 clear c0 c1 HX1 hR2 hg2 hk2
 obtain ⟨hlt2, c0, c1⟩ := HX2.out
 go_wp2_with fail
 refine (HA2.out w2 B v2 _ xs2 HR2.out (by have := HG2.out.size; omega) (by have := HN.out; have := HLL.out; rw [List.length_append]; omega)).mono ?_
 rintro e w3 ⟨v3, xs3, rfl, hR3, hg3, hk3⟩
 have HR3 := hO hR3
 have HG3 := (show Hid (w.grownBy w3 v.ownBlock) from ((Below.grow HB2.out _).trans HG2.out).andThen hg3 (fun j e => by
  rcases HK2.out j e with q | q
  ·exact .inr q
  ·have := HB2.out.size; left; omega))
 have HK3 := (show Hid (∀ k, v3.ownBlock = some k -> v.ownBlock = some k ∨ w.heap.size <= k) from fun k e => by
  rcases hk3 k e with q | q
  ·rcases HK2.out k q with q2 | q2
   ·exact .inl q2
   ·have := HB2.out.size; right; omega
  ·have := HB2.out.size; have := HG2.out.size; right; omega)
 clear hR3 hg3 hk3 HX2 c0 c1
 go_wp2
 go_ret
 exact ⟨_, xs3, rfl, by rw [HE.out, <- List.append_assoc]; exact HR3.out, HG3.out, HK3.out⟩
theorem zbI : ∀ (f : Nat) (lo hi : Int), Blk lo hi -> (hi - lo).toNat <= f -> AppS lo hi
 | 0, lo, hi, h, hf => by
  refine zcf lo hi h ?_
  cases hs : zdY lo hi with
  | none => rfl
  | some c => have := zbH h.cpl.2.2.2.1 h.cpl.2.2.2.2.1 hs; omega
 | f + 1, lo, hi, h, hf => by
  cases hs : zdY lo hi with
  | none => exact zcf lo hi h hs
  | some c =>
   have := zbH h.cpl.2.2.2.1 h.cpl.2.2.2.2.1 hs
   exact zdZ lo hi c h hs (zbI f lo (c - 1) (h.cut hs).1 (by omega)) (zbI f c hi (h.cut hs).2 (by omega))
end Go.Proofs.YtnpifgcgjgddoaaGreatDoor.R
