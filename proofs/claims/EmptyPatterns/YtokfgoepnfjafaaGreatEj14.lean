/- DERIVED. Plain mathematics and walks, laid together (14). -/
import Derived.Deep.RegionLaw
import Derived.Deep.LoopGhost
import Derived.Deep.RegionHeld3
import Derived.Test.YtokfgoepnfjafaaGreatEj13
namespace Go.Proofs.YtokfgoepnfjafaaGreat.N
open Go.RowKit Go.Maps
open Go.Proofs.YtokfgoepnfjafaaGreat.T
set_option maxRecDepth 100000 in
set_option maxHeartbeats 16000000 in
theorem nodeD_6 {gs : GL} {now : List Em} {i : Nat} {e : Em} (nd : Nd) (A Ak An : Option Addr) (c ck cn : Nat) (ho : nd.op = 6) (w : World) (hp : GI w A gs) (hr : RdE w An now) (hnl : now.length = gs.length) (hf : fdG gs nd.tx = some i) (he : now[i]? = some e) : Calls Tryz.prog 47 #[.agg #[.slice A gs.length c], ndG nd, .slice Ak 0 ck, .slice An gs.length cn] w fun e2 w' => e2 = .returned (emG e) ∧ Below w.heap.size w w' := by
  have t1 : (nd.op == 1) = false := by rw [beq_eq_false_iff_ne]; omega
  have t17 : (nd.op == 17) = false := by rw [beq_eq_false_iff_ne]; omega
  have t14 : (nd.op == 14) = false := by rw [beq_eq_false_iff_ne]; omega
  have t16 : (nd.op == 16) = false := by rw [beq_eq_false_iff_ne]; omega
  have t9 : (nd.op == 9) = false := by rw [beq_eq_false_iff_ne]; omega
  have t15 : (nd.op == 15) = false := by rw [beq_eq_false_iff_ne]; omega
  have t2 : (nd.op == 2) = false := by rw [beq_eq_false_iff_ne]; omega
  have t3 : (nd.op == 3) = false := by rw [beq_eq_false_iff_ne]; omega
  have t5 : (nd.op == 5) = false := by rw [beq_eq_false_iff_ne]; omega
  have t4 : (nd.op == 4) = false := by rw [beq_eq_false_iff_ne]; omega
  have t6 : (nd.op == 6) = true := by rw [ho]; rfl
  have t7 : (nd.op == 7) = false := by rw [beq_eq_false_iff_ne]; omega
  have t8 : (nd.op == 8) = false := by rw [beq_eq_false_iff_ne]; omega
  have t10 : (nd.op == 10) = false := by rw [beq_eq_false_iff_ne]; omega
  have t11 : (nd.op == 11) = false := by rw [beq_eq_false_iff_ne]; omega
  have t12 : (nd.op == 12) = false := by rw [beq_eq_false_iff_ne]; omega
  have t13 : (nd.op == 13) = false := by rw [beq_eq_false_iff_ne]; omega
  clear ho
  have hil := (List.getElem?_eq_some_iff.1 he).1
  have hne : now ≠ [] := by rintro rfl; cases he
  obtain ⟨g, o, rfl, lg, hEB⟩ := hr hne
  have hx0 := hEB i e he
  obtain ⟨w4, hw4⟩ : ∃ w4, w4 = (((w.alloc (.cells #[.slice A gs.length c] 24)).alloc (.cells #[.int .i64 nd.op, .int .i64 nd.nn, .string nd.tx, .int .u64 nd.s0, .int .u64 nd.s1, .int .u64 nd.s2, .int .u64 nd.s3] 62)).alloc (.cells #[.bool false, .bool false, .int .i64 0, .int .i64 0] 33)).alloc (.cells #[.bool false, .bool false, .int .i64 0, .int .i64 0] 33) := ⟨_, rfl⟩
  have HE4 := (show Hid ((((w.alloc (.cells #[.slice A gs.length c] 24)).alloc (.cells #[.int .i64 nd.op, .int .i64 nd.nn, .string nd.tx, .int .u64 nd.s0, .int .u64 nd.s1, .int .u64 nd.s2, .int .u64 nd.s3] 62)).alloc (.cells #[.bool false, .bool false, .int .i64 0, .int .i64 0] 33)).alloc (.cells #[.bool false, .bool false, .int .i64 0, .int .i64 0] 33) = w4) from hw4.symm)
  have h4 : D6 w w4 (.slice A gs.length c) nd e0 := by rw [hw4]; exact D6.of (D5.start w _ nd)
  have HE5 := (show Hid ((((w4.setCell ⟨w.heap.size + 3, 0, none⟩ (.bool false)).setCell ⟨w.heap.size + 3, 1, none⟩ (.bool false)).setCell ⟨w.heap.size + 3, 2, none⟩ (.int .i64 0)).setCell ⟨w.heap.size + 3, 3, none⟩ (.int .i64 0) = w4) from h4.same0)
  have H4 := (show Hid (D6 w w4 (.slice A gs.length c) nd e0) from h4)
  have a0 : w4.cell? ⟨w.heap.size + 3, 0, none⟩ = some (.bool false) := h4.a.eb.c0
  have a1 : w4.cell? ⟨w.heap.size + 3, 1, none⟩ = some (.bool false) := h4.a.eb.c1
  have a2 : w4.cell? ⟨w.heap.size + 3, 2, none⟩ = some (.int .i64 0) := h4.a.eb.c2
  have a3 : w4.cell? ⟨w.heap.size + 3, 3, none⟩ = some (.int .i64 0) := h4.a.eb.c3
  have b0 := h4.a.fz 0
  have b1 := h4.a.fz 1
  have b2 := h4.a.fz 2
  have b3 := h4.a.fz 3
  have n0 : w4.cell? ⟨w.heap.size + 1, 0, none⟩ = some (.int .i64 nd.op) := h4.n.nb.c0
  have n1 : w4.cell? ⟨w.heap.size + 1, 1, none⟩ = some (.int .i64 nd.nn) := h4.n.nb.c1
  have n2 : w4.cell? ⟨w.heap.size + 1, 2, none⟩ = some (.string nd.tx) := h4.n.nb.c2
  have q1 := h4.g.cl
  have HF := (show Hid (∀ _ : Unit, Calls Tryz.prog 25 #[.agg #[.slice A gs.length c], .string nd.tx] w4 fun e w' => e = .returned (.int .i64 (i : Int)) ∧ Below w4.heap.size w4 w') from fun _ => by
    have h := find9_any gs A c nd.tx w4 (hp.later h4.b)
    rw [fdN_some hf] at h
    exact h)
  have HX := (show Hid (EB w g (o + i * 4) e ∧ g < w.heap.size) from ⟨hx0, lg⟩)
  have v0 : (0 : Int) ≤ (i : Int) := by omega
  have v1 : (i : Int) < (gs.length : Int) := by omega
  clear hw4 h4 hEB hx0 lg hp hr hne hf he hil hnl
  go_enter Tryz.func47, Tryz.ntmps47
  go_wp2_with (first | rw [HE4.out] | rw [HE5.out])
  refine (HF.out ()).mono ?_
  rintro e2 w7 ⟨rfl, b7⟩
  have H7 := (show Hid (D6 w w7 (.slice A gs.length c) nd e0) from H4.out.later b7)
  obtain ⟨k0, k1, k2, k3⟩ := HX.out.1.same (H7.out.b.block g HX.out.2)
  obtain ⟨en, ec, el, em⟩ := e
  simp only at k0 k1 k2 k3
  have HR := (show Hid _ from H7.out.ret ⟨en, ec, el, em⟩)
  have f0 := H7.out.z.fz 0
  have f1 := H7.out.z.fz 1
  have f2 := H7.out.z.fz 2
  have f3 := H7.out.z.fz 3
  have z0 : w7.cell? ⟨w.heap.size + 2, 0, none⟩ = some (.bool false) := H7.out.z.eb.c0
  have z1 : w7.cell? ⟨w.heap.size + 2, 1, none⟩ = some (.bool false) := H7.out.z.eb.c1
  have z2 : w7.cell? ⟨w.heap.size + 2, 2, none⟩ = some (.int .i64 0) := H7.out.z.eb.c2
  have z3 : w7.cell? ⟨w.heap.size + 2, 3, none⟩ = some (.int .i64 0) := H7.out.z.eb.c3
  clear HE4 HE5 a0 a1 a2 a3 b0 b1 b2 b3 n0 n1 n2 q1 HF HX H4 H7 b7
  go_wp2_with fail
  refine ret_ex (s := 8) (k := w.heap.size + 2) (e := ⟨en, ec, el, em⟩) (by rfl) (by rfl) (by rfl) HR.out.1 ?_
  exact ⟨rfl, HR.out.2⟩
end Go.Proofs.YtokfgoepnfjafaaGreat.N

namespace Go.Proofs.YtokfgoepnfjafaaGreat.N
open Go.RowKit Go.Maps
open Go.Proofs.YtokfgoepnfjafaaGreat.T
/-- The document tells of a node what chapter 9 says. -/
theorem nodeD_any {gs : GL} {now : List Em} (nd : Nd) (A Ak An : Option Addr) (c ck cn : Nat) (ps : List Em) (hal : alE nd = 0) (hs : nd.tx.size ≤ 140737488355328) (hf : nd.op = 6 → ∃ i, fdG gs nd.tx = some i) (hl : ps.length = arN nd.op) (hok : ∀ e ∈ ps, OkE e) (hnl : now.length = gs.length) (w : World) (hp : GI w A gs) (hk : RdE w Ak ps) (hr : RdE w An now) : Calls Tryz.prog 47 #[.agg #[.slice A gs.length c], ndG nd, .slice Ak (arN nd.op) ck, .slice An gs.length cn] w fun e w' => e = .returned (emG (emN nd ((ps[0]?).getD e0) ((ps[1]?).getD e0) (lkE gs now))) ∧ Below w.heap.size w w' := by
  obtain ⟨hop, hN⟩ := al_facts hal
  by_cases hp0 : nd.op ≤ 6 ∨ nd.op = 17
  · have ha := arN_0 hop hp0
    rw [ha] at hl ⊢
    have hps := List.eq_nil_of_length_eq_zero hl
    subst hps
    by_cases c1 : nd.op = 1
    · have e : emN nd ((([] : List Em)[0]?).getD e0) ((([] : List Em)[1]?).getD e0) (lkE gs now) = nothE := by unfold emN; rw [if_pos (by omega)]; rfl
      rw [e]; exact nodeD_1 nd A Ak An _ c ck _ cn c1 w
    by_cases c17 : nd.op = 17
    · have e : emN nd ((([] : List Em)[0]?).getD e0) ((([] : List Em)[1]?).getD e0) (lkE gs now) = nothE := by unfold emN; rw [if_pos (by omega)]; rfl
      rw [e]; exact nodeD_17 nd A Ak An _ c ck _ cn c17 w
    by_cases c2 : nd.op = 2
    · have e : emN nd ((([] : List Em)[0]?).getD e0) ((([] : List Em)[1]?).getD e0) (lkE gs now) = ⟨false, true, -1, 0⟩ := by unfold emN; rw [if_neg (by omega), if_neg (by omega), if_pos c2]
      rw [e]; exact nodeD_2 nd A Ak An _ c ck _ cn c2 w
    by_cases c3 : nd.op = 3
    · have e : emN nd ((([] : List Em)[0]?).getD e0) ((([] : List Em)[1]?).getD e0) (lkE gs now) = ⟨false, true, 1, 1⟩ := by unfold emN; rw [if_neg (by omega), if_neg (by omega), if_neg c2, if_pos (by omega)]
      rw [e]; exact nodeD_3 nd A Ak An _ c ck _ cn c3 w
    by_cases c5 : nd.op = 5
    · have e : emN nd ((([] : List Em)[0]?).getD e0) ((([] : List Em)[1]?).getD e0) (lkE gs now) = ⟨false, true, 1, 1⟩ := by unfold emN; rw [if_neg (by omega), if_neg (by omega), if_neg c2, if_pos (by omega)]
      rw [e]; exact nodeD_5 nd A Ak An _ c ck _ cn c5 w
    by_cases c4 : nd.op = 4
    · have e : emN nd ((([] : List Em)[0]?).getD e0) ((([] : List Em)[1]?).getD e0) (lkE gs now) = ⟨false, true, (nd.tx.size : Int), (nd.tx.size : Int)⟩ := by unfold emN; rw [if_neg (by omega), if_neg (by omega), if_neg c2, if_neg (by omega), if_pos c4]
      rw [e]; exact nodeD_4 nd A Ak An _ c ck _ cn c4 hs w
    have c6 : nd.op = 6 := by omega
    obtain ⟨i, hi⟩ := hf c6
    have hil : i < now.length := by rw [hnl]; exact fdG_lt hi
    have he : now[i]? = some now[i] := List.getElem?_eq_getElem hil
    have e : emN nd ((([] : List Em)[0]?).getD e0) ((([] : List Em)[1]?).getD e0) (lkE gs now) = now[i] := by
      unfold emN
      rw [if_neg (by omega), if_neg (by omega), if_neg c2, if_neg (by omega), if_neg c4, if_pos c6]
      unfold lkE
      rw [hi]
      show (now[i]?).getD e0 = _
      rw [he]
      rfl
    rw [e]; exact nodeD_6 nd A Ak An c ck cn c6 w hp hr hnl hi he
  by_cases h78 : nd.op = 7 ∨ nd.op = 8
  · have ha := arN_2 (n := nd) h78
    rw [ha] at hl ⊢
    obtain ⟨x, y, rfl⟩ : ∃ x y, ps = [x, y] := by
      match ps, hl with
      | [x, y], _ => exact ⟨x, y, rfl⟩
    by_cases c7 : nd.op = 7
    · have e : emN nd (([x, y][0]?).getD e0) (([x, y][1]?).getD e0) (lkE gs now) = seqE x y := by unfold emN; rw [if_neg (by omega), if_neg (by omega), if_neg (by omega), if_neg (by omega), if_neg (by omega), if_neg (by omega), if_pos c7]; rfl
      rw [e]; exact nodeD_7 nd A Ak An _ c ck _ cn c7 (hok x (by simp)) (hok y (by simp)) w hk
    · have c8 : nd.op = 8 := by omega
      have e : emN nd (([x, y][0]?).getD e0) (([x, y][1]?).getD e0) (lkE gs now) = choE x y := by unfold emN; rw [if_neg (by omega), if_neg (by omega), if_neg (by omega), if_neg (by omega), if_neg (by omega), if_neg (by omega), if_neg c7, if_pos c8]; rfl
      rw [e]; exact nodeD_8 nd A Ak An _ c ck _ cn c8 w hk
  have ha := arN_1 hop hp0 h78
  rw [ha] at hl ⊢
  obtain ⟨x, rfl⟩ : ∃ x, ps = [x] := by
    match ps, hl with
    | [x], _ => exact ⟨x, rfl⟩
  have hx := hok x (by simp)
  show Calls _ _ _ _ fun e w' => e = .returned (emG (emN nd x e0 (lkE gs now))) ∧ _
  by_cases c9 : nd.op = 9
  · have e : emN nd x e0 (lkE gs now) = d9 x := by unfold emN; rw [if_neg (by omega), if_pos (by omega)]; rfl
    rw [e]; exact nodeD_9 nd A Ak An _ c ck _ cn c9 w hk
  by_cases c10 : nd.op = 10
  · have e : emN nd x e0 (lkE gs now) = d10 x := by unfold emN; rw [if_neg (by omega), if_neg (by omega), if_neg (by omega), if_neg (by omega), if_neg (by omega), if_neg (by omega), if_neg (by omega), if_neg (by omega), if_pos c10]; rfl
    rw [e]; exact nodeD_10 nd A Ak An _ c ck _ cn c10 w hk
  by_cases c11 : nd.op = 11
  · have e : emN nd x e0 (lkE gs now) = ⟨true, false, 0, x.mo⟩ := by unfold emN; rw [if_neg (by omega), if_neg (by omega), if_neg (by omega), if_neg (by omega), if_neg (by omega), if_neg (by omega), if_neg (by omega), if_neg (by omega), if_neg (by omega), if_pos c11]
    rw [e]; exact nodeD_11 nd A Ak An _ c ck _ cn c11 w hk
  by_cases c12 : nd.op = 12
  · have e : emN nd x e0 (lkE gs now) = ⟨true, x.cf, 0, 0⟩ := by unfold emN; rw [if_neg (by omega), if_neg (by omega), if_neg (by omega), if_neg (by omega), if_neg (by omega), if_neg (by omega), if_neg (by omega), if_neg (by omega), if_neg (by omega), if_neg (by omega), if_pos c12]
    rw [e]; exact nodeD_12 nd A Ak An _ c ck _ cn c12 w hk
  by_cases c13 : nd.op = 13
  · have e : emN nd x e0 (lkE gs now) = ⟨true, true, 0, 0⟩ := by unfold emN; rw [if_neg (by omega), if_neg (by omega), if_neg (by omega), if_neg (by omega), if_neg (by omega), if_neg (by omega), if_neg (by omega), if_neg (by omega), if_neg (by omega), if_neg (by omega), if_neg (by omega), if_pos c13]
    rw [e]; exact nodeD_13 nd A Ak An _ c ck _ cn c13 w hk
  by_cases c14 : nd.op = 14
  · by_cases hz : nd.nn = 0
    · have e : emN nd x e0 (lkE gs now) = nothE := by unfold emN; rw [if_pos (by omega)]; rfl
      rw [e]; exact nodeD_14z nd A Ak An _ c ck _ cn c14 hz w hk
    · have e : emN nd x e0 (lkE gs now) = d14 nd.nn x := by unfold emN; rw [if_neg (by omega), if_neg (by omega), if_neg (by omega), if_neg (by omega), if_neg (by omega), if_neg (by omega), if_neg (by omega), if_neg (by omega), if_neg (by omega), if_neg (by omega), if_neg (by omega), if_neg (by omega), if_pos c14]; rfl
      rw [e]; exact nodeD_14 nd A Ak An _ c ck _ cn c14 hz (hN (by omega)).1 (hN (by omega)).2 hx w hk
  by_cases c15 : nd.op = 15
  · by_cases hz : nd.nn = 0
    · have e : emN nd x e0 (lkE gs now) = d9 x := by unfold emN; rw [if_neg (by omega), if_pos (by omega)]; rfl
      rw [e]; exact nodeD_15z nd A Ak An _ c ck _ cn c15 hz w hk
    · have e : emN nd x e0 (lkE gs now) = d15 nd.nn x := by unfold emN; rw [if_neg (by omega), if_neg (by omega), if_neg (by omega), if_neg (by omega), if_neg (by omega), if_neg (by omega), if_neg (by omega), if_neg (by omega), if_neg (by omega), if_neg (by omega), if_neg (by omega), if_neg (by omega), if_neg c14, if_pos c15]; rfl
      rw [e]; exact nodeD_15 nd A Ak An _ c ck _ cn c15 hz (hN (by omega)).1 (hN (by omega)).2 hx w hk
  by_cases c16 : nd.op = 16
  · by_cases hz : nd.nn = 0
    · have e : emN nd x e0 (lkE gs now) = nothE := by unfold emN; rw [if_pos (by omega)]; rfl
      rw [e]; exact nodeD_16z nd A Ak An _ c ck _ cn c16 hz w hk
    · have e : emN nd x e0 (lkE gs now) = d16 nd.nn x := by unfold emN; rw [if_neg (by omega), if_neg (by omega), if_neg (by omega), if_neg (by omega), if_neg (by omega), if_neg (by omega), if_neg (by omega), if_neg (by omega), if_neg (by omega), if_neg (by omega), if_neg (by omega), if_neg (by omega), if_neg c14, if_neg c15, if_pos c16]; rfl
      rw [e]; exact nodeD_16 nd A Ak An _ c ck _ cn c16 hz (hN (by omega)).1 (hN (by omega)).2 hx w hk
  have e : emN nd x e0 (lkE gs now) = x := by unfold emN; rw [if_neg (by omega), if_neg (by omega), if_neg (by omega), if_neg (by omega), if_neg (by omega), if_neg (by omega), if_neg (by omega), if_neg (by omega), if_neg (by omega), if_neg (by omega), if_neg (by omega), if_neg (by omega), if_neg c14, if_neg c15, if_neg c16]
  rw [e]
  by_cases c18 : nd.op = 18
  · exact nodeD_18 nd A Ak An _ c ck _ cn c18 w hk
  by_cases c19 : nd.op = 19
  · exact nodeD_19 nd A Ak An _ c ck _ cn c19 w hk
  by_cases c20 : nd.op = 20
  · exact nodeD_20 nd A Ak An _ c ck _ cn c20 w hk
  by_cases c21 : nd.op = 21
  · exact nodeD_21 nd A Ak An _ c ck _ cn c21 w hk
  by_cases c22 : nd.op = 22
  · exact nodeD_22 nd A Ak An _ c ck _ cn c22 w hk
  by_cases c23 : nd.op = 23
  · exact nodeD_23 nd A Ak An _ c ck _ cn c23 w hk
  exact absurd hop (by omega)
end Go.Proofs.YtokfgoepnfjafaaGreat.N

namespace Go.Proofs.YtokfgoepnfjafaaGreat.N
open Go.RowKit Go.Maps
open Go.Proofs.YtokfgoepnfjafaaGreat.T
set_option maxRecDepth 100000 in
set_option maxHeartbeats 4000000 in
/-- Where parts begin, by the document. -/
theorem begins9_any (L : List Nd) (Ap : Option Addr) (cp : Nat) (hrt : Rt L) (hT : ∀ n ∈ L, n.tx.size ≤ 140737488355328) (w : World) (hp : RdN w Ap L) :
    Calls Tryz.prog 45 #[.slice Ap L.length cp] w fun e w' => (∃ v, e = .returned v ∧ w'.ownsRow w.heap.size 3 1 v L.length (bgc L L.length)) ∧ Below w.heap.size w w' := by
  have hl : L.length ≤ 2048 := by have := hrt.len; omega
  have HF := hid_of (from_any L Ap cp hl hT w hp)
  have HR := hid_of hrt
  clear hT hp hl hrt
  go_enter Tryz.func45, Tryz.ntmps45
  go_wp2_with fail
  refine Calls.mono HF.out ?_
  rintro e w2 ⟨h, b2⟩
  obtain ⟨v1, v2, rfl, hA⟩ := h.ok HR.out
  obtain ⟨A1, c1, rfl⟩ := U.own_slice hA.o1
  obtain ⟨A2, c2, rfl⟩ := U.own_slice hA.o2
  have HO := hid_of hA.o1
  have HB := hid_of b2
  clear HF h hA b2
  go_wp2_with fail
  go_ret
  exact ⟨⟨_, rfl, HO.out⟩, HB.out⟩
end Go.Proofs.YtokfgoepnfjafaaGreat.N

namespace Go.Proofs.YtokfgoepnfjafaaGreat.N
open Go.RowKit Go.Maps
open Go.Proofs.YtokfgoepnfjafaaGreat.T

open U (own_get own_slice below_grown)
/-- Calls of four slots, as one step of a region that draws its order. -/
theorem step_call4 {F : Nat} (hen : ∀ args w, (callFunc F args).run Tryz.prog w = .ok (.enter F args) w) {ops : Array Oper} {o : Oper} {a : Act} {w : World} {K : Act → World → Prop} {Q : Exit → Act → World → Prop} {E : Prop} (hgd : o.guard = none) (x1 x2 x3 x4 : Nat) (T1 T2 T3 T4 : TypeId) (ho : o.op = .call { callee := .value (.func F), args := #[.tmp x1, .tmp x2, .tmp x3, .tmp x4], argTypes := #[T1, T2, T3, T4] }) (u1 u2 u3 u4 : Value) (h1 : a.eval (.tmp x1) = u1) (h2 : a.eval (.tmp x2) = u2) (h3 : a.eval (.tmp x3) = u3) (h4 : a.eval (.tmp x4) = u4)
    (hc : Calls Tryz.prog F #[u1, u2, u3, u4] w fun e w' => ∃ r, e = .returned r ∧ K (a.put o.dst r) w') :
    if Region.wanted o (yielded ops a.tmps) = true then Oper.wp Tryz.prog o a w K Q else E := by
  have hw : Region.wanted o (yielded ops a.tmps) = true := by simp [Region.wanted, hgd]
  rw [if_pos hw]
  have he : (execOp a.eval o).run Tryz.prog w = .ok (.enter F #[u1, u2, u3, u4]) w := by
    have g1 : a.tmps[x1]?.getD undef = u1 := by simpa [Act.eval] using h1
    have g2 : a.tmps[x2]?.getD undef = u2 := by simpa [Act.eval] using h2
    have g3 : a.tmps[x3]?.getD undef = u3 := by simpa [Act.eval] using h3
    have g4 : a.tmps[x4]?.getD undef = u4 := by simpa [Act.eval] using h4
    unfold execOp
    simp [ho, go_sem, invoke, hen]
    exact ⟨g1, g2, g3, g4⟩
  unfold Oper.wp
  rw [he, Oper.upon_enter]
  refine hc.mono ?_
  rintro e w' ⟨r, rfl, hk⟩
  exact hk
theorem enters_nodeD (args : Array Value) (w : World) : (callFunc 47 args).run Tryz.prog w = .ok (.enter 47 args) w := enters_of Tryz.func47 (by kernel_rfl) rfl args w
structure PdS (w wr : World) (u : Value) (L : List Nd) (E : Nat → Em) (gB N k : Nat) (v : Value) : Prop where
  b : Below w.heap.size w wr
  x : GX wr w.heap.size u
  r : ∀ i, i < L.length → wr.cell? ⟨gB, i, none⟩ = some (.int .i64 (pt L i).1)
  o : wr.ownsRow N 33 4 v k (emc ((List.range k).map E))
  n : w.heap.size + 1 ≤ N ∧ gB < N ∧ N ≤ wr.heap.size
theorem PdS.later {w wr w2 : World} {u : Value} {L : List Nd} {E : Nat → Em} {gB N k : Nat} {v : Value} (h : PdS w wr u L E gB N k v) (hb : Below wr.heap.size wr w2) : PdS w w2 u L E gB N k v :=
  ⟨h.b.trans (hb.mono h.b.size), h.x.below hb, fun i hi => (hb.cell (p := ⟨gB, i, none⟩) (Nat.lt_of_lt_of_le h.n.2.1 h.n.2.2)).trans (h.r i hi), T.own_below h.o hb, h.n.1, h.n.2.1, Nat.le_trans h.n.2.2 hb.size⟩
theorem PdS.push {w wr w2 : World} {u : Value} {L : List Nd} {E : Nat → Em} {gB N k : Nat} {v v' : Value} (h : PdS w wr u L E gB N k v) (ho : w2.ownsRow N 33 4 v' (k + 1) (emc ((List.range k).map E ++ [E k]))) (hg : wr.grownBy w2 v.ownBlock) : PdS w w2 u L E gB N (k + 1) v' := by
  have hlow : ∀ q, v.ownBlock = some q → N ≤ q := fun q hq => (h.o.lt q hq).1
  have hn := h.n
  refine ⟨below_grown h.b hg (fun q e => by have := hlow q e; omega), h.x.same (hg.block _ h.x.lt (fun e => by have := hlow _ e.symm; omega)), fun i hi => ?_, ?_, hn.1, hn.2.1, Nat.le_trans hn.2.2 hg.size⟩
  · rw [World.cell?_of_block (a := ⟨gB, i, none⟩) (hg.block gB (by omega) (fun e => by have := hlow _ e.symm; omega))]
    exact h.r i hi
  · rw [List.range_succ, List.map_append]
    exact ho
theorem emS_rev (E : Nat → Em) (st : List Pt) : emS E st = st.reverse.map fun p => E p.2.1 := by unfold emS; rw [List.map_reverse]
theorem emS_get {E : Nat → Em} {st : List Pt} {j : Nat} {p : Pt} (h : st.reverse[j]? = some p) : (emS E st)[j]? = some (E p.2.1) := by rw [emS_rev, List.getElem?_map, h]; rfl
theorem lastc_get {xs : List Pt} {j : Nat} {p : Pt} (h : xs[j]? = some p) : (lastc xs)[j]? = some (.int .i64 (p.2.1 : Int)) := by unfold lastc; rw [List.getElem?_map, h]; rfl
theorem take_next {α : Type} {l : List α} {j : Nat} {x : α} (h : l[j]? = some x) : l.take (j + 1) = l.take j ++ [x] := by rw [List.take_add_one, h]; rfl
set_option maxRecDepth 100000 in
set_option maxHeartbeats 32000000 in
/-- The document: what is known of each part of a right pattern. -/
theorem partsD_any {gs : GL} {now : List Em} {L : List Nd} (hpt : PtR gs now L) (hnl : now.length = gs.length) (A Ap An : Option Addr) (c cp cn : Nat) (w : World) (hp : GI w A gs) (hL : RdN w Ap L) (hr : RdE w An now) :
    Calls Tryz.prog 34 #[.agg #[.slice A gs.length c], .slice Ap L.length cp, .slice An gs.length cn] w fun e w' => (∃ v, e = .returned v ∧ w'.ownsRow w.heap.size 33 4 v L.length (emc ((List.range L.length).map (EE (lkE gs now) L)))) ∧ Below w.heap.size w w' := by
  have hrt := hpt.rt
  have hlen : L.length ≤ 2048 := by have := hrt.len; omega
  have hne : L ≠ [] := by rintro rfl; have := hrt.one; simp [run] at this
  have hpos : 0 < L.length := List.length_pos_iff.2 hne
  obtain ⟨gp, op, rfl, lp, cl⟩ := hL hne
  obtain ⟨w1, hw1⟩ : ∃ w1, w1 = w.alloc (.cells #[.slice A gs.length c] 24) := ⟨_, rfl⟩
  have HE1 := (show Hid (w.alloc (.cells #[.slice A gs.length c] 24) = w1) from hw1.symm)
  have hb1 : Below w.heap.size w w1 := by rw [hw1]; exact below_box _ _
  have hs1 : w1.heap.size = w.heap.size + 1 := by rw [hw1, World.size_alloc]
  have hg1 : GX w1 w.heap.size (.slice A gs.length c) := by rw [hw1]; exact GX.mk (heap_alloc_new w _)
  have HBg := (show Hid (∀ _ : Unit, Calls Tryz.prog 45 #[.slice (some ⟨gp, op, none⟩) L.length cp] w1 fun e w' => (∃ v, e = .returned v ∧ w'.ownsRow w1.heap.size 3 1 v L.length (bgc L L.length)) ∧ Below w1.heap.size w1 w') from fun _ => begins9_any L _ cp hrt hpt.sz w1 (hL.below hb1 (Nat.le_refl _)))
  have H1 := (show Hid (Below w.heap.size w w1 ∧ w1.heap.size = w.heap.size + 1 ∧ GX w1 w.heap.size (.slice A gs.length c)) from ⟨hb1, hs1, hg1⟩)
  have HP := (show Hid (GI w A gs) from hp)
  have HPt := (show Hid (PtR gs now L ∧ now.length = gs.length) from ⟨hpt, hnl⟩)
  have HR := (show Hid (RdE w An now) from hr)
  have HCl := (show Hid (NdL w gp op L ∧ gp < w.heap.size) from ⟨cl, lp⟩)
  have HG := (show Hid (∀ k, k < L.length → ∃ n, L[k]? = some n) from fun k hk => ⟨_, List.getElem?_eq_getElem hk⟩)
  have HPos := (show Hid (0 < L.length) from hpos)
  clear hp hr hL hpt hnl hrt hne hpos cl lp hw1 hb1 hs1 hg1
  obtain ⟨i0, hinf, hz0, hz1, hz2⟩ := info_parts Tryz.infoE
  go_enter Tryz.func34, Tryz.ntmps34
  go_wp2_with (rw [HE1.out])
  clear HE1
  refine (HBg.out ()).mono ?_
  rintro e w2 ⟨⟨v, rfl, hov⟩, b2⟩
  obtain ⟨gB, cB, rfl, gl1, gl2, _, _⟩ := own_get hov (j := 0) (x := .int .i64 (pt L 0).1) (bgc_get HPos.out)
  have HS := (show Hid (PdS w w2 (.slice A gs.length c) L (EE (lkE gs now) L) gB w2.heap.size 0 (.slice none 0 0)) from by
    obtain ⟨h1, h2, h3⟩ := H1.out
    refine ⟨h1.trans (b2.mono h1.size), h3.below b2, fun i hi => ?_, World.ownsRow_nil _ _ _ _, by have := b2.size; omega, gl2, Nat.le_refl _⟩
    obtain ⟨g', c', e, _, _, x, _⟩ := own_get hov (j := i) (x := .int .i64 (pt L i).1) (bgc_get hi)
    injection e with e1 _ _
    obtain ⟨rfl, _⟩ := Addr.mk.inj (Option.some.inj e1)
    exact x)
  generalize hN : w2.heap.size = N at *
  clear hN gl1 gl2 hov b2 H1 HBg
  go_wp2_with fail
  go_loopw [8, 9] (fun v t wr => ∃ (k : Nat) (A2 : Option Addr) (c2 : Nat), k ≤ L.length ∧ t = .int .i64 (k : Int) ∧ v = .slice A2 k c2 ∧ Hid (PdS w wr (.slice A gs.length c) L (EE (lkE gs now) L) gB N k (.slice A2 k c2))) (fun _ t _ => L.length - (intOf t).toNat)
  case atStart => exact ⟨0, none, 0, Nat.zero_le _, by go_num, rfl, HS⟩
  case round =>
    obtain ⟨k, A2, c2, hk, rfl, rfl, HW⟩ := hrel
    clear HS
    by_cases hlt : k < L.length
    · obtain ⟨n, hn⟩ := HG.out k hlt
      have hop := op_of hn
      have hkl := HPt.out.1.klen hn
      have HK := (show Hid (∀ _ : Unit, Calls Tryz.prog 46 #[.slice (some ⟨gp, op, none⟩) L.length cp, .slice (some ⟨gB, 0, none⟩) L.length cB, .int .i64 (k : Int)] wr fun e w' => (∃ v, e = .returned v ∧ w'.ownsRow wr.heap.size 3 1 v (arN n.op) (lastc ((run L k).take (arN n.op)).reverse)) ∧ Below wr.heap.size wr w') from fun _ => by
        have h := kids_any L gp op cp gB cB k hlen hlt (fun i hi => HPt.out.1.rt.each i hi) wr (HCl.out.1.same (HW.out.b.block gp HCl.out.2)) (Nat.lt_of_lt_of_le HCl.out.2 HW.out.b.size) HW.out.r
        rw [hop] at h
        exact h)
      have HNn := (show Hid (L[k]? = some n) from hn)
      obtain ⟨m, hm⟩ : ∃ m, m = arN n.op := ⟨_, rfl⟩
      obtain ⟨st, hst⟩ : ∃ st, st = (run L k).take (arN n.op) := ⟨_, rfl⟩
      have HM := (show Hid (m = arN n.op ∧ st = (run L k).take (arN n.op)) from ⟨hm, hst⟩)
      have har := arN_le n.op
      rw [← hst, ← hm] at HK
      rw [← hst, ← hm, emS_len] at hkl
      rw [← hm] at har
      have HSl := (show Hid (st.length = m) from hkl)
      have HBd := (show Hid (∀ p ∈ st, p.2.1 < k) from fun p hp => by
        rw [hst] at hp
        exact (run_bd (Nat.le_of_lt hlt) (fun i hi => HPt.out.1.rt.each i (by omega)) p (List.mem_of_mem_take hp)).2.1)
      have z0 : (0 : Int) ≤ (k : Int) := by omega
      have z1 : (k : Int) < (L.length : Int) := by omega
      clear hn hop hkl hm hst
      go_wp2_with fail
      refine (HK.out ()).mono ?_
      rintro e w3 ⟨⟨v3, rfl, ho3⟩, b3⟩
      obtain ⟨A3, c3, rfl⟩ := own_slice ho3
      have HW3 := (show Hid (PdS w w3 (.slice A gs.length c) L (EE (lkE gs now) L) gB N k (.slice A2 k c2)) from HW.out.later b3)
      have HO3 := (show Hid (w3.ownsRow wr.heap.size 3 1 (.slice A3 m c3) m (lastc st.reverse)) from ho3)
      clear ho3 b3 HW HK HG
      have HS3 := (show Hid (Below w3.heap.size w3 w3 ∧ w3.ownsRow w3.heap.size 33 4 (.slice none 0 0) 0 (emc ((emS (EE (lkE gs now) L) st).take 0))) from ⟨Below.refl _ _, World.ownsRow_nil _ _ _ _⟩)
      go_wp2_with fail
      obtain ⟨wL, hwL⟩ : ∃ W, W = w3 := ⟨_, rfl⟩
      rw [← hwL] at HW3 HO3 HS3 ⊢
      clear hwL
      go_loopw [11, 12] (fun v t wr => ∃ (j : Nat) (A4 : Option Addr) (c4 : Nat), j ≤ m ∧ t = .int .i64 (j : Int) ∧ v = .slice A4 j c4 ∧ Hid (Below wL.heap.size wL wr ∧ wr.ownsRow wL.heap.size 33 4 (.slice A4 j c4) j (emc ((emS (EE (lkE gs now) L) st).take j)))) (fun _ t _ => m - (intOf t).toNat)
      case atStart => exact ⟨0, none, 0, Nat.zero_le _, by go_num, rfl, HS3⟩
      case round =>
        obtain ⟨j, A4, c4, hj, rfl, rfl, HV⟩ := hrel
        clear HS3
        by_cases hjm : j < m
        · obtain ⟨p, hp⟩ : ∃ p, st.reverse[j]? = some p := ⟨_, List.getElem?_eq_getElem (by rw [List.length_reverse, HSl.out]; exact hjm)⟩
          obtain ⟨g3, cc3, e3, _, lt3, x3, _⟩ := own_get HO3.out (j := j) (x := .int .i64 (p.2.1 : Int)) (lastc_get hp)
          obtain ⟨rfl, rfl⟩ : A3 = some ⟨g3, 0, none⟩ ∧ c3 = cc3 := by injection e3 with ea1 ea0 ea2; exact ⟨ea1, ea2⟩
          have x3' := (HV.out.1.cell (p := ⟨g3, j, none⟩) lt3).trans x3
          have hpk := HBd.out p (List.mem_reverse.1 (List.mem_of_getElem? hp))
          obtain ⟨⟨en, ec, el, em⟩, hE⟩ : ∃ e, e = EE (lkE gs now) L p.2.1 := ⟨_, rfl⟩
          obtain ⟨gO, cO, eO, hEB⟩ : ∃ gO cO, A2 = some ⟨gO, 0, none⟩ ∧ c2 = cO ∧ EB wL gO (p.2.1 * 4) ⟨en, ec, el, em⟩ ∧ gO < wL.heap.size := by
            obtain ⟨gO, cO, eO, _, lO⟩ := HW3.out.o.form (by omega)
            injection eO with ea1 ea0 ea2
            have ho := HW3.out.o
            rw [ea1, ea2] at ho
            refine ⟨gO, cO, ea1, ea2, ?_, lO⟩
            rw [hE]
            exact own_eb (xs := []) (by rw [List.append_nil]; exact ho) p.2.1 _ (by rw [List.getElem?_map, List.getElem?_range hpk]; rfl)
          obtain ⟨rfl, hEB, lO⟩ := hEB
          subst eO
          obtain ⟨k0, k1, k2, k3⟩ := hEB.same (HV.out.1.block gO lO)
          simp only at k0 k1 k2 k3
          have HT := (show Hid ((emS (EE (lkE gs now) L) st).take (j + 1) = (emS (EE (lkE gs now) L) st).take j ++ [⟨en, ec, el, em⟩]) from by
            show _ = _
            rw [take_next (emS_get hp), ← hE])
          have HO := (show Hid (wr.ownsRow wL.heap.size 33 4 (.slice A4 j c4) j (emc ((emS (EE (lkE gs now) L) st).take j))) from HV.out.2)
          have HBw := (show Hid (wL.heap.size ≤ wr.heap.size) from HV.out.1.size)
          have HPu := (show Hid (∀ (g5 cap5 : Nat) (w5 : World), w5.ownsRow wL.heap.size 33 4 (.slice (some ⟨g5, 0, none⟩) (j + 1) cap5) (j + 1) (emc ((emS (EE (lkE gs now) L) st).take j ++ [⟨en, ec, el, em⟩])) → wr.grownBy w5 (Value.slice A4 j c4).ownBlock → Hid (Below wL.heap.size wL w5 ∧ w5.ownsRow wL.heap.size 33 4 (.slice (some ⟨g5, 0, none⟩) (j + 1) cap5) (j + 1) (emc ((emS (EE (lkE gs now) L) st).take (j + 1))))) from fun g5 cap5 w5 h1 h2 => ⟨below_grown HV.out.1 h2 (fun q e => (HV.out.2.lt q e).1), by rw [HT.out]; exact h1⟩)
          have y0 : (0 : Int) ≤ (j : Int) := by omega
          have y1 : (j : Int) < (m : Int) := by omega
          have y2 : (0 : Int) ≤ (p.2.1 : Int) := by omega
          have y3 : (p.2.1 : Int) < (k : Int) := by omega
          clear hp e3 x3 lt3 hE hEB lO hpk HV HT HW3 HO3 HBd HSl
          go_wp2_with (at_builtin; refine wpList_appE wr.heap.size rfl rfl _ _ rfl wL.heap.size j _ _ rfl rfl HO.out (by omega) HBw.out ?_; intro g5 cap5 w5 ho5 hg5 hat5 hl5; have HV5 := HPu.out g5 cap5 w5 ho5 hg5; clear ho5 hg5 hat5 hl5 HPu HO HBw x3' k0 k1 k2 k3)
          go_roundw
          case rel => exact ⟨j + 1, some ⟨g5, 0, none⟩, cap5, by omega, by go_num, rfl, HV5⟩
          case measure => simp [intOf]; omega
        · obtain rfl : j = m := by omega
          have hD : Below wr.heap.size wr wr.drew := (Below.refl _ _).drew
          have HW4 := (show Hid (PdS w wr (.slice A gs.length c) L (EE (lkE gs now) L) gB N k (.slice A2 k c2)) from HW3.out.later HV.out.1)
          have HWd := (show Hid (PdS w wr.drew (.slice A gs.length c) L (EE (lkE gs now) L) gB N k (.slice A2 k c2)) from HW4.out.later hD)
          have HPs := (show Hid (RdE wr.drew A4 (emS (EE (lkE gs now) L) st)) from by
            have h := HV.out.2
            rw [List.take_of_length_le (by rw [emS_len, HSl.out]; exact Nat.le_refl _)] at h
            exact (own_rd h (by rw [emS_len, HSl.out])).later hD)
          obtain ⟨⟨en, ec, el, em⟩, hE⟩ : ∃ e, e = EE (lkE gs now) L k := ⟨_, rfl⟩
          have HC := (show Hid (∀ _ : Unit, Calls Tryz.prog 47 #[.agg #[.slice A gs.length c], ndG n, .slice A4 j c4, .slice An gs.length cn] wr.drew fun e w' => e = .returned (.agg #[.bool en, .bool ec, .int .i64 el, .int .i64 em]) ∧ Below wr.drew.heap.size wr.drew w') from fun _ => by
            obtain ⟨h1, h2⟩ := HPt.out
            have hn := HNn.out
            have hm := List.mem_of_getElem? hn
            have hok := er_ok hn (h1.rt.each k hlt)
            have h := nodeD_any (gs := gs) (now := now) n A A4 An c c4 cn (emS (EE (lkE gs now) L) st) hok.al (h1.sz n hm) (h1.fd n hm) (by rw [HM.out.2]; exact h1.klen hn) (by rw [HM.out.2]; exact h1.kids hn) h2 wr.drew (HP.out.later HWd.out.b) HPs.out (HR.out.later HWd.out.b)
            rw [← HM.out.1] at h
            have e := EE_step (r := lkE gs now) h1.rt hn
            rw [← HM.out.2, ← hE] at e
            rw [← e] at h
            exact h)
          have HEk := (show Hid ((⟨en, ec, el, em⟩ : Em) = EE (lkE gs now) L k) from hE)
          have HO := (show Hid (wr.drew.ownsRow N 33 4 (.slice A2 k c2) k (emc ((List.range k).map (EE (lkE gs now) L)))) from HWd.out.o)
          obtain ⟨d0, d1, d2, d3, d4, d5, d6⟩ := (HCl.out.1.same (HWd.out.b.block gp HCl.out.2)) k n HNn.out
          have dx := HWd.out.x.cl
          have HNs := (show Hid (N ≤ wr.drew.heap.size) from HWd.out.n.2.2)
          clear hE HV HPs HWd HW3 HO3 HBd HSl hj har
          go_wp2_with fail
          go_region_law (first
            | (refine step_call4 enters_nodeD rfl _ _ _ _ _ _ _ _ (by rfl) (.agg #[.slice A gs.length c]) (ndG n) (.slice A4 j c4) (.slice An gs.length cn) (by rfl) (by rfl) (by rfl) (by rfl) ?_; with_reducible refine (HC.out ()).mono ?_; rintro e wA ⟨rfl, bA⟩; refine ⟨_, rfl, ?_⟩)
            | (refine step_append_lies _ (by rfl) _ _ _ (by rfl) N 33 i0 zE 4 24 Tryz.underlying26 hinf hz0 hz1 hz2 rfl (by omega) _ _ (emc ((List.range k).map (EE (lkE gs now) L))) (by rfl) ((T.own_below HO.out bA).alloc _) ⟨wA.heap.size, 0, none⟩ 1 1 (emV ⟨en, ec, el, em⟩) (by rfl) (by rfl) (World.news_of_block (cs := #[.bool en, .bool ec, .int .i64 el, .int .i64 em]) (t := 33) (fr := (0, 0)) (heap_alloc_new wA _)) (em_one _) (by omega) (by unfold maxLen; omega) (by omega) (by have q1 := bA.size; have q2 := HNs.out; rw [World.size_alloc]; omega) (wA.heap.size + 1) (by simp) ?_; intro g5 cap5 w5 hown hgrow hat hltg))
          all_goals
            have HV5 := (show Hid (PdS w w5 (.slice A gs.length c) L (EE (lkE gs now) L) gB N (k + 1) (.slice (some ⟨g5, 0, none⟩) (k + 1) cap5)) from by
              have hA : Below wr.heap.size wr wA := hD.trans bA
              exact ((HW4.out.later hA).later (below_box _ _)).push (by rw [emc_app, emc_one, ← HEk.out]; exact hown) hgrow)
            clear hown hgrow hat hltg bA HO HC HW4 HEk HNs dx d0 d1 d2 d3 d4 d5 d6 hD
            go_wp2_with fail
            go_roundw
            case rel => exact ⟨k + 1, some ⟨g5, 0, none⟩, cap5, by omega, by go_num, rfl, HV5⟩
            case measure => simp [intOf]; omega
    · obtain rfl : k = L.length := by omega
      have HO := (show Hid (wr.ownsRow w.heap.size 33 4 (.slice A2 L.length c2) L.length (emc ((List.range L.length).map (EE (lkE gs now) L)))) from T.own_base HW.out.o (by have := HW.out.n.1; omega))
      have HB := (show Hid (Below w.heap.size w wr) from HW.out.b)
      clear HW HG HP HPt HR HCl
      go_wp2_with fail
      go_ret
      exact ⟨⟨_, rfl, HO.out⟩, HB.out⟩
end Go.Proofs.YtokfgoepnfjafaaGreat.N

namespace Go.Proofs.YtokfgoepnfjafaaGreat.N
open Go.RowKit Go.Maps
open Go.Proofs.YtokfgoepnfjafaaGreat.T
/-- The first of those ahead is gone over. -/
theorem WlI.perm {n : Nat} {c : Mx} {r : Nat} {l : List Bool} {ah ah2 : List Nat} {x : Option Nat} (h : WlI n c r l ah x) (he : ∀ y, y ∈ ah ↔ y ∈ ah2) : WlI n c r l ah2 x :=
  ⟨h.ln, h.hi, fun y hy => h.am y ((he y).2 hy), fun y hy => by
    rcases h.pr y hy with q | q
    · exact .inl ((he y).1 q)
    · exact .inr q⟩
theorem WlI.popf {n : Nat} {c : Mx} {r : Nat} {l : List Bool} {ah : List Nat} {x : Nat} (h : WlI n c r l (x :: ah) none) : WlI n c r l ah (some x) ∧ x < n ∧ (x = r ∨ l[x]? = some true) :=
  WlI.pop (h.perm (ah2 := ah ++ [x]) fun y => by rw [List.mem_cons, List.mem_append, List.mem_singleton]; exact Or.comm)
/-- A rule's ways back: where its list stands. L: the list, i: how much of it has been gone over. -/
structure LpI (n : Nat) (c : Mx) (r : Nat) (l : List Bool) (L : List Nat) (i : Nat) : Prop where
  w : WlI n c r l (L.drop i) none
  le : i ≤ L.length
  no : l[r]? ≠ some true
/-- A rule of the list is gone over: its first k nodes. -/
structure LqI (gs : GL) (r : Nat) (l : List Bool) (L : List Nat) (i x : Nat) (P : List Nd) (k : Nat) : Prop where
  w : WlI gs.length (cG gs) r l (L.drop (i + 1)) (some x)
  le : i < L.length
  at' : L[i]? = some x
  lt : x < gs.length ∧ (x = r ∨ l[x]? = some true)
  no : l[r]? ≠ some true
  p : ∃ g, gs[x]? = some g ∧ g.2 = P
  d : ∀ (j : Nat) n q, j < k → P[j]? = some n → n.op = 6 → fdG gs n.tx = some q → l[q]? = some true
theorem LpI.start {n : Nat} {c : Mx} {r : Nat} (hr : r < n) : LpI n c r (List.replicate n false) [r] 0 :=
  ⟨WlI.start hr, by simp, fun h => by rw [List.getElem?_replicate] at h; split at h <;> cases h⟩
theorem LpI.open' {gs : GL} {r : Nat} {l : List Bool} {L : List Nat} {i : Nat} (h : LpI gs.length (cG gs) r l L i) (hi : i < L.length) : ∃ x g, L[i]? = some x ∧ gs[x]? = some g ∧ x < gs.length ∧ LqI gs r l L i x g.2 0 := by
  have e : L[i]? = some L[i] := List.getElem?_eq_getElem hi
  have hw := h.w
  rw [List.drop_eq_getElem_cons hi] at hw
  obtain ⟨h1, h2, h3⟩ := hw.popf
  have hg : gs[L[i]]? = some gs[L[i]] := List.getElem?_eq_getElem h2
  exact ⟨_, _, e, hg, h2, h1, hi, e, ⟨h2, h3⟩, h.no, ⟨_, hg, rfl⟩, fun j n q hj => by omega⟩
theorem LqI.shut {gs : GL} {r : Nat} {l : List Bool} {L : List Nat} {i x : Nat} {P : List Nd} (h : LqI gs r l L i x P P.length) : LpI gs.length (cG gs) r l L (i + 1) := by
  refine ⟨h.w.shut fun j hj => ?_, h.le, h.no⟩
  obtain ⟨g, hg, rfl⟩ := h.p
  unfold cG at hj
  rw [hg] at hj
  simp only [List.any_eq_true, Bool.and_eq_true, decide_eq_true_eq] at hj
  obtain ⟨nd, hm, h6, hf⟩ := hj
  obtain ⟨k, hk⟩ := List.getElem?_of_mem hm
  exact h.d k nd j (List.getElem?_eq_some_iff.1 hk).1 hk h6 hf
theorem LqI.cg {gs : GL} {r : Nat} {l : List Bool} {L : List Nat} {i x : Nat} {P : List Nd} {k q : Nat} {n : Nd} (h : LqI gs r l L i x P k) (hn : P[k]? = some n) (h6 : n.op = 6) (hf : fdG gs n.tx = some q) : cG gs x q = true := by
  obtain ⟨g, hg, rfl⟩ := h.p
  unfold cG
  rw [hg]
  simp only [List.any_eq_true, Bool.and_eq_true, decide_eq_true_eq]
  exact ⟨n, List.mem_of_getElem? hn, h6, hf⟩
/-- The next node is no call, or it calls one that is marked. -/
theorem LqI.over {gs : GL} {r : Nat} {l : List Bool} {L : List Nat} {i x : Nat} {P : List Nd} {k : Nat} {n : Nd} (h : LqI gs r l L i x P k) (hn : P[k]? = some n) (hq : n.op = 6 → ∀ q, fdG gs n.tx = some q → l[q]? = some true) : LqI gs r l L i x P (k + 1) :=
  ⟨h.w, h.le, h.at', h.lt, h.no, h.p, fun j m q hj hm h6 hf => by
    by_cases e : j = k
    · subst e; rw [hn] at hm; cases hm; exact hq h6 q hf
    · exact h.d j m q (by omega) hm h6 hf⟩
/-- It calls one that is not marked yet, and not the one that is looked for. -/
theorem LqI.mark {gs : GL} {r : Nat} {l : List Bool} {L : List Nat} {i x : Nat} {P : List Nd} {k q : Nat} {n : Nd} (h : LqI gs r l L i x P k) (hn : P[k]? = some n) (h6 : n.op = 6) (hf : fdG gs n.tx = some q) (hr : q ≠ r) : LqI gs r (l.set q true) (L ++ [q]) i x P (k + 1) := by
  have hc := h.cg hn h6 hf
  have hq := fdG_lt hf
  have hl := h.le
  have hw := h.w.mark h.lt hc hq
  rw [← List.drop_append_of_le_length (show i + 1 ≤ L.length from hl)] at hw
  refine ⟨hw, by rw [List.length_append]; omega, by rw [List.getElem?_append_left hl]; exact h.at', ⟨h.lt.1, h.lt.2.imp id fun e => get_set.2 (.inr e)⟩, fun e => ?_, h.p, fun j m z hj hm g6 hg => ?_⟩
  · rcases get_set.1 e with ⟨e, _⟩ | e
    · exact hr e.symm
    · exact h.no e
  · by_cases e : j = k
    · subst e
      rw [hn] at hm
      cases hm
      rw [hf] at hg
      cases hg
      exact get_set.2 (.inl ⟨rfl, by rw [h.w.ln]; exact hq⟩)
    · exact get_set.2 (.inr (h.d j m z (by omega) hm g6 hg))
theorem LqI.back {gs : GL} {r : Nat} {l : List Bool} {L : List Nat} {i x : Nat} {P : List Nd} {k : Nat} {n : Nd} {R : Mx} (h : LqI gs r l L i x P k) (hR : IsR gs.length (cG gs) R) (hn : P[k]? = some n) (h6 : n.op = 6) (hf : fdG gs n.tx = some r) : R r r = true := by
  have hc := h.cg hn h6 hf
  have hr := fdG_lt hf
  refine (hR.rl r r hr hr).2 ?_
  rcases h.lt.2 with e | e
  · rw [e] at hc; exact Rc.of hc
  · exact Rc.trans h.lt.1 (h.w.hi x e) (Rc.of hc)
theorem LpI.none {gs : GL} {r : Nat} {l : List Bool} {L : List Nat} {R : Mx} (h : LpI gs.length (cG gs) r l L L.length) (hR : IsR gs.length (cG gs) R) (hr : r < gs.length) : R r r = false := by
  have hw := h.w
  rw [List.drop_length] at hw
  cases e : R r r with
  | false => rfl
  | true => exact absurd ((hw.done r).2 ((hR.rl r r hr hr).1 e)) h.no
/-- How much is left. -/
def lpM (l : List Bool) (L : List Nat) (i : Nat) : Nat := 2 * l.count false + (L.length - i)
theorem lpM_mark {l : List Bool} {L : List Nat} {i q : Nat} (h : l[q]? = some false) (hi : i ≤ L.length) : lpM (l.set q true) (L ++ [q]) i + 1 = lpM l L i := by
  have := cn_set l q h
  unfold lpM
  rw [List.length_append, List.length_singleton]
  omega
end Go.Proofs.YtokfgoepnfjafaaGreat.N

namespace Go.Proofs.YtokfgoepnfjafaaGreat.N
open Go.RowKit Go.Maps
open Go.Proofs.YtokfgoepnfjafaaGreat.T

open U (nI own_get own_slice wpList_app1 wpList_app1H below_grown info_split)
/-- While a rule's ways are gone along. -/
structure LpS (w wr : World) (gs : GL) (u : Value) (l : List Bool) (L : List Nat) (v : Value) : Prop where
  b : Below w.heap.size w wr
  x : GX wr w.heap.size u
  m : wr.ownsRow (w.heap.size + 1) 4 1 (.slice (some ⟨w.heap.size + 1, 0, none⟩) gs.length gs.length) gs.length (l.map Value.bool)
  a : wr.ownsRow (w.heap.size + 1) 3 1 v L.length (L.map nI)
theorem LpS.later {w wr w2 : World} {gs : GL} {u : Value} {l : List Bool} {L : List Nat} {v : Value} (h : LpS w wr gs u l L v) (hb : Below wr.heap.size wr w2) : LpS w w2 gs u l L v := ⟨h.b.trans (hb.mono h.b.size), h.x.below hb, U.own_below h.m hb, U.own_below h.a hb⟩
theorem LpS.start {w w1 w2 : World} {gs : GL} {u : Value} (r : Nat) (h1 : w1 = w.alloc (.cells #[u] 24)) (ho : w2.ownsRow (w.heap.size + 1) 4 1 (.slice (some ⟨w.heap.size + 1, 0, none⟩) gs.length gs.length) gs.length (List.replicate gs.length (.bool false))) (hg : w1.grownBy w2 none) :
    LpS w (w2.alloc (.cells #[.int .i64 (r : Int)] 3)) gs u (List.replicate gs.length false) [r] (.slice (some ⟨w2.heap.size, 0, none⟩) 1 1) := by
  have hb1 : Below w.heap.size w w1 := by rw [h1]; exact below_box _ _
  have hs1 : w1.heap.size = w.heap.size + 1 := by rw [h1, World.size_alloc]
  have hg1 : GX w1 w.heap.size u := by rw [h1]; exact GX.mk (heap_alloc_new w _)
  have hb12 : Below w1.heap.size w1 w2 := below_grown (Below.refl _ _) hg (fun k e => by cases e)
  have hsz := hb12.size
  refine ⟨(hb1.trans (hb12.mono hb1.size)).alloc (Nat.le_trans hb1.size hsz) _, (hg1.below hb12).below (below_box _ _), ?_, ?_⟩
  · rw [List.map_replicate]; exact ho.alloc _
  · exact World.ownsRow_lit w2 #[.int .i64 (r : Int)] 1 (by omega) (by unfold maxLen; omega) rfl
theorem LpS.store {w wr : World} {gs : GL} {u : Value} {l : List Bool} {L : List Nat} {v : Value} (h : LpS w wr gs u l L v) (j : Nat) : LpS w (wr.setCell ⟨w.heap.size + 1, j, none⟩ (.bool true)) gs u (l.set j true) L v := by
  obtain ⟨st1, st2⟩ := h.m.stored j (.bool true)
  refine ⟨below_grown h.b st2 (fun k e => by cases e; exact Nat.le_succ _), h.x.same (heap_setCell_other _ _ _ _ (by show w.heap.size ≠ w.heap.size + 1; omega)), ?_, U.own_kept h.a st2 (fun k e => by cases e; exact own_apart h.m h.a (by decide) rfl)⟩
  rw [List.map_set]
  exact st1
theorem LpS.push {w wr w5 : World} {gs : GL} {u : Value} {l : List Bool} {L : List Nat} {v v' : Value} {j : Nat} (h : LpS w wr gs u l L v) (ho : w5.ownsRow (w.heap.size + 1) 3 1 v' (L.length + 1) (L.map nI ++ [nI j])) (hg : wr.grownBy w5 v.ownBlock) : LpS w w5 gs u l (L ++ [j]) v' := by
  refine ⟨below_grown h.b hg (fun k e => by have := (h.a.lt k e).1; omega), h.x.same (hg.block _ h.x.lt (fun e => by have := (h.a.lt _ e.symm).1; omega)), U.own_kept h.m hg (fun k e => own_apart h.a h.m (by decide) e), ?_⟩
  rw [List.length_append, List.map_append]
  exact ho
set_option maxRecDepth 100000 in
set_option maxHeartbeats 32000000 in
/-- The document: does a rule come to itself? -/
theorem loops_any {gs : GL} (hR : RtG gs) {R : Mx} (hI : IsR gs.length (cG gs) R) (A : Option Addr) (c : Nat) {r : Nat} (hr : r < gs.length) (w : World) (hp : GI w A gs) :
    Calls Tryz.prog 33 #[.agg #[.slice A gs.length c], .int .i64 (r : Int)] w fun e w' => e = .returned (.bool (R r r)) ∧ Below w.heap.size w w' := by
  have hn := hR.n2
  obtain ⟨w1, hw1⟩ : ∃ w1, w1 = w.alloc (.cells #[.slice A gs.length c] 24) := ⟨_, rfl⟩
  have HE1 := (show Hid (w.alloc (.cells #[.slice A gs.length c] 24) = w1) from hw1.symm)
  have hs1 : w1.heap.size = w.heap.size + 1 := by rw [hw1, World.size_alloc]
  have q1 : w1.cell? ⟨w.heap.size, 0, none⟩ = some (.slice A gs.length c) := by rw [hw1]; exact (GX.mk (heap_alloc_new w _)).cl
  obtain ⟨i0, hinf, hz0, hz1, hz2⟩ := info_split Tryz.info4
  obtain ⟨w2, hmk, ho2, hg2⟩ := run_make_full (P := Tryz.prog) w1 (w.heap.size + 1) 71 4 i0 (.bool false) 1 Tryz.underlying71 hinf hz0 hz1 .i64 .i64 gs.length (by rw [hz2]; omega) (by unfold maxLen; omega) (by omega)
  have ho2' : w2.ownsRow (w.heap.size + 1) 4 1 (.slice (some ⟨w.heap.size + 1, 0, none⟩) gs.length gs.length) gs.length (List.replicate gs.length (.bool false)) := by
    have e : (madeCells (Value.cells (.bool false)) (gs.length * 1)).toList = List.replicate gs.length (Value.bool false) := by rw [Nat.mul_one]; exact toList_madeCells_one _ _
    rw [e, hs1] at ho2
    exact ho2
  rw [hs1] at hmk
  have HS := (show Hid (LpS w (w2.alloc (.cells #[.int .i64 (r : Int)] 3)) gs (.slice A gs.length c) (List.replicate gs.length false) [r] (.slice (some ⟨w2.heap.size, 0, none⟩) 1 1)) from LpS.start r hw1 ho2' hg2)
  have HL0 := (show Hid (LpI gs.length (cG gs) r (List.replicate gs.length false) [r] 0) from LpI.start hr)
  have HC0 := (show Hid (([r] : List Nat).length + (List.replicate gs.length false).count false = gs.length + 1) from by show _ = _; rw [List.count_replicate_self]; simp; omega)
  have HP := (show Hid (GI w A gs) from hp)
  have HR := (show Hid (RtG gs) from hR)
  have HI := (show Hid (IsR gs.length (cG gs) R ∧ r < gs.length) from ⟨hI, hr⟩)
  clear hR hI hr hp hw1 ho2 ho2' hg2 hinf hz0 hz1 hz2 i0 hs1
  go_enter Tryz.func33, Tryz.ntmps33
  go_wp2_with (rw [HE1.out])
  clear hmk HE1 q1
  generalize hwa : w2.alloc (.cells #[.int .i64 (r : Int)] 3) = wa at *
  generalize hka : w2.heap.size = ka at *
  clear hwa hka
  go_loopg [6, 7] (lpM (List.replicate gs.length false) [r] 0) (fun gk u t wr => ∃ (i m : Nat) (L : List Nat) (l : List Bool) (A2 : Option Addr) (c2 : Nat), t = .int .i64 (i : Int) ∧ u = .slice A2 m c2 ∧ m ≤ 201 ∧ i ≤ m ∧ Hid (L.length = m ∧ lpM l L i = gk ∧ L.length + l.count false = gs.length + 1) ∧ Hid (LpI gs.length (cG gs) r l L i) ∧ Hid (LpS w wr gs (.slice A gs.length c) l L (.slice A2 m c2)))
  case atStart => exact ⟨0, 1, [r], List.replicate gs.length false, some ⟨ka, 0, none⟩, 1, by go_num, rfl, by omega, by omega, ⟨rfl, rfl, HC0.out⟩, HL0, HS⟩
  case round =>
    obtain ⟨i, m, L, l, A2, c2, rfl, rfl, hm, hi, HL, HIL, HW⟩ := hrel
    clear HS HL0 HC0
    by_cases hil : i < m
    · obtain ⟨x, g, hx, hg, hxl, hQ⟩ := HIL.out.open' (by rw [HL.out.1]; exact hil)
      have HQ := (show Hid (LqI gs r l L i x g.2 0) from hQ)
      obtain ⟨ga, ca, ea, _, _, xa, _⟩ := own_get HW.out.a (j := i) (x := nI x) (by rw [List.getElem?_map, hx]; rfl)
      obtain ⟨rfl, rfl⟩ : A2 = some ⟨ga, 0, none⟩ ∧ c2 = ca := by injection ea with ea1 ea0 ea2; exact ⟨ea1, ea2⟩
      have xa' : wr.cell? ⟨ga, i, none⟩ = some (.int .i64 (x : Int)) := xa
      obtain ⟨b, o, A3, c3, rfl, lb, _, x1, r2⟩ := HP.out.d x g hg
      have x1' := (HW.out.b.cell (p := ⟨b, o + x * 2 + 1, none⟩) lb).trans x1
      have q1 := HW.out.x.cl
      have HR2 := (show Hid (RdN w A3 g.2) from r2)
      have HN := (show Hid (∀ j, j < g.2.length → ∃ n, g.2[j]? = some n ∧ g.2 ≠ [] ∧ (n.op = 6 → ∃ i, fdG gs n.tx = some i)) from fun j hj => ⟨_, List.getElem?_eq_getElem hj, by (intro q; rw [q] at hj; simp at hj), fun h6 => HR.out.dn.c g (List.mem_of_getElem? hg) _ (List.getElem_mem hj) h6⟩)
      have hgl : g.2.length ≤ 140737488355328 := (HP.out.t g (List.mem_of_getElem? hg)).2.1
      have z0 : (0 : Int) ≤ (i : Int) := by omega
      have z1 : (i : Int) < (m : Int) := by omega
      have z2 : (0 : Int) ≤ (x : Int) := by omega
      have z3 : (x : Int) < (gs.length : Int) := by omega
      have HLe := (show Hid (L.length = m ∧ lpM l L i ≤ gk ∧ L.length + l.count false = gs.length + 1) from ⟨HL.out.1, Nat.le_of_eq HL.out.2.1, HL.out.2.2⟩)
      clear ea xa hx hg hQ lb x1 r2 HIL HL
      go_wp2_with fail
      go_quiet (fail)
      have HW2 := (show Hid (LpS w (wr.drewN nq) gs (.slice (some ⟨b, o, none⟩) gs.length c) l L (.slice (some ⟨ga, 0, none⟩) m c2)) from HW.out.later (below_dn _))
      generalize wr.drewN nq = wB at *
      clear xa' x1' q1 HW
      go_wp2_with fail
      go_loopw [6, 9] (fun u t wr => ∃ (k m : Nat) (L : List Nat) (l : List Bool) (A2 : Option Addr) (c2 : Nat), t = .int .i64 (k : Int) ∧ u = .slice A2 m c2 ∧ m ≤ 201 ∧ k ≤ g.2.length ∧ Hid (L.length = m ∧ lpM l L i ≤ gk ∧ L.length + l.count false = gs.length + 1) ∧ Hid (LqI gs r l L i x g.2 k) ∧ Hid (LpS w wr gs (.slice (some ⟨b, o, none⟩) gs.length c) l L (.slice A2 m c2))) (fun _ t _ => g.2.length - (intOf t).toNat)
      case atStart => exact ⟨0, m, L, l, some ⟨ga, 0, none⟩, c2, by go_num, rfl, hm, by omega, HLe, HQ, HW2⟩
      case round =>
        clear HW2 HQ HLe hm hi hil z0 z1
        obtain ⟨k, m, L, l, A2, c2, rfl, rfl, hm, hk, HL, HQ, HW⟩ := hrel
        by_cases hkl : k < g.2.length
        · obtain ⟨n, hn1, nl, h6f⟩ := HN.out k hkl
          obtain ⟨g1, o1, rfl, l1, q2⟩ := HR2.out nl
          obtain ⟨a0, a1, a2, a3, a4, a5, a6⟩ := (q2.same (HW.out.b.block g1 l1)) k n hn1
          have y0 : (0 : Int) ≤ (k : Int) := by omega
          have y1 : (k : Int) < (g.2.length : Int) := by omega
          by_cases h6 : n.op = 6
          · have t6 : (n.op != 6) = false := by rw [h6]; rfl
            obtain ⟨q, hf⟩ := h6f h6
            have hq := fdG_lt hf
            have HF : Hid (∀ W, Below wr.heap.size wr W → Calls Tryz.prog 25 #[.agg #[.slice (some ⟨b, o, none⟩) gs.length c], .string n.tx] W fun e w' => e = .returned (.int .i64 (q : Int)) ∧ Below wr.heap.size wr w') := fun W hW => by
              have h := find9_any gs (some ⟨b, o, none⟩) c n.tx W ((HP.out.later HW.out.b).later hW)
              rw [fdN_some hf] at h
              exact h.mono fun e w' p => ⟨p.1, hW.trans (p.2.mono hW.size)⟩
            have HKe := (show Hid (∀ W, Below wr.heap.size wr W → W.cell? ⟨w.heap.size, 0, none⟩ = some (.slice (some ⟨b, o, none⟩) gs.length c) ∧ W.cell? ⟨g1, o1 + k * 7 + 2, none⟩ = some (.string n.tx)) from fun W hW => ⟨(HW.out.x.below hW).cl, (hW.cell (p := ⟨g1, o1 + k * 7 + 2, none⟩) (Nat.lt_of_lt_of_le l1 HW.out.b.size)).trans a2⟩)
            have q1 := HW.out.x.cl
            have HNn := (show Hid (g.2[k]? = some n ∧ n.op = 6 ∧ fdG gs n.tx = some q ∧ q < gs.length) from ⟨hn1, h6, hf, hq⟩)
            clear nl h6f h6 hf q2 hn1 HN
            go_wp2_with fail
            go_region_held3 (fun W => W.cell? ⟨w.heap.size, 0, none⟩ = some (.slice (some ⟨b, o, none⟩) gs.length c) ∧ W.cell? ⟨g1, o1 + k * 7 + 2, none⟩ = some (.string n.tx)) (first | go_keep | exact HKe.out _ b4) (first | (go_at_call 25; with_reducible refine (HF.out _ (Below.refl _ _).drew).mono ?_; rintro e w4 ⟨rfl, b4⟩))
            rename_i hHeld
            have HW4 := (show Hid (LpS w w4 gs (.slice (some ⟨b, o, none⟩) gs.length c) l L (.slice A2 m c2)) from HW.out.later b4)
            have v0 : (0 : Int) ≤ (q : Int) := by omega
            have v1 : (q : Int) < (gs.length : Int) := by omega
            clear hHeld b4 HKe HF HW q1 a0 a1 a2 a3 a4 a5 a6 t6
            by_cases hqr : q = r
            · have tq : ((q : Int) == (r : Int)) = true := by rw [hqr]; simp
              have HE := (show Hid (R r r = true) from HQ.out.back HI.out.1 HNn.out.1 HNn.out.2.1 (by rw [← hqr]; exact HNn.out.2.2.1))
              have HB := (show Hid (Below w.heap.size w w4) from HW4.out.b)
              clear hqr HQ HL HR2 HP HR HI HNn HW4
              go_wp2_with fail
              go_ret
              exact ⟨by rw [HE.out]; rfl, HB.out⟩
            · have tq : ((q : Int) == (r : Int)) = false := by rw [beq_eq_false_iff_ne]; omega
              have HqR := (show Hid (q ≠ r) from hqr)
              have hll := HQ.out.w.ln
              obtain ⟨bz, hbz⟩ : ∃ bz, l[q]? = some bz := ⟨_, List.getElem?_eq_getElem (by omega)⟩
              obtain ⟨gm, cm, em, _, _, xm, fm⟩ := own_get HW4.out.m (j := q) (x := .bool bz) (by rw [List.getElem?_map, hbz]; rfl)
              have emg : w.heap.size + 1 = gm := by injection em with e1; injection e1 with e1; injection e1
              clear em
              subst emg
              have HLn := (show Hid (l.length = gs.length ∧ l[q]? = some bz) from ⟨hll, hbz⟩)
              clear hqr hll hbz
              cases bz with
              | true =>
                have HQ2 := (show Hid (LqI gs r l L i x g.2 (k + 1)) from HQ.out.over HNn.out.1 (fun _ z hz => by rw [HNn.out.2.2.1] at hz; cases hz; exact HLn.out.2))
                clear HQ HLn HR2 HP HR HI HNn HqR fm
                go_wp2_with fail
                go_roundw
                case rel => exact ⟨k + 1, m, L, l, A2, c2, by go_num, rfl, hm, by omega, HL, HQ2, HW4⟩
                case measure => simp [intOf]; omega
              | false =>
                have HQ2 := (show Hid (LqI gs r (l.set q true) (L ++ [q]) i x g.2 (k + 1)) from HQ.out.mark HNn.out.1 HNn.out.2.1 HNn.out.2.2.1 HqR.out)
                have hcn := cn_set l q HLn.out.2
                have hlm := lpM_mark (L := L) (i := i) HLn.out.2 (Nat.le_of_lt HQ.out.le)
                have HL2 := (show Hid ((L ++ [q]).length = m + 1 ∧ lpM (l.set q true) (L ++ [q]) i ≤ gk ∧ (L ++ [q]).length + (l.set q true).count false = gs.length + 1) from by
                  have h1 := HL.out.1
                  have h2 := HL.out.2.1
                  have h3 := HL.out.2.2
                  refine ⟨by rw [List.length_append, h1]; rfl, by omega, ?_⟩
                  rw [List.length_append]
                  show L.length + 1 + _ = _
                  omega)
                have hm2 : m + 1 ≤ 201 := by
                  have h1 := HL2.out.1
                  have h3 := HL2.out.2.2
                  omega
                have HSs := (show Hid (LpS w (w4.setCell ⟨w.heap.size + 1, q, none⟩ (.bool true)) gs (.slice (some ⟨b, o, none⟩) gs.length c) (l.set q true) L (.slice A2 m c2)) from HW4.out.store q)
                have HSt := (show Hid ((w4.setCell ⟨w.heap.size + 1, q, none⟩ (.bool true)).ownsRow (w.heap.size + 1) 3 1 (.slice A2 m c2) m (L.map nI)) from by have h := HSs.out.a; rw [HL.out.1] at h; exact h)
                have HSb := (show Hid (w.heap.size + 1 ≤ (w4.setCell ⟨w.heap.size + 1, q, none⟩ (.bool true)).heap.size) from HSs.out.x.lt)
                have HSz := (show Hid ((w4.setCell ⟨w.heap.size + 1, q, none⟩ (.bool true)).heap.size = w4.heap.size) from by show _ = _; simp)
                have HPu := (show Hid (∀ (u' : Value) (w5 : World), w5.ownsRow (w.heap.size + 1) 3 1 u' (m + 1) (L.map nI ++ [nI q]) → (w4.setCell ⟨w.heap.size + 1, q, none⟩ (.bool true)).grownBy w5 (Value.slice A2 m c2).ownBlock → LpS w w5 gs (.slice (some ⟨b, o, none⟩) gs.length c) (l.set q true) (L ++ [q]) u') from fun u' w5 h1 h2 => HSs.out.push (by rw [HL.out.1]; exact h1) h2)
                clear HQ HLn HR2 HP HR HI HNn HqR HW4 HSs HL hcn hlm
                go_wp2_with (at_builtin; refine U.wpList_app1H w4.heap.size HSz.out rfl _ _ 87 rfl (.int .i64 0) 8 Tryz.underlying87 Tryz.info3 rfl (w.heap.size + 1) m _ (L.map nI) rfl rfl HSt.out rfl (by omega) (by decide) HSb.out ?_; intro g3 cap3 w5 ho5 hg5 hat5 hl5; have HW5 := (show Hid (LpS w w5 gs (.slice (some ⟨b, o, none⟩) gs.length c) (l.set q true) (L ++ [q]) (.slice (some ⟨g3, 0, none⟩) (m + 1) cap3)) from HPu.out _ _ ho5 hg5); clear ho5 hg5 hat5 hl5 HPu HSt HSb HSz xm fm)
                go_roundw
                case rel => exact ⟨k + 1, m + 1, L ++ [q], l.set q true, some ⟨g3, 0, none⟩, cap3, by go_num, rfl, hm2, by omega, HL2, HQ2, HW5⟩
                case measure => simp [intOf]; omega
          · have t6 : (n.op != 6) = true := by rw [bne_iff_ne]; exact h6
            have HQ2 := (show Hid (LqI gs r l L i x g.2 (k + 1)) from HQ.out.over hn1 (fun e => absurd e h6))
            clear hn1 h6f h6 HP HQ HN HR2 nl q2
            go_wp2_with fail
            go_roundw
            case rel => exact ⟨k + 1, m, L, l, A2, c2, by go_num, rfl, hm, by omega, HL, HQ2, HW⟩
            case measure => simp [intOf]; omega
        · obtain rfl : k = g.2.length := by omega
          have HI2 := (show Hid (LpI gs.length (cG gs) r l L (i + 1)) from HQ.out.shut)
          have HLt := (show Hid (lpM l L (i + 1) < gk ∧ i + 1 ≤ m) from by
            have h1 := HL.out.1
            have h2 := HL.out.2.1
            have h3 := HQ.out.le
            refine ⟨?_, by omega⟩
            unfold lpM at h2 ⊢
            omega)
          have HL2 := (show Hid (L.length = m ∧ L.length + l.count false = gs.length + 1) from ⟨HL.out.1, HL.out.2.2⟩)
          have hi2 : i + 1 ≤ m := HLt.out.2
          clear HQ HL HN HR2 HP HR HI
          go_wp2_with fail
          go_roundg (lpM l L (i + 1))
          case measure => exact HLt.out.1
          case rel => exact ⟨i + 1, m, L, l, A2, c2, by go_num, rfl, hm, hi2, ⟨HL2.out.1, rfl, HL2.out.2⟩, HI2, HW⟩
    · obtain rfl : i = m := by omega
      have HE := (show Hid (R r r = false) from LpI.none (by have h := HIL.out; rw [← HL.out.1] at h; exact h) HI.out.1 HI.out.2)
      have HB := (show Hid (Below w.heap.size w wr) from HW.out.b)
      clear HIL HL HI HR HP HW
      go_wp2_with fail
      go_ret
      exact ⟨by rw [HE.out]; rfl, HB.out⟩
end Go.Proofs.YtokfgoepnfjafaaGreat.N

namespace Go.Proofs.YtokfgoepnfjafaaGreat.N
open Go.RowKit Go.Maps
open Go.Proofs.YtokfgoepnfjafaaGreat.T

open U (own_get own_slice below_grown info_split)
theorem made_em (n : Nat) : (madeCells (Value.cells zE) (n * 4)).toList = emc (List.replicate n e0) := by
  apply List.ext_getElem?
  intro j
  by_cases hj : j < n * 4
  · have h := emc_get (List.replicate n e0) (j / 4) e0 (by rw [List.getElem?_replicate, if_pos (by omega)]) (j % 4) (by omega)
    rw [show j / 4 * 4 + j % 4 = j from by omega] at h
    rw [h]
    have hz : Value.cells zE = #[.bool false, .bool false, .int .i64 0, .int .i64 0] := rfl
    rw [hz]
    have hq : j % 4 = 0 ∨ j % 4 = 1 ∨ j % 4 = 2 ∨ j % 4 = 3 := by omega
    rcases hq with hq | hq | hq | hq
    all_goals
      simp [madeCells, hj, hq]
      rfl
  · rw [List.getElem?_eq_none (by rw [Array.length_toList, size_madeCells]; omega), List.getElem?_eq_none (by rw [emc_len, List.length_replicate]; omega)]
theorem emc_set4 : ∀ (l : List Em) (r : Nat) (e : Em), r < l.length → ((((emc l).set (r * 4) (.bool e.nu)).set (r * 4 + 1) (.bool e.cf)).set (r * 4 + 2) (.int .i64 e.le)).set (r * 4 + 3) (.int .i64 e.mo) = emc (l.set r e) := by
  intro l
  induction l with
  | nil => intro r e h; cases h
  | cons a l ih =>
    intro r e h
    cases r with
    | zero => rw [Nat.zero_mul]; rfl
    | succ r =>
      have := ih r e (by simpa using h)
      rw [show (r + 1) * 4 = r * 4 + 4 from by omega]
      exact congrArg (fun T => emV a ++ T) this
theorem emc_set3 : ∀ (l : List Em) (r : Nat) (e : Em) (m : Int), l[r]? = some e → (emc l).set (r * 4 + 3) (.int .i64 m) = emc (l.set r { e with mo := m }) := by
  intro l
  induction l with
  | nil => intro r e m h; cases h
  | cons a l ih =>
    intro r e m h
    cases r with
    | zero => cases h; rw [Nat.zero_mul]; rfl
    | succ r =>
      have := ih r e m (by simpa using h)
      rw [show (r + 1) * 4 = r * 4 + 4 from by omega]
      exact congrArg (fun T => emV a ++ T) this
/-- The ends of the document's rounds. -/
def KnD (gs : GL) (now : List Em) : Prop := ∃ (R : Mx) (bd : Nat → Bool) (m : Nat), IsR gs.length (cG gs) R ∧ (∀ i, i < gs.length → bd i = !(R i i)) ∧ now = knE gs kdR bd m ∧ knE gs kdR bd (m + 1) = knE gs kdR bd m
theorem rdE_bd {gs : GL} {kd : List Nd → Nat → List Nat} {bd bd2 : Nat → Bool} (h : ∀ i, i < gs.length → bd i = bd2 i) (now : List Em) : rdE gs kd bd now = rdE gs kd bd2 now := by
  apply List.ext_getElem?
  intro i
  by_cases hi : i < gs.length
  · have hg : gs[i]? = some gs[i] := List.getElem?_eq_getElem hi
    rw [rdE_get hg, rdE_get hg, h i hi]
  · rw [List.getElem?_eq_none (by rw [rdE_len]; omega), List.getElem?_eq_none (by rw [rdE_len]; omega)]
theorem knE_bd {gs : GL} {kd : List Nd → Nat → List Nat} {bd bd2 : Nat → Bool} (h : ∀ i, i < gs.length → bd i = bd2 i) : ∀ m, knE gs kd bd m = knE gs kd bd2 m := by
  intro m
  induction m with
  | zero => rfl
  | succ m ih =>
    show rdE gs kd bd (knE gs kd bd m) = rdE gs kd bd2 (knE gs kd bd2 m)
    rw [ih, rdE_bd h]
/-- The program's end is the document's. -/
theorem kn_same {gs : GL} (hR : RtG gs) {a b : List Em} (h1 : KnF gs a) (h2 : KnD gs b) : a = b := by
  obtain ⟨R, bd, m, hI, hbd, rfl, he⟩ := h1
  obtain ⟨R2, bd2, m2, hI2, hbd2, rfl, he2⟩ := h2
  have hs : ∀ i, i < gs.length → bd2 i = bd i := fun i hi => by
    rw [hbd2 i hi, hbd i]
    congr 1
    rw [Bool.eq_iff_iff, hI2.rl i i hi hi, hI.rl i i hi hi]
  rw [knE_bd hs] at he2 ⊢
  rw [knE_bd hs] at he2
  exact ends_one (gk_R hR) hI hbd he he2
theorem knD_ok {gs : GL} (hR : RtG gs) {now : List Em} (h : KnD gs now) : OkN gs now := by
  obtain ⟨R, bd, m, _, _, rfl, _⟩ := h
  exact knE_ok (gk_R hR) bd m
structure KdS (w wr : World) (u : Value) (gs : GL) (gN gB : Nat) (now : List Em) (bs : List Bool) : Prop where
  b : Below w.heap.size w wr
  x : GX wr w.heap.size u
  o : wr.ownsRow (w.heap.size + 1) 33 4 (.slice (some ⟨gN, 0, none⟩) gs.length gs.length) gs.length (emc now)
  m : wr.ownsRow (w.heap.size + 1) 4 1 (.slice (some ⟨gB, 0, none⟩) gs.length gs.length) gs.length (bs.map Value.bool)
  l : now.length = gs.length
  lb : bs.length = gs.length
theorem KdS.later {w wr w2 : World} {u : Value} {gs : GL} {gN gB : Nat} {now : List Em} {bs : List Bool} (h : KdS w wr u gs gN gB now bs) (hb : Below wr.heap.size wr w2) : KdS w w2 u gs gN gB now bs := ⟨h.b.trans (hb.mono h.b.size), h.x.below hb, U.own_below h.o hb, U.own_below h.m hb, h.l, h.lb⟩
theorem KdS.grown {w wr w2 : World} {u : Value} {gs : GL} {gN gB g : Nat} {now : List Em} {bs : List Bool} (h : KdS w wr u gs gN gB now bs) (hg : wr.grownBy w2 (some g)) (h1 : w.heap.size + 1 ≤ g) (h2 : g ≠ gN) (h3 : g ≠ gB) : KdS w w2 u gs gN gB now bs :=
  ⟨below_grown h.b hg (fun k e => by cases e; omega), h.x.same (hg.block _ h.x.lt (fun e => by cases e; omega)), U.own_kept h.o hg (fun k e q => by cases e; cases q; exact h2 rfl), U.own_kept h.m hg (fun k e q => by cases e; cases q; exact h3 rfl), h.l, h.lb⟩
theorem KdS.bit {w wr : World} {u : Value} {gs : GL} {gN gB : Nat} {now : List Em} {bs : List Bool} (h : KdS w wr u gs gN gB now bs) (r : Nat) (v : Bool) : KdS w (wr.setCell ⟨gB, r, none⟩ (.bool v)) u gs gN gB now (bs.set r v) := by
  obtain ⟨s1, s2⟩ := h.m.stored r (.bool v)
  have hlt := (h.m.lt gB rfl).1
  refine ⟨below_grown h.b s2 (fun k e => by cases e; omega), h.x.same (s2.block _ h.x.lt (fun e => by cases e; omega)), U.own_kept h.o s2 (fun k e => by cases e; exact own_apart h.m h.o (by decide) rfl), ?_, h.l, by rw [List.length_set]; exact h.lb⟩
  rw [List.map_set]
  exact s1
theorem gtr {a b c : World} {row : Option Nat} (h1 : a.grownBy b row) (h2 : b.grownBy c row) : a.grownBy c row :=
  ⟨h2.os.trans h1.os, h2.tape.trans h1.tape, h2.output.trans h1.output, Nat.le_trans h1.size h2.size, fun k hk hne => (h2.block k (Nat.lt_of_lt_of_le hk h1.size) hne).trans (h1.block k hk hne)⟩
/-- Four cells of a row of what is known are written. -/
theorem own_st4 {W : World} {B g n cap : Nat} {l : List Em} (h : W.ownsRow B 33 4 (.slice (some ⟨g, 0, none⟩) n cap) n (emc l)) {r : Nat} (hr : r < l.length) (e : Em) :
    ((((W.setCell ⟨g, r * 4, none⟩ (.bool e.nu)).setCell ⟨g, r * 4 + 1, none⟩ (.bool e.cf)).setCell ⟨g, r * 4 + 2, none⟩ (.int .i64 e.le)).setCell ⟨g, r * 4 + 3, none⟩ (.int .i64 e.mo)).ownsRow B 33 4 (.slice (some ⟨g, 0, none⟩) n cap) n (emc (l.set r e))
    ∧ W.grownBy ((((W.setCell ⟨g, r * 4, none⟩ (.bool e.nu)).setCell ⟨g, r * 4 + 1, none⟩ (.bool e.cf)).setCell ⟨g, r * 4 + 2, none⟩ (.int .i64 e.le)).setCell ⟨g, r * 4 + 3, none⟩ (.int .i64 e.mo)) (some g) := by
  obtain ⟨a1, b1⟩ := h.stored (r * 4) (.bool e.nu)
  obtain ⟨a2, b2⟩ := a1.stored (r * 4 + 1) (.bool e.cf)
  obtain ⟨a3, b3⟩ := a2.stored (r * 4 + 2) (.int .i64 e.le)
  obtain ⟨a4, b4⟩ := a3.stored (r * 4 + 3) (.int .i64 e.mo)
  refine ⟨?_, gtr (gtr (gtr b1 b2) b3) b4⟩
  rw [← emc_set4 l r e hr]
  exact a4
theorem KdS.rule {w wr : World} {u : Value} {gs : GL} {gN gB : Nat} {now : List Em} {bs : List Bool} (h : KdS w wr u gs gN gB now bs) {r : Nat} (hr : r < gs.length) (e : Em) : KdS w ((((wr.setCell ⟨gN, r * 4, none⟩ (.bool e.nu)).setCell ⟨gN, r * 4 + 1, none⟩ (.bool e.cf)).setCell ⟨gN, r * 4 + 2, none⟩ (.int .i64 e.le)).setCell ⟨gN, r * 4 + 3, none⟩ (.int .i64 e.mo)) u gs gN gB (now.set r e) bs := by
  obtain ⟨s1, s2⟩ := own_st4 h.o (r := r) (by rw [h.l]; exact hr) e
  have hlt := (h.o.lt gN rfl).1
  exact ⟨below_grown h.b s2 (fun k q => by cases q; omega), h.x.same (s2.block _ h.x.lt (fun q => by cases q; omega)), s1, U.own_kept h.m s2 (fun k q => by cases q; exact own_apart h.o h.m (by decide) rfl), by rw [List.length_set]; exact h.l, h.lb⟩
/-- The next ones, as far as they have been reckoned. -/
structure KeS (w wr : World) (u : Value) (gs : GL) (gN gB gX : Nat) (now : List Em) (bs : List Bool) (nx : List Em) : Prop where
  k : KdS w wr u gs gN gB now bs
  o : wr.ownsRow (w.heap.size + 1) 33 4 (.slice (some ⟨gX, 0, none⟩) gs.length gs.length) gs.length (emc nx)
  ne : gX ≠ gN
  l : nx.length = gs.length
theorem KeS.later {w wr w2 : World} {u : Value} {gs : GL} {gN gB gX : Nat} {now nx : List Em} {bs : List Bool} (h : KeS w wr u gs gN gB gX now bs nx) (hb : Below wr.heap.size wr w2) : KeS w w2 u gs gN gB gX now bs nx := ⟨h.k.later hb, U.own_below h.o hb, h.ne, h.l⟩
theorem KeS.far {w wr : World} {u : Value} {gs : GL} {gN gB gX : Nat} {now nx : List Em} {bs : List Bool} (h : KeS w wr u gs gN gB gX now bs nx) : gX ≠ gB := fun e => own_apart h.o h.k.m (by decide) rfl (by rw [e]; rfl)
theorem KeS.rule {w wr : World} {u : Value} {gs : GL} {gN gB gX : Nat} {now nx : List Em} {bs : List Bool} (h : KeS w wr u gs gN gB gX now bs nx) {r : Nat} (hr : r < gs.length) (e : Em) : KeS w ((((wr.setCell ⟨gX, r * 4, none⟩ (.bool e.nu)).setCell ⟨gX, r * 4 + 1, none⟩ (.bool e.cf)).setCell ⟨gX, r * 4 + 2, none⟩ (.int .i64 e.le)).setCell ⟨gX, r * 4 + 3, none⟩ (.int .i64 e.mo)) u gs gN gB gX now bs (nx.set r e) := by
  obtain ⟨s1, s2⟩ := own_st4 h.o (r := r) (by rw [h.l]; exact hr) e
  exact ⟨h.k.grown s2 (h.o.lt gX rfl).1 h.ne h.far, s1, h.ne, by rw [List.length_set]; exact h.l⟩
theorem KeS.cut {w wr : World} {u : Value} {gs : GL} {gN gB gX : Nat} {now nx : List Em} {bs : List Bool} (h : KeS w wr u gs gN gB gX now bs nx) {r : Nat} {e : Em} (hr : nx[r]? = some e) : KeS w (wr.setCell ⟨gX, r * 4 + 3, none⟩ (.int .i64 (-1))) u gs gN gB gX now bs (nx.set r { e with mo := -1 }) := by
  obtain ⟨s1, s2⟩ := h.o.stored (r * 4 + 3) (.int .i64 (-1))
  refine ⟨h.k.grown s2 (h.o.lt gX rfl).1 h.ne h.far, ?_, h.ne, by rw [List.length_set]; exact h.l⟩
  rw [← emc_set3 nx r e (-1) hr]
  exact s1
end Go.Proofs.YtokfgoepnfjafaaGreat.N
