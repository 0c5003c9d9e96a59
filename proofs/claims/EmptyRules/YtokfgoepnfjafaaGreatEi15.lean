/- DERIVED. Plain mathematics and walks, laid together (15). -/
import Derived.BigQuiet
import Derived.Deep.LoopGhost
import Derived.Deep.RegionHeld3
import Derived.Test.YtokfgoepnfjafaaGreatEi14
namespace Go.Proofs.YtokfgoepnfjafaaGreat.N
open Go.RowKit Go.Maps
open Go.Proofs.YtokfgoepnfjafaaGreat.T

open U (own_get own_slice below_grown info_split)
set_option maxRecDepth 100000 in
set_option maxHeartbeats 4000000 in
theorem em_eql (a b : Em) (W : World) : (binOp .eql 33 (emG a) (emG b)).run Tryz.prog W = .ok (.bool (eqB a b)) W := by
  have hp : Tryz.prog.stoodInHeld 33 = false := by kernel_rfl
  obtain ⟨a1, a2, a3, a4⟩ := a
  obtain ⟨b1, b2, b3, b4⟩ := b
  unfold eqB
  cases hc : (a3 == b3)
  · cases a1 <;> cases b1 <;> cases a2 <;> cases b2 <;> simp [go_sem, Tryz.underlying33, Tryz.underlying3, Tryz.underlying4, Tryz.isAgg3, Tryz.isAgg4, hp, hc]
  cases hd : (a4 == b4)
  · cases a1 <;> cases b1 <;> cases a2 <;> cases b2 <;> simp [go_sem, Tryz.underlying33, Tryz.underlying3, Tryz.underlying4, Tryz.isAgg3, Tryz.isAgg4, hp, hc, hd]
  cases a1 <;> cases b1 <;> cases a2 <;> cases b2 <;> simp [go_sem, Tryz.underlying33, Tryz.underlying3, Tryz.underlying4, Tryz.isAgg3, Tryz.isAgg4, hp, hc, hd]
/-- How far the next ones have been reckoned. -/
structure KrI (gs : GL) (bd : Nat → Bool) (now nx : List Em) (k : Nat) (sm : Bool) : Prop where
  a : ∀ j, j < k → nx[j]? = (rdE gs kdR bd now)[j]?
  s : sm = true ↔ ∀ j, j < k → nx[j]? = now[j]?
theorem KrI.start (gs : GL) (bd : Nat → Bool) (now nx : List Em) : KrI gs bd now nx 0 true := ⟨fun j h => by omega, ⟨fun _ j h => by omega, fun _ => rfl⟩⟩
/-- What is laid next: x at the place k, the rest as it was. -/
def NxS (gs : GL) (bd : Nat → Bool) (now nx nx2 : List Em) (k : Nat) (x : Em) : Prop := nx2[k]? = some x ∧ (rdE gs kdR bd now)[k]? = some x ∧ ∀ j, j ≠ k → nx2[j]? = nx[j]?
theorem KrI.next {gs : GL} {bd : Nat → Bool} {now nx nx2 : List Em} {k : Nat} {sm : Bool} {x y : Em} (h : KrI gs bd now nx k sm) (hx : NxS gs bd now nx nx2 k x) (hy : now[k]? = some y) (hs : sm = true) : KrI gs bd now nx2 (k + 1) (eqB x y) := by
  obtain ⟨h1, h2, h3⟩ := hx
  refine ⟨fun j hj => ?_, ?_⟩
  · by_cases e : j = k
    · subst e; rw [h1, h2]
    · rw [h3 j e]; exact h.a j (by omega)
  · rw [eqB_iff]
    constructor
    · intro e j hj
      by_cases q : j = k
      · subst q; rw [h1, hy, e]
      · rw [h3 j q]; exact h.s.1 hs j (by omega)
    · intro q
      have := q k (Nat.lt_succ_self k)
      rw [h1, hy] at this
      exact Option.some.inj this
theorem KrI.nextF {gs : GL} {bd : Nat → Bool} {now nx nx2 : List Em} {k : Nat} {sm : Bool} {x : Em} (h : KrI gs bd now nx k sm) (hx : NxS gs bd now nx nx2 k x) (hs : sm = false) : KrI gs bd now nx2 (k + 1) false := by
  obtain ⟨h1, h2, h3⟩ := hx
  refine ⟨fun j hj => ?_, (fun e => by cases e), fun q => ?_⟩
  · by_cases e : j = k
    · subst e; rw [h1, h2]
    · rw [h3 j e]; exact h.a j (by omega)
  · have : sm = true := h.s.2 fun j hj => by rw [← h3 j (by omega)]; exact q j (by omega)
    rw [hs] at this
    cases this
theorem list_ext {l m : List Em} {n : Nat} (h1 : l.length = n) (h2 : m.length = n) (h : ∀ j, j < n → l[j]? = m[j]?) : l = m := by
  apply List.ext_getElem?
  intro j
  by_cases hj : j < n
  · exact h j hj
  · rw [List.getElem?_eq_none (by omega), List.getElem?_eq_none (by omega)]
set_option maxRecDepth 100000 in
set_option maxHeartbeats 64000000 in
/-- The document: what is known of all rules. -/
theorem known_any {gs : GL} (hR : RtG gs) (A : Option Addr) (c : Nat) (w : World) (hp : GI w A gs) :
    Calls Tryz.prog 19 #[.agg #[.slice A gs.length c]] w fun e w' => (∃ v now, e = .returned v ∧ KnD gs now ∧ now.length = gs.length ∧ w'.ownsRow w.heap.size 33 4 v gs.length (emc now)) ∧ Below w.heap.size w w' := by
  classical
  have hn := hR.n2
  obtain ⟨R, hI⟩ : ∃ R : Mx, IsR gs.length (cG gs) R := ⟨fun i j => decide (i < gs.length ∧ Rc gs.length (cG gs) i j), fun i j => cG_lt, fun i j hi hj => ⟨fun q => (of_decide_eq_true q).2, fun q => decide_eq_true ⟨hi, q⟩⟩⟩
  obtain ⟨bd, hbd⟩ : ∃ bd : Nat → Bool, bd = fun i => !(R i i) := ⟨_, rfl⟩
  obtain ⟨w1, hw1⟩ : ∃ w1, w1 = w.alloc (.cells #[.slice A gs.length c] 24) := ⟨_, rfl⟩
  have HE1 := (show Hid (w.alloc (.cells #[.slice A gs.length c] 24) = w1) from hw1.symm)
  have hs1 : w1.heap.size = w.heap.size + 1 := by rw [hw1, World.size_alloc]
  have hg1 : GX w1 w.heap.size (.slice A gs.length c) := by rw [hw1]; exact GX.mk (heap_alloc_new w _)
  have hb1 : Below w.heap.size w w1 := by rw [hw1]; exact below_box _ _
  have q1 := hg1.cl
  have HMk := (show Hid (∀ wr : World, w.heap.size + 1 ≤ wr.heap.size → ∃ w2, (Instr.makeSlice 26 (.int .i64 (gs.length : Int)) (.int .i64 (gs.length : Int))).run Tryz.prog wr = .ok (.slice (some ⟨wr.heap.size, 0, none⟩) gs.length gs.length) w2 ∧ w2.ownsRow (w.heap.size + 1) 33 4 (.slice (some ⟨wr.heap.size, 0, none⟩) gs.length gs.length) gs.length (emc (List.replicate gs.length e0)) ∧ wr.grownBy w2 none) from fun wr hwr => by
    obtain ⟨iE, hinf, hz0, hz1, hz2⟩ := info_parts Tryz.infoE
    obtain ⟨w2, hmk, ho2, hg2⟩ := run_make_full (P := Tryz.prog) wr (w.heap.size + 1) 26 33 iE zE 4 Tryz.underlying26 hinf hz0 hz1 .i64 .i64 gs.length (by rw [hz2]; omega) (by unfold maxLen; omega) hwr
    rw [made_em] at ho2
    exact ⟨w2, hmk, ho2, hg2⟩)
  obtain ⟨w2, hmk, ho2, hg2⟩ := HMk.out w1 (by omega)
  rw [hs1] at hmk ho2
  have hb12 : Below w1.heap.size w1 w2 := below_grown (Below.refl _ _) hg2 (fun k e => by cases e)
  have hs2 := hb12.size
  have q2 := (hg1.below hb12).cl
  obtain ⟨i0, hinf, hz0, hz1, hz2⟩ := info_split Tryz.info4
  obtain ⟨w3, hmk3, ho3, hg3⟩ := run_make_full (P := Tryz.prog) w2 (w.heap.size + 1) 71 4 i0 (.bool false) 1 Tryz.underlying71 hinf hz0 hz1 .i64 .i64 gs.length (by rw [hz2]; omega) (by unfold maxLen; omega) (by omega)
  have ho3' : w3.ownsRow (w.heap.size + 1) 4 1 (.slice (some ⟨w2.heap.size, 0, none⟩) gs.length gs.length) gs.length (List.replicate gs.length (.bool false)) := by
    have e : (madeCells (Value.cells (.bool false)) (gs.length * 1)).toList = List.replicate gs.length (Value.bool false) := by rw [Nat.mul_one]; exact toList_madeCells_one _ _
    rw [e] at ho3
    exact ho3
  have hb23 : Below w2.heap.size w2 w3 := below_grown (Below.refl _ _) hg3 (fun k e => by cases e)
  have HS := (show Hid (KdS w w3 (.slice A gs.length c) gs (w.heap.size + 1) w2.heap.size (List.replicate gs.length e0) (List.replicate gs.length false)) from by
    refine ⟨(hb1.trans (hb12.mono hb1.size)).trans (hb23.mono (Nat.le_trans hb1.size hs2)), (hg1.below hb12).below hb23, U.own_below ho2 hb23, by rw [List.map_replicate]; exact ho3', List.length_replicate, List.length_replicate⟩)
  have HP := (show Hid (GI w A gs) from hp)
  have HR := (show Hid (RtG gs) from hR)
  have HI := (show Hid (IsR gs.length (cG gs) R ∧ bd = fun i => !(R i i)) from ⟨hI, hbd⟩)
  clear hR hI hp hw1 hg1 hb1 hs1 hb12 hs2 hinf hz0 hz1 hz2 i0 ho3 ho3' hb23 ho2 hg2 hg3 hbd
  go_enter Tryz.func19, Tryz.ntmps19
  go_wp2_with (rw [HE1.out])
  clear hmk hmk3 HE1 q1 q2
  generalize w2.heap.size = gB at *
  go_loopw [5] (fun t wr => ∃ (k : Nat) (now : List Em) (bs : List Bool), k ≤ gs.length ∧ t = .int .i64 (k : Int) ∧ Hid (KdS w wr (.slice A gs.length c) gs (w.heap.size + 1) gB now bs) ∧ Hid (∀ j, j < k → now[j]? = some eB ∧ bs[j]? = some (bd j))) (fun t _ => gs.length - (intOf t).toNat)
  case atStart => exact ⟨0, _, _, by omega, by go_num, HS, fun j hj => by omega⟩
  case round =>
    obtain ⟨k, now, bs, hk, rfl, HW, HJ⟩ := hrel
    clear HS
    by_cases hlt : k < gs.length
    · obtain ⟨⟨xn, xc, xl, xm⟩, hnk⟩ : ∃ xk, now[k]? = some xk := ⟨_, List.getElem?_eq_getElem (by rw [HW.out.l]; exact hlt)⟩
      obtain ⟨bk, hbk⟩ : ∃ bk, bs[k]? = some bk := ⟨_, List.getElem?_eq_getElem (by rw [HW.out.lb]; exact hlt)⟩
      have HBk := (show Hid (bs[k]? = some bk) from hbk)
      obtain ⟨a0, a1, a2, a3⟩ := own_eb (xs := []) (by rw [List.append_nil]; exact HW.out.o) k _ hnk
      have f0 := HW.out.o.frozenAt (k * 4)
      have f1 := HW.out.o.frozenAt (k * 4 + 1)
      have f2 := HW.out.o.frozenAt (k * 4 + 2)
      have f3 := HW.out.o.frozenAt (k * 4 + 3)
      obtain ⟨w4, hw4⟩ : ∃ w4, w4 = (((wr.setCell ⟨w.heap.size + 1, k * 4, none⟩ (.bool false)).setCell ⟨w.heap.size + 1, k * 4 + 1, none⟩ (.bool false)).setCell ⟨w.heap.size + 1, k * 4 + 2, none⟩ (.int .i64 (-1))).setCell ⟨w.heap.size + 1, k * 4 + 3, none⟩ (.int .i64 (-1)) := ⟨_, rfl⟩
      have HE4 := (show Hid ((((wr.setCell ⟨w.heap.size + 1, k * 4, none⟩ (.bool false)).setCell ⟨w.heap.size + 1, k * 4 + 1, none⟩ (.bool false)).setCell ⟨w.heap.size + 1, k * 4 + 2, none⟩ (.int .i64 (-1))).setCell ⟨w.heap.size + 1, k * 4 + 3, none⟩ (.int .i64 (-1)) = w4) from hw4.symm)
      have HW4 := (show Hid (KdS w w4 (.slice A gs.length c) gs (w.heap.size + 1) gB (now.set k eB) bs) from by rw [hw4]; exact HW.out.rule hlt eB)
      have HLp := (show Hid (∀ _ : Unit, Calls Tryz.prog 33 #[.agg #[.slice A gs.length c], .int .i64 (k : Int)] w4 fun e w' => e = .returned (.bool (R k k)) ∧ Below w4.heap.size w4 w') from fun _ => loops_any HR.out HI.out.1 A c hlt w4 (HP.out.later HW4.out.b))
      obtain ⟨rb, hrb⟩ : ∃ rb, rb = R k k := ⟨_, rfl⟩
      rw [← hrb] at HLp
      have HRb := (show Hid (bd k = !rb) from by show bd k = _; rw [HI.out.2, hrb])
      have q4 := HW4.out.x.cl
      have HLk := (show Hid (k < now.length ∧ k < bs.length) from ⟨by rw [HW.out.l]; exact hlt, by rw [HW.out.lb]; exact hlt⟩)
      have z0 : (0 : Int) ≤ (k : Int) := by omega
      have z1 : (k : Int) < (gs.length : Int) := by omega
      clear hnk hrb hw4 hbk
      go_wp2_with (rw [HE4.out])
      refine (HLp.out ()).mono ?_
      rintro e w5 ⟨rfl, b5⟩
      have HW5 := (show Hid (KdS w w5 (.slice A gs.length c) gs (w.heap.size + 1) gB (now.set k eB) bs) from HW4.out.later b5)
      obtain ⟨gm, cm, em, _, _, xm5, fm⟩ := own_get HW5.out.m (j := k) (x := .bool bk) (by rw [List.getElem?_map, HBk.out]; rfl)
      have emg : gB = gm := by injection em with e1; injection e1 with e1; injection e1
      clear em
      subst emg
      have HW6 := (show Hid (KdS w (w5.setCell ⟨gB, k, none⟩ (.bool (!rb))) (.slice A gs.length c) gs (w.heap.size + 1) gB (now.set k eB) (bs.set k (!rb))) from HW5.out.bit k _)
      have HJ2 := (show Hid (∀ j, j < k + 1 → (now.set k eB)[j]? = some eB ∧ (bs.set k (!rb))[j]? = some (bd j)) from fun j hj => by
        by_cases e : j = k
        · subst e
          exact ⟨List.getElem?_set_self HLk.out.1, by rw [List.getElem?_set_self HLk.out.2, HRb.out]⟩
        · rw [List.getElem?_set_ne (Ne.symm e), List.getElem?_set_ne (Ne.symm e)]
          exact HJ.out j (by omega))
      clear HE4 HLp b5 HW HW4 HW5 HJ a0 a1 a2 a3 f0 f1 f2 f3 q4 HRb HLk HP HR HI HMk HBk
      go_wp2_with fail
      go_roundw
      case rel => exact ⟨k + 1, now.set k eB, bs.set k (!rb), by omega, by go_num, HW6, HJ2⟩
      case measure => simp [intOf]; omega
    · obtain rfl : k = gs.length := by omega
      have HBs := (show Hid (∀ j, j < gs.length → bs[j]? = some (bd j)) from fun j hj => (HJ.out j hj).2)
      have HS2 := (show Hid (KdS w wr (.slice A gs.length c) gs (w.heap.size + 1) gB (knE gs kdR bd 0) bs) from by
        have e : now = knE gs kdR bd 0 := list_ext HW.out.l List.length_replicate (fun j hj => by
          rw [(HJ.out j hj).1]
          show _ = (List.replicate gs.length eB)[j]?
          rw [List.getElem?_replicate, if_pos hj])
        rw [← e]
        exact HW.out)
      clear HW HJ
      go_wp2_with fail
      go_loopg [3] (wN (knE gs kdR bd 0)) (fun gk u wr => ∃ (m gN : Nat), u = .slice (some ⟨gN, 0, none⟩) gs.length gs.length ∧ Hid (wN (knE gs kdR bd m) = gk) ∧ Hid (KdS w wr (.slice A gs.length c) gs gN gB (knE gs kdR bd m) bs))
      case atStart => exact ⟨0, w.heap.size + 1, rfl, rfl, HS2⟩
      case round =>
        obtain ⟨m, gN, rfl, HM, HW⟩ := hrel
        clear HS2
        obtain ⟨now, hnow⟩ : ∃ now, now = knE gs kdR bd m := ⟨_, rfl⟩
        have HNow := (show Hid (now = knE gs kdR bd m) from hnow)
        rw [← hnow] at HW
        have HOk := (show Hid (OkN gs now) from by show OkN gs now; rw [hnow]; exact knE_ok (gk_R HR.out) bd m)
        obtain ⟨w7, hmk7, ho7, hg7⟩ := HMk.out wr HW.out.x.lt
        have hb7 : Below wr.heap.size wr w7 := below_grown (Below.refl _ _) hg7 (fun k e => by cases e)
        have HS7 := (show Hid (KeS w w7 (.slice A gs.length c) gs gN gB wr.heap.size now bs (List.replicate gs.length e0)) from ⟨HW.out.later hb7, ho7, fun e => by have := (HW.out.o.lt gN rfl).2; omega, List.length_replicate⟩)
        have HK7 := (show Hid (KrI gs bd now (List.replicate gs.length e0) 0 true) from KrI.start _ _ _ _)
        clear hnow ho7 hg7 hb7 HW
        go_wp2_with fail
        clear hmk7
        generalize wr.heap.size = gX at *
        go_loopw [7, 8] (fun s t wr => ∃ (sm : Bool) (k : Nat) (nx : List Em), k ≤ gs.length ∧ t = .int .i64 (k : Int) ∧ s = .bool sm ∧ Hid (KeS w wr (.slice A gs.length c) gs gN gB gX now bs nx) ∧ Hid (KrI gs bd now nx k sm)) (fun _ t _ => gs.length - (intOf t).toNat)
        case atStart => exact ⟨true, 0, _, by omega, by go_num, rfl, HS7, HK7⟩
        case round =>
          obtain ⟨sm, k, nx, hk, rfl, rfl, HW, HKr⟩ := hrel
          clear HS7 HK7
          by_cases hlt : k < gs.length
          · obtain ⟨g, hg⟩ : ∃ g, gs[k]? = some g := ⟨_, List.getElem?_eq_getElem hlt⟩
            have hm := List.mem_of_getElem? hg
            obtain ⟨b, o, A3, c3, rfl, lb, _, x1, r2⟩ := HP.out.d k g hg
            have x1' := (HW.out.k.b.cell (p := ⟨b, o + k * 2 + 1, none⟩) lb).trans x1
            have q1 := HW.out.k.x.cl
            have hpos := body_pos HR.out hm
            obtain ⟨j, hj⟩ : ∃ j, g.2.length = j + 1 := ⟨g.2.length - 1, by omega⟩
            obtain ⟨⟨en, ec, el, em⟩, hE⟩ : ∃ e, e = EE (lkE gs now) g.2 j := ⟨_, rfl⟩
            have HPd := (show Hid (∀ _ : Unit, Calls Tryz.prog 34 #[.agg #[.slice (some ⟨b, o, none⟩) gs.length c], .slice A3 g.2.length c3, .slice (some ⟨gN, 0, none⟩) gs.length gs.length] wr fun e w' => (∃ gP cP, e = .returned (.slice (some ⟨gP, 0, none⟩) g.2.length cP) ∧ EB w' gP (j * 4) ⟨en, ec, el, em⟩) ∧ Below wr.heap.size wr w') from fun _ => by
              have h := partsD_any (ptR_of HR.out HP.out HOk.out hm) HOk.out.n (some ⟨b, o, none⟩) A3 (some ⟨gN, 0, none⟩) c c3 gs.length wr (HP.out.later HW.out.k.b) (r2.below HW.out.k.b (Nat.le_refl _)) (own_rd HW.out.k.o HW.out.k.l)
              refine h.mono ?_
              rintro e w' ⟨⟨v, rfl, ho⟩, bb⟩
              obtain ⟨gP, cP, rfl, _, _⟩ := ho.form (by omega)
              refine ⟨⟨gP, cP, rfl, ?_⟩, bb⟩
              rw [hE]
              exact own_eb (xs := []) (by rw [List.append_nil]; exact ho) j _ (by rw [List.getElem?_map, List.getElem?_range (by omega)]; rfl))
            have hgl : g.2.length ≤ 140737488355328 := (HP.out.t g hm).2.1
            have hsub : (g.2.length : Int) - 1 = (j : Int) := by omega
            have z0 : (0 : Int) ≤ (k : Int) := by omega
            have z1 : (k : Int) < (gs.length : Int) := by omega
            have z2 : (0 : Int) ≤ (j : Int) := by omega
            have z3 : (j : Int) < (g.2.length : Int) := by omega
            have HRd := (show Hid ((rdE gs kdR bd now)[k]? = some (if bd k then ⟨en, ec, el, em⟩ else ⟨en, ec, el, -1⟩)) from by
              show _ = _
              rw [rdE_get hg, ← EE_la hpos, show g.2.length - 1 = j from by omega, ← hE])
            obtain ⟨xk, hxk⟩ : ∃ xk, now[k]? = some xk := ⟨_, List.getElem?_eq_getElem (by rw [HW.out.k.l]; exact hlt)⟩
            obtain ⟨xn, xc, xl, xm⟩ := xk
            have HXk := (show Hid (now[k]? = some (⟨xn, xc, xl, xm⟩ : Em) ∧ bs[k]? = some (bd k) ∧ k < nx.length) from ⟨hxk, HBs.out k hlt, by rw [HW.out.l]; exact hlt⟩)
            clear hg hm x1 r2 hpos hj hE lb hxk HP HR HOk HBs HMk
            go_wp2_with fail
            refine (HPd.out ()).mono ?_
            rintro e w4 ⟨⟨gP, cP, rfl, hEB⟩, b4⟩
            have HW4 := (show Hid (KeS w w4 (.slice (some ⟨b, o, none⟩) gs.length c) gs gN gB gX now bs nx) from HW.out.later b4)
            obtain ⟨p0, p1, p2, p3⟩ := hEB
            simp only at p0 p1 p2 p3
            obtain ⟨yk, hyk⟩ : ∃ yk, nx[k]? = some yk := ⟨_, List.getElem?_eq_getElem HXk.out.2.2⟩
            obtain ⟨a0, a1, a2, a3⟩ := own_eb (xs := []) (by rw [List.append_nil]; exact HW4.out.o) k _ hyk
            obtain ⟨yn, yc, yl, ym⟩ := yk
            simp only at a0 a1 a2 a3
            have f0 := HW4.out.o.frozenAt (k * 4)
            have f1 := HW4.out.o.frozenAt (k * 4 + 1)
            have f2 := HW4.out.o.frozenAt (k * 4 + 2)
            have f3 := HW4.out.o.frozenAt (k * 4 + 3)
            obtain ⟨w5, hw5⟩ : ∃ w5, w5 = (((w4.setCell ⟨gX, k * 4, none⟩ (.bool en)).setCell ⟨gX, k * 4 + 1, none⟩ (.bool ec)).setCell ⟨gX, k * 4 + 2, none⟩ (.int .i64 el)).setCell ⟨gX, k * 4 + 3, none⟩ (.int .i64 em) := ⟨_, rfl⟩
            have HE5 := (show Hid ((((w4.setCell ⟨gX, k * 4, none⟩ (.bool en)).setCell ⟨gX, k * 4 + 1, none⟩ (.bool ec)).setCell ⟨gX, k * 4 + 2, none⟩ (.int .i64 el)).setCell ⟨gX, k * 4 + 3, none⟩ (.int .i64 em) = w5) from hw5.symm)
            have HW5 := (show Hid (KeS w w5 (.slice (some ⟨b, o, none⟩) gs.length c) gs gN gB gX now bs (nx.set k ⟨en, ec, el, em⟩)) from by rw [hw5]; exact HW4.out.rule hlt ⟨en, ec, el, em⟩)
            have hN5 : (nx.set k ⟨en, ec, el, em⟩)[k]? = some ⟨en, ec, el, em⟩ := List.getElem?_set_self HXk.out.2.2
            have HN5 := hid_of hN5
            obtain ⟨gm, cm, em2, _, _, xm5, _⟩ := own_get HW5.out.k.m (j := k) (x := .bool (bd k)) (by rw [List.getElem?_map, HXk.out.2.1]; rfl)
            have emg : gB = gm := by injection em2 with e1; injection e1 with e1; injection e1
            clear em2
            subst emg
            have f5 := HW5.out.o.frozenAt (k * 4 + 3)
            have c5 := (own_eb (xs := []) (by rw [List.append_nil]; exact HW5.out.o) k _ hN5).c3
            simp only at c5
            generalize bd k = bk at *
            clear hw5 hyk hN5 HPd b4 HW HW4 q1 x1'
            cases bk with
            | true =>
              obtain ⟨nx2, hnx2⟩ : ∃ nx2, nx2 = nx.set k ⟨en, ec, el, em⟩ := ⟨_, rfl⟩
              have hX6 : NxS gs bd now nx nx2 k ⟨en, ec, el, em⟩ := ⟨by rw [hnx2]; exact HN5.out, HRd.out, fun j hj => by rw [hnx2]; exact List.getElem?_set_ne (Ne.symm hj)⟩
              rw [← hnx2] at HW5
              have HW6 := HW5
              clear HW5 hnx2 HN5 HRd f5 c5
              go_wp2_with (rw [HE5.out])
              clear HE5 a0 a1 a2 a3 f0 f1 f2 f3 p0 p1 p2 p3 xm5
              obtain ⟨w6, hw6⟩ : ∃ w6, w6 = w5 := ⟨_, rfl⟩
              rw [← hw6] at HW6 ⊢
              clear hw6
              have HK6 := (show Hid ((sm = true → KrI gs bd now nx2 (k + 1) (eqB ⟨en, ec, el, em⟩ ⟨xn, xc, xl, xm⟩)) ∧ (sm = false → KrI gs bd now nx2 (k + 1) false)) from ⟨fun q => HKr.out.next hX6 HXk.out.1 q, fun q => HKr.out.nextF hX6 q⟩)
              obtain ⟨a0, a1, a2, a3⟩ := own_eb (xs := []) (by rw [List.append_nil]; exact HW6.out.o) k ⟨en, ec, el, em⟩ hX6.1
              obtain ⟨d0, d1, d2, d3⟩ := own_eb (xs := []) (by rw [List.append_nil]; exact HW6.out.k.o) k ⟨xn, xc, xl, xm⟩ HXk.out.1
              simp only at a0 a1 a2 a3 d0 d1 d2 d3
              have heq := em_eql ⟨en, ec, el, em⟩ ⟨xn, xc, xl, xm⟩
              simp only [emG] at heq
              generalize eqB ⟨en, ec, el, em⟩ ⟨xn, xc, xl, xm⟩ = eb at *
              clear hX6
              cases sm with
              | true =>
                go_wp2_with fail
                go_big_quiet (fail)
                have HW7 := (show Hid (KeS w (w6.drewN nq) (.slice (some ⟨b, o, none⟩) gs.length c) gs gN gB gX now bs nx2) from HW6.out.later (below_dn _))
                have HK2 := (show Hid (KrI gs bd now nx2 (k + 1) eb) from HK6.out.1 (by trivial))
                generalize w6.drewN nq = w7 at *
                clear a0 a1 a2 a3 d0 d1 d2 d3 heq HW6 HK6 HKr
                go_wp2_with fail
                go_roundw
                case rel => exact ⟨eb, k + 1, nx2, by omega, by go_num, rfl, HW7, HK2⟩
                case measure => simp [intOf]; omega
              | false =>
                go_wp2_with fail
                go_big_quiet (fail)
                have HW7 := (show Hid (KeS w (w6.drewN nq) (.slice (some ⟨b, o, none⟩) gs.length c) gs gN gB gX now bs nx2) from HW6.out.later (below_dn _))
                have HK2 := (show Hid (KrI gs bd now nx2 (k + 1) false) from HK6.out.2 (by trivial))
                generalize w6.drewN nq = w7 at *
                clear a0 a1 a2 a3 d0 d1 d2 d3 heq HW6 HK6 HKr
                go_wp2_with fail
                go_roundw
                case rel => exact ⟨false, k + 1, nx2, by omega, by go_num, rfl, HW7, HK2⟩
                case measure => simp [intOf]; omega
            | false =>
              obtain ⟨w6, hw6⟩ : ∃ w6, w6 = w5.setCell ⟨gX, k * 4 + 3, none⟩ (.int .i64 (-1)) := ⟨_, rfl⟩
              have HE6 := (show Hid (w5.setCell ⟨gX, k * 4 + 3, none⟩ (.int .i64 (-1)) = w6) from hw6.symm)
              obtain ⟨nx2, hnx2⟩ : ∃ nx2, nx2 = (nx.set k ⟨en, ec, el, em⟩).set k ⟨en, ec, el, -1⟩ := ⟨_, rfl⟩
              have HW6 := (show Hid (KeS w w6 (.slice (some ⟨b, o, none⟩) gs.length c) gs gN gB gX now bs nx2) from by rw [hw6, hnx2]; exact HW5.out.cut HN5.out)
              have hX6 : NxS gs bd now nx nx2 k ⟨en, ec, el, -1⟩ := ⟨by rw [hnx2]; exact List.getElem?_set_self (by rw [List.length_set]; exact HXk.out.2.2), HRd.out, fun j hj => by rw [hnx2, List.getElem?_set_ne (Ne.symm hj), List.getElem?_set_ne (Ne.symm hj)]⟩
              clear HW5 hnx2 HN5 HRd hw6
              go_wp2_with (first | rw [HE5.out] | rw [HE6.out])
              clear HE5 HE6 a0 a1 a2 a3 f0 f1 f2 f3 p0 p1 p2 p3 xm5 f5 c5
              have HK6 := (show Hid ((sm = true → KrI gs bd now nx2 (k + 1) (eqB ⟨en, ec, el, -1⟩ ⟨xn, xc, xl, xm⟩)) ∧ (sm = false → KrI gs bd now nx2 (k + 1) false)) from ⟨fun q => HKr.out.next hX6 HXk.out.1 q, fun q => HKr.out.nextF hX6 q⟩)
              obtain ⟨a0, a1, a2, a3⟩ := own_eb (xs := []) (by rw [List.append_nil]; exact HW6.out.o) k ⟨en, ec, el, -1⟩ hX6.1
              obtain ⟨d0, d1, d2, d3⟩ := own_eb (xs := []) (by rw [List.append_nil]; exact HW6.out.k.o) k ⟨xn, xc, xl, xm⟩ HXk.out.1
              simp only at a0 a1 a2 a3 d0 d1 d2 d3
              have heq := em_eql ⟨en, ec, el, -1⟩ ⟨xn, xc, xl, xm⟩
              simp only [emG] at heq
              generalize eqB ⟨en, ec, el, -1⟩ ⟨xn, xc, xl, xm⟩ = eb at *
              clear hX6
              cases sm with
              | true =>
                go_wp2_with fail
                go_big_quiet (fail)
                have HW7 := (show Hid (KeS w (w6.drewN nq) (.slice (some ⟨b, o, none⟩) gs.length c) gs gN gB gX now bs nx2) from HW6.out.later (below_dn _))
                have HK2 := (show Hid (KrI gs bd now nx2 (k + 1) eb) from HK6.out.1 (by trivial))
                generalize w6.drewN nq = w7 at *
                clear a0 a1 a2 a3 d0 d1 d2 d3 heq HW6 HK6 HKr
                go_wp2_with fail
                go_roundw
                case rel => exact ⟨eb, k + 1, nx2, by omega, by go_num, rfl, HW7, HK2⟩
                case measure => simp [intOf]; omega
              | false =>
                go_wp2_with fail
                go_big_quiet (fail)
                have HW7 := (show Hid (KeS w (w6.drewN nq) (.slice (some ⟨b, o, none⟩) gs.length c) gs gN gB gX now bs nx2) from HW6.out.later (below_dn _))
                have HK2 := (show Hid (KrI gs bd now nx2 (k + 1) false) from HK6.out.2 (by trivial))
                generalize w6.drewN nq = w7 at *
                clear a0 a1 a2 a3 d0 d1 d2 d3 heq HW6 HK6 HKr
                go_wp2_with fail
                go_roundw
                case rel => exact ⟨false, k + 1, nx2, by omega, by go_num, rfl, HW7, HK2⟩
                case measure => simp [intOf]; omega
          · obtain rfl : k = gs.length := by omega
            have HRn := (show Hid (nx = rdE gs kdR bd now) from list_ext HW.out.l rdE_len HKr.out.a)
            have HSm := (show Hid (sm = true ↔ nx = now) from ⟨fun q => list_ext HW.out.l HW.out.k.l (HKr.out.s.1 q), fun q => HKr.out.s.2 fun j _ => by rw [q]⟩)
            cases sm with
            | true =>
              have HKd := (show Hid (KnD gs now) from ⟨R, bd, m, HI.out.1, fun i _ => by rw [HI.out.2], HNow.out, by
                show rdE gs kdR bd (knE gs kdR bd m) = _
                rw [← HNow.out, ← HRn.out]
                exact HSm.out.1 rfl⟩)
              have HO := (show Hid (wr.ownsRow w.heap.size 33 4 (.slice (some ⟨gN, 0, none⟩) gs.length gs.length) gs.length (emc now)) from T.own_base HW.out.k.o (Nat.le_succ _))
              have HB := (show Hid (Below w.heap.size w wr ∧ now.length = gs.length) from ⟨HW.out.k.b, HW.out.k.l⟩)
              clear HW HKr HRn HSm HNow HM HI HR HP HBs HOk HMk
              go_wp2_with fail
              go_ret
              exact ⟨⟨_, now, rfl, HKd.out, HB.out.2, HO.out⟩, HB.out.1⟩
            | false =>
              have HLs := (show Hid (wN (knE gs kdR bd (m + 1)) < wN (knE gs kdR bd m)) from knE_less (gk_R HR.out) bd m (fun e => by
                have h2 : nx = now := by
                  rw [HRn.out, HNow.out]
                  exact e.symm
                have := HSm.out.2 h2
                cases this))
              have HW2 := (show Hid (KdS w wr (.slice A gs.length c) gs gX gB (knE gs kdR bd (m + 1)) bs) from by
                have e : nx = knE gs kdR bd (m + 1) := by
                  rw [HRn.out, HNow.out]
                  rfl
                rw [← e]
                exact ⟨HW.out.k.b, HW.out.k.x, HW.out.o, HW.out.k.m, HW.out.l, HW.out.k.lb⟩)
              clear HW HKr HRn HSm HNow HOk
              go_wp2_with fail
              go_roundg (wN (knE gs kdR bd (m + 1)))
              case measure => have := HM.out; have := HLs.out; omega
              case rel => exact ⟨m + 1, gX, rfl, rfl, HW2⟩
end Go.Proofs.YtokfgoepnfjafaaGreat.N

namespace Go.Proofs.YtokfgoepnfjafaaGreat.N
open Go.RowKit Go.Maps
open Go.Proofs.YtokfgoepnfjafaaGreat.T
def RuD (gs : GL) (now : List Em) : Prop := ((ckG gs).2 = 0 → KnD gs now ∧ now.length = gs.length) ∧ ((ckG gs).2 ≠ 0 → now = [])
set_option maxRecDepth 100000 in
set_option maxHeartbeats 8000000 in
theorem rulesD_any (gs : GL) (A : Option Addr) (c : Nat) (w : World) (hp : GI w A gs) :
    Calls Tryz.prog 7 #[.agg #[.slice A gs.length c]] w fun e w' => (∃ v now, e = .returned (.tuple #[v, .int .i64 (ckG gs).2]) ∧ RuD gs now ∧ w'.ownsRow w.heap.size 33 4 v now.length (emc now)) ∧ Below w.heap.size w w' := by
  obtain ⟨w1, hw1⟩ : ∃ w1, w1 = w.alloc (.cells #[.slice A gs.length c] 24) := ⟨_, rfl⟩
  have HE1 := (show Hid (w.alloc (.cells #[.slice A gs.length c] 24) = w1) from hw1.symm)
  have HB1 := (show Hid (Below w.heap.size w w1) from by rw [hw1]; exact below_box _ _)
  have HG1 := (show Hid (GX w1 w.heap.size (.slice A gs.length c)) from by rw [hw1]; exact GX.mk (heap_alloc_new w _))
  have HP := (show Hid (GI w A gs) from hp)
  have HN := (show Hid (∀ _ : Unit, Calls Tryz.prog 18 #[.agg #[.slice A gs.length c]] w1 fun e w' => e = .returned (.tuple #[.agg #[.int .i64 (ckG gs).1.1, .int .i64 (ckG gs).1.2], .int .i64 (ckG gs).2]) ∧ Below w1.heap.size w1 w') from fun _ => checkD_any gs A c w1 (hp.later HB1.out))
  have q1 := HG1.out.cl
  clear hp hw1
  go_enter Tryz.func7, Tryz.ntmps7
  go_wp2_with (rw [HE1.out])
  refine (HN.out ()).mono ?_
  rintro e w3 ⟨rfl, b3⟩
  obtain ⟨w4, hw4⟩ : ∃ w4, w4 = w3.alloc (.cells #[.int .i64 ((ckG gs).1.1 : Int), .int .i64 ((ckG gs).1.2 : Int)] 52) := ⟨_, rfl⟩
  have HE4 := (show Hid (w3.alloc (.cells #[.int .i64 ((ckG gs).1.1 : Int), .int .i64 ((ckG gs).1.2 : Int)] 52) = w4) from hw4.symm)
  have HB := (show Hid (Below w.heap.size w w4) from by show Below _ _ _; rw [hw4]; exact (HB1.out.trans (b3.mono HB1.out.size)).alloc (HB1.out.trans (b3.mono HB1.out.size)).size _)
  have HG := (show Hid (GX w4 w.heap.size (.slice A gs.length c)) from by show GX _ _ _; rw [hw4]; exact (HG1.out.below b3).below (below_box _ _))
  have q4 := HG.out.cl
  clear HN b3 HB1 HG1 hw4 HE1 q1
  by_cases hz : (ckG gs).2 = 0
  · have tz : ((ckG gs).2 != 0) = false := by rw [hz]; rfl
    have HZ := (show Hid ((ckG gs).2 = 0) from hz)
    have HR := (show Hid (RtG gs) from ckG_ok.1 hz)
    clear hz
    generalize hcd : (ckG gs).2 = cd at tz ⊢
    have HCD := (show Hid ((ckG gs).2 = cd) from hcd)
    clear hcd
    have HK := (show Hid (∀ _ : Unit, Calls Tryz.prog 19 #[.agg #[.slice A gs.length c]] w4 fun e w' => (∃ v now, e = .returned v ∧ KnD gs now ∧ now.length = gs.length ∧ w'.ownsRow w4.heap.size 33 4 v gs.length (emc now)) ∧ Below w4.heap.size w4 w') from fun _ => known_any HR.out A c w4 (HP.out.later HB.out))
    clear HP HG HR
    go_wp2_with (rw [HE4.out])
    refine (HK.out ()).mono ?_
    rintro e w5 ⟨⟨v, now, rfl, hk, hl, ho⟩, b5⟩
    have HO := (show Hid (KnD gs now ∧ now.length = gs.length ∧ w5.ownsRow w4.heap.size 33 4 v gs.length (emc now) ∧ Below w4.heap.size w4 w5) from ⟨hk, hl, ho, b5⟩)
    clear hk hl ho b5 HE4 HK q4
    go_wp2_with fail
    refine bodyPost_ret (v := .tuple #[v, .int .i64 0]) (by simp [results, Tryz.results7, go_sem]) rfl ?_
    obtain ⟨hk, hl, ho, b5⟩ := HO.out
    exact ⟨⟨v, now, by rw [HZ.out], ⟨fun _ => ⟨hk, hl⟩, fun q => absurd HZ.out q⟩, by rw [hl]; exact T.own_base ho HB.out.size⟩, HB.out.trans (b5.mono HB.out.size)⟩
  · have tz : ((ckG gs).2 != 0) = true := by rw [bne, beq_eq_false_iff_ne.2 hz]; rfl
    have HZ := (show Hid ((ckG gs).2 ≠ 0) from hz)
    clear hz HP HG
    generalize hcd : (ckG gs).2 = cd at tz ⊢
    have HCD := (show Hid ((ckG gs).2 = cd) from hcd)
    clear hcd
    go_wp2_with (rw [HE4.out])
    refine bodyPost_ret (v := .tuple #[.slice none 0 0, .int .i64 cd]) (by simp [results, Tryz.results7, go_sem]) rfl ?_
    exact ⟨⟨_, [], by rw [HCD.out], ⟨fun q => absurd q HZ.out, fun _ => rfl⟩, World.ownsRow_nil _ _ _ _⟩, HB.out⟩
set_option maxRecDepth 100000 in
set_option maxHeartbeats 16000000 in
/-- What is known of each part of a right pattern whose names are all there. -/
theorem allD_any {gs : GL} (hR : RtG gs) {L : List Nd} (hrt : Rt L) (hsz : ∀ n ∈ L, n.tx.size ≤ 140737488355328) (hfd : ∀ n ∈ L, n.op = 6 → ∃ i, fdG gs n.tx = some i) (A Ap : Option Addr) (c cp : Nat) (w : World) (hp : GI w A gs) (hL : RdN w Ap L) :
    Calls Tryz.prog 21 #[.agg #[.slice A gs.length c], .slice Ap L.length cp] w fun e w' => (∃ v now, e = .returned v ∧ KnD gs now ∧ w'.ownsRow w.heap.size 33 4 v L.length (emc ((List.range L.length).map (EE (lkE gs now) L)))) ∧ Below w.heap.size w w' := by
  obtain ⟨w1, hw1⟩ : ∃ w1, w1 = w.alloc (.cells #[.slice A gs.length c] 24) := ⟨_, rfl⟩
  have HE1 := (show Hid (w.alloc (.cells #[.slice A gs.length c] 24) = w1) from hw1.symm)
  have HB1 := (show Hid (Below w.heap.size w w1) from by rw [hw1]; exact below_box _ _)
  have HG1 := (show Hid (GX w1 w.heap.size (.slice A gs.length c)) from by rw [hw1]; exact GX.mk (heap_alloc_new w _))
  have q1 := HG1.out.cl
  have HKe := (show Hid (∀ W, Below w1.heap.size w1 W → W.cell? ⟨w.heap.size, 0, none⟩ = some (.slice A gs.length c)) from fun W hW => (HG1.out.below hW).cl)
  have HK := (show Hid (∀ W, Below w1.heap.size w1 W → Calls Tryz.prog 19 #[.agg #[.slice A gs.length c]] W fun e w' => (∃ An cn now, e = .returned (.slice An gs.length cn) ∧ Hid (KnD gs now ∧ now.length = gs.length ∧ RdE w' An now)) ∧ Below w1.heap.size w1 w') from fun W hW => by
    refine (known_any hR A c W (hp.later (HB1.out.trans (hW.mono HB1.out.size)))).mono ?_
    rintro e w' ⟨⟨v, now, rfl, hk, hl, ho⟩, b⟩
    obtain ⟨An, cn, rfl⟩ := own_fm ho
    exact ⟨⟨An, cn, now, rfl, hk, hl, own_rd ho hl⟩, hW.trans (b.mono hW.size)⟩)
  have HPt := (show Hid (∀ (W : World) (An : Option Addr) (cn : Nat) (now : List Em), Below w1.heap.size w1 W → Hid (KnD gs now ∧ now.length = gs.length ∧ RdE W An now) → Calls Tryz.prog 34 #[.agg #[.slice A gs.length c], .slice Ap L.length cp, .slice An gs.length cn] W fun e w' => (∃ v, e = .returned v ∧ Hid (KnD gs now ∧ w'.ownsRow w.heap.size 33 4 v L.length (emc ((List.range L.length).map (EE (lkE gs now) L))))) ∧ Below w1.heap.size w1 w') from fun W An cn now hW hH => by
    obtain ⟨hk, hl, hr⟩ := hH.out
    have hb := HB1.out.trans (hW.mono HB1.out.size)
    refine (partsD_any (gs := gs) (now := now) (L := L) ⟨hrt, hsz, hfd, knD_ok hR hk⟩ hl A Ap An c cp cn W (hp.later hb) (hL.below hb (Nat.le_refl _)) hr).mono ?_
    rintro e w' ⟨⟨v, rfl, ho⟩, b⟩
    exact ⟨⟨v, rfl, hk, T.own_base ho hb.size⟩, hW.trans (b.mono hW.size)⟩)
  clear hp hw1 hR hrt hsz hfd hL
  go_enter Tryz.func21, Tryz.ntmps21
  go_wp2_with (rw [HE1.out])
  go_region_held3 (fun W => W.cell? ⟨w.heap.size, 0, none⟩ = some (.slice A gs.length c)) (first | go_keep | exact HKe.out _ bA | exact HKe.out _ bB) (first | (go_at_call 19; with_reducible refine (HK.out _ (Below.refl _ _).drew).mono ?_; rintro e wA ⟨⟨An, cn, now, rfl, hA⟩, bA⟩) | (go_at_call 34; with_reducible refine (HPt.out _ An cn now bA hA).mono ?_; rintro e wB ⟨⟨v, rfl, hB⟩, bB⟩))
  all_goals
    rename_i hHeld
    have HH := (show Hid _ from hB)
    have HBB := (show Hid (Below w1.heap.size w1 wB) from bB)
    clear hHeld hA bA bB HK HPt HKe hB q1
    go_wp2_with fail
    go_ret
    exact ⟨⟨_, now, rfl, HH.out.1, HH.out.2⟩, HB1.out.trans (HBB.out.mono HB1.out.size)⟩
def PaD (gs : GL) (r : Int) (l : List Em) (cd : Int) : Prop := ((ckG gs).2 ≠ 0 → cd = (ckG gs).2 ∧ l = []) ∧ ((ckG gs).2 = 0 → (r < 0 ∨ (gs.length : Int) ≤ r → cd = 1 ∧ l = []) ∧ ∀ (k : Nat) g, r = k → gs[k]? = some g → cd = 0 ∧ ∃ now, KnD gs now ∧ l = (List.range g.2.length).map (EE (lkE gs now) g.2))
set_option maxRecDepth 100000 in
set_option maxHeartbeats 8000000 in
theorem partsDoc_any (gs : GL) (A : Option Addr) (c : Nat) (r : Int) (w : World) (hp : GI w A gs) :
    Calls Tryz.prog 9 #[.agg #[.slice A gs.length c], .int .i64 r] w fun e w' => (∃ v l cd, e = .returned (.tuple #[v, .int .i64 cd]) ∧ PaD gs r l cd ∧ w'.ownsRow w.heap.size 33 4 v l.length (emc l)) ∧ Below w.heap.size w w' := by
  obtain ⟨w1, hw1⟩ : ∃ w1, w1 = w.alloc (.cells #[.slice A gs.length c] 24) := ⟨_, rfl⟩
  have HE1 := (show Hid (w.alloc (.cells #[.slice A gs.length c] 24) = w1) from hw1.symm)
  have HB1 := (show Hid (Below w.heap.size w w1) from by rw [hw1]; exact below_box _ _)
  have HG1 := (show Hid (GX w1 w.heap.size (.slice A gs.length c)) from by rw [hw1]; exact GX.mk (heap_alloc_new w _))
  have HP := (show Hid (GI w A gs) from hp)
  have HN := (show Hid (∀ _ : Unit, Calls Tryz.prog 18 #[.agg #[.slice A gs.length c]] w1 fun e w' => e = .returned (.tuple #[.agg #[.int .i64 (ckG gs).1.1, .int .i64 (ckG gs).1.2], .int .i64 (ckG gs).2]) ∧ Below w1.heap.size w1 w') from fun _ => checkD_any gs A c w1 (hp.later HB1.out))
  have q1 := HG1.out.cl
  clear hp hw1
  go_enter Tryz.func9, Tryz.ntmps9
  go_wp2_with (rw [HE1.out])
  refine (HN.out ()).mono ?_
  rintro e w3 ⟨rfl, b3⟩
  obtain ⟨w4, hw4⟩ : ∃ w4, w4 = w3.alloc (.cells #[.int .i64 ((ckG gs).1.1 : Int), .int .i64 ((ckG gs).1.2 : Int)] 52) := ⟨_, rfl⟩
  have HE4 := (show Hid (w3.alloc (.cells #[.int .i64 ((ckG gs).1.1 : Int), .int .i64 ((ckG gs).1.2 : Int)] 52) = w4) from hw4.symm)
  have HB := (show Hid (Below w.heap.size w w4) from by show Below _ _ _; rw [hw4]; exact (HB1.out.trans (b3.mono HB1.out.size)).alloc (HB1.out.trans (b3.mono HB1.out.size)).size _)
  have HG := (show Hid (GX w4 w.heap.size (.slice A gs.length c)) from by show GX _ _ _; rw [hw4]; exact (HG1.out.below b3).below (below_box _ _))
  have q4 := HG.out.cl
  clear HN b3 HB1 HG1 hw4 HE1 q1
  by_cases hz : (ckG gs).2 = 0
  · have tz : ((ckG gs).2 != 0) = false := by rw [hz]; rfl
    have HZ := (show Hid ((ckG gs).2 = 0) from hz)
    have HR := (show Hid (RtG gs) from ckG_ok.1 hz)
    clear hz
    generalize hcd : (ckG gs).2 = cd at tz ⊢
    have HCD := (show Hid ((ckG gs).2 = cd) from hcd)
    clear hcd
    by_cases h0 : r < 0
    · have HR0 := (show Hid (r < 0) from h0)
      have t0 : decide (r < 0) = true := decide_eq_true h0
      clear HP HR HG
      go_wp2_with (rw [HE4.out])
      refine bodyPost_ret (v := .tuple #[.slice none 0 0, .int .i64 1]) (by simp [results, Tryz.results9, go_sem]) rfl ?_
      exact ⟨⟨_, [], 1, rfl, ⟨fun q => absurd HZ.out q, fun _ => ⟨fun _ => ⟨rfl, rfl⟩, fun k g hk _ => by have := HR0.out; omega⟩⟩, World.ownsRow_nil _ _ _ _⟩, HB.out⟩
    · have t0 : decide (r < 0) = false := decide_eq_false h0
      by_cases h1 : (gs.length : Int) ≤ r
      · have HR1 := (show Hid ((gs.length : Int) ≤ r) from h1)
        have t1 : decide ((gs.length : Int) ≤ r) = true := decide_eq_true h1
        clear HP HR HG
        go_wp2_with (rw [HE4.out])
        refine bodyPost_ret (v := .tuple #[.slice none 0 0, .int .i64 1]) (by simp [results, Tryz.results9, go_sem]) rfl ?_
        exact ⟨⟨_, [], 1, rfl, ⟨fun q => absurd HZ.out q, fun _ => ⟨fun _ => ⟨rfl, rfl⟩, fun k g hk hg => by have := HR1.out; have := (List.getElem?_eq_some_iff.1 hg).1; omega⟩⟩, World.ownsRow_nil _ _ _ _⟩, HB.out⟩
      · have t1 : decide ((gs.length : Int) ≤ r) = false := decide_eq_false h1
        obtain ⟨k, rfl⟩ : ∃ k : Nat, r = k := ⟨r.toNat, by omega⟩
        have hk : k < gs.length := by omega
        obtain ⟨g, hg⟩ : ∃ g, gs[k]? = some g := ⟨_, List.getElem?_eq_getElem hk⟩
        have hm := List.mem_of_getElem? hg
        obtain ⟨b, o, A3, c3, rfl, lb, _, x1, r2⟩ := HP.out.d k g hg
        have x1' := (HB.out.cell (p := ⟨b, o + k * 2 + 1, none⟩) lb).trans x1
        have HKe := (show Hid (∀ W, Below w4.heap.size w4 W → W.cell? ⟨w.heap.size, 0, none⟩ = some (.slice (some ⟨b, o, none⟩) gs.length c) ∧ W.cell? ⟨b, o + k * 2 + 1, none⟩ = some (.slice A3 g.2.length c3)) from fun W hW => ⟨(HG.out.below hW).cl, (hW.cell (p := ⟨b, o + k * 2 + 1, none⟩) (Nat.lt_of_lt_of_le lb HB.out.size)).trans x1'⟩)
        have HAl := (show Hid (∀ W, Below w4.heap.size w4 W → Calls Tryz.prog 21 #[.agg #[.slice (some ⟨b, o, none⟩) gs.length c], .slice A3 g.2.length c3] W fun e w' => (∃ v now, e = .returned v ∧ Hid (KnD gs now ∧ w'.ownsRow w.heap.size 33 4 v g.2.length (emc ((List.range g.2.length).map (EE (lkE gs now) g.2))))) ∧ Below w4.heap.size w4 w') from fun W hW => by
          have hb := HB.out.trans (hW.mono HB.out.size)
          refine (allD_any HR.out (rt_of (HR.out.ck g hm)) (HP.out.t g hm).2.2 (fun n hn h6 => HR.out.dn.c g hm n hn h6) (some ⟨b, o, none⟩) A3 c c3 W (HP.out.later hb) (r2.below hb (Nat.le_refl _))).mono ?_
          rintro e w' ⟨⟨v, now, rfl, hk, ho⟩, b⟩
          exact ⟨⟨v, now, rfl, hk, T.own_base ho hb.size⟩, hW.trans (b.mono hW.size)⟩)
        have z0 : (0 : Int) ≤ (k : Int) := by omega
        have z1 : (k : Int) < (gs.length : Int) := by omega
        have HGk := (show Hid (gs[k]? = some g ∧ k < gs.length) from ⟨hg, hk⟩)
        clear hg hm lb x1 r2 HP HR HG h0 h1 hk
        go_wp2_with (rw [HE4.out])
        go_region_held3 (fun W => W.cell? ⟨w.heap.size, 0, none⟩ = some (.slice (some ⟨b, o, none⟩) gs.length c) ∧ W.cell? ⟨b, o + k * 2 + 1, none⟩ = some (.slice A3 g.2.length c3)) (first | go_keep | exact HKe.out _ bA) (first | (go_at_call 21; with_reducible refine (HAl.out _ (Below.refl _ _).drew).mono ?_; rintro e wA ⟨⟨v, now, rfl, hA⟩, bA⟩))
        all_goals
          rename_i hHeld
          have HH := (show Hid _ from hA)
          have HBB := (show Hid (Below w4.heap.size w4 wA) from bA)
          clear hHeld hA bA HAl HKe q4 x1'
          go_wp2_with fail
          refine bodyPost_ret (v := .tuple #[v, .int .i64 0]) (by simp [results, Tryz.results9, go_sem]) rfl ?_
          refine ⟨⟨v, _, 0, rfl, ⟨fun q => absurd HZ.out q, fun _ => ⟨fun q => by have := HGk.out.2; omega, fun k2 g2 e2 hg2 => ?_⟩⟩, by rw [List.length_map, List.length_range]; exact HH.out.2⟩, HB.out.trans (HBB.out.mono HB.out.size)⟩
          obtain rfl : k = k2 := by omega
          have hg := HGk.out.1
          rw [hg2] at hg
          cases hg
          exact ⟨rfl, now, HH.out.1, rfl⟩
  · have tz : ((ckG gs).2 != 0) = true := by rw [bne, beq_eq_false_iff_ne.2 hz]; rfl
    have HZ := (show Hid ((ckG gs).2 ≠ 0) from hz)
    clear hz HP HG
    generalize hcd : (ckG gs).2 = cd at tz ⊢
    have HCD := (show Hid ((ckG gs).2 = cd) from hcd)
    clear hcd
    go_wp2_with (rw [HE4.out])
    refine bodyPost_ret (v := .tuple #[.slice none 0 0, .int .i64 cd]) (by simp [results, Tryz.results9, go_sem]) rfl ?_
    exact ⟨⟨_, [], cd, rfl, ⟨fun _ => ⟨HCD.out.symm, rfl⟩, fun q => absurd q HZ.out⟩, World.ownsRow_nil _ _ _ _⟩, HB.out⟩
end Go.Proofs.YtokfgoepnfjafaaGreat.N

namespace Go.Proofs.YtokfgoepnfjafaaGreat.N
open Go.RowKit Go.Maps
open Go.Proofs.YtokfgoepnfjafaaGreat.T
def nA : Nd := ⟨4, 0, ⟨#[97]⟩, 0, 0, 0, 0⟩
def nCs : Nd := ⟨6, 0, ⟨#[115]⟩, 0, 0, 0, 0⟩
def nK (op n : Int) : Nd := ⟨op, n, ⟨#[]⟩, 0, 0, 0, 0⟩
def nAb : Nd := ⟨4, 0, ⟨#[97, 98]⟩, 0, 0, 0, 0⟩
def exS : List Nd := [nA, nCs, nK 7 0, nK 1 0, nK 8 0]
def exT : List Nd := [nAb, nK 14 2, nA, nK 11 0, nK 7 0]
def exG : GL := [(⟨#[115]⟩, exS), (⟨#[116]⟩, exT)]
theorem ex_ck : (ckG exG).2 = 0 := by kernel_rfl
def exB : Nat → Bool := fun i => i == 1
def exZ : List Em := [⟨true, false, 0, -1⟩, ⟨false, true, 4, 5⟩]
theorem ex_pg2 : pgE exG kdR exB 2 = exZ := by kernel_rfl
theorem ex_pg3 : pgE exG kdR exB 3 = exZ := by kernel_rfl
theorem pgS_bd {gs : GL} {bd bd2 : Nat → Bool} (h : ∀ i, i < gs.length → bd i = bd2 i) : pgS gs bd = pgS gs bd2 := by
  unfold pgS
  refine List.map_congr_left fun i hi => ?_
  rw [h i (List.mem_range.1 hi)]
theorem rdE_bd0 {gs : GL} {kd : List Nd → Nat → List Nat} {bd bd2 : Nat → Bool} (h : ∀ i, i < gs.length → bd i = bd2 i) (now : List Em) : rdE gs kd bd now = rdE gs kd bd2 now := by
  apply List.ext_getElem?
  intro i
  by_cases hi : i < gs.length
  · have hg : gs[i]? = some gs[i] := List.getElem?_eq_getElem hi
    rw [rdE_get hg, rdE_get hg, h i hi]
  · rw [List.getElem?_eq_none (by rw [rdE_len]; omega), List.getElem?_eq_none (by rw [rdE_len]; omega)]
theorem pgE_bd {gs : GL} {kd : List Nd → Nat → List Nat} {bd bd2 : Nat → Bool} (h : ∀ i, i < gs.length → bd i = bd2 i) : ∀ m, pgE gs kd bd m = pgE gs kd bd2 m := by
  intro m
  induction m with
  | zero => exact pgS_bd h
  | succ m ih =>
    show rdE gs kd bd (pgE gs kd bd m) = rdE gs kd bd2 (pgE gs kd bd2 m)
    rw [ih, rdE_bd0 h]
theorem ex_c00 : cG exG 0 0 = true := by kernel_rfl
theorem ex_c10 : cG exG 1 0 = false := by kernel_rfl
theorem ex_c11 : cG exG 1 1 = false := by kernel_rfl
theorem rc_some {n : Nat} {c : Mx} {x y : Nat} (h : Rc n c x y) : ∃ k, c x k = true :=
  Rc.least (d := fun i _ => ∃ k, c i k = true) (fun _i j hc => ⟨j, hc⟩) (fun _i _k _j _ h1 _ => h1) h
theorem ex_kn {now : List Em} (h : KnF exG now) : now = exZ := by
  obtain ⟨R, bd, m, hI, hbd, rfl, hf⟩ := h
  have l2 : exG.length = 2 := rfl
  have b0 : bd 0 = exB 0 := by
    rw [hbd 0, (hI.rl 0 0 (by rw [l2]; omega) (by rw [l2]; omega)).2 (Rc.of ex_c00)]
    rfl
  have b1 : bd 1 = exB 1 := by
    rw [hbd 1]
    cases e : R 1 1 with
    | false => rfl
    | true =>
      obtain ⟨k, hk⟩ := rc_some ((hI.rl 1 1 (by rw [l2]; omega) (by rw [l2]; omega)).1 e)
      have hlt := (cG_lt hk).2
      rw [l2] at hlt
      have : k = 0 ∨ k = 1 := by omega
      rcases this with rfl | rfl
      · rw [ex_c10] at hk; cases hk
      · rw [ex_c11] at hk; cases hk
  have hb : ∀ i, i < exG.length → bd i = exB i := fun i hi => by
    rw [l2] at hi
    have : i = 0 ∨ i = 1 := by omega
    rcases this with rfl | rfl
    · exact b0
    · exact b1
  have h1 := pg_fix hf 2
  have h2 := pg_fix (gs := exG) (kd := kdR) (bd := exB) (m := 2) (ex_pg3.trans ex_pg2.symm) m
  rw [pgE_bd hb, pgE_bd hb] at h1
  rw [pgE_bd hb, ← h1, show m + 2 = 2 + m from by omega, h2, ex_pg2]
/-- Nodes that were just laid are read. -/
theorem rd_lit (w : World) (L : List Nd) (cs : Array Value) (hn : L.length ≤ 100) (hc : cs.toList = ndc L) : RdN (w.alloc (.cells cs 62)) (some ⟨w.heap.size, 0, none⟩) L := fun _ => by
  have hs : cs.size = L.length * 7 := by rw [← Array.length_toList, hc, ndc_len]
  have ho : (w.alloc (.cells cs 62)).ownsRow w.heap.size 62 7 (.slice (some ⟨w.heap.size, 0, none⟩) L.length L.length) L.length (ndc L ++ []) := by
    rw [List.append_nil, ← hc]
    exact World.ownsRow_lit w cs L.length (Nat.le_refl _) (by unfold maxLen; omega) hs
  exact ⟨w.heap.size, 0, rfl, by rw [World.size_alloc]; omega, own_ndl ho⟩
set_option maxRecDepth 100000 in
theorem ex_gi (w : World) : GI ((((((w.alloc (.cells #[.int .i64 4, .int .i64 0, .string ⟨#[97]⟩, .int .u64 0, .int .u64 0, .int .u64 0, .int .u64 0] 62)).alloc (.cells #[.int .i64 4, .int .i64 0, .string ⟨#[97]⟩, .int .u64 0, .int .u64 0, .int .u64 0, .int .u64 0, .int .i64 6, .int .i64 0, .string ⟨#[115]⟩, .int .u64 0, .int .u64 0, .int .u64 0, .int .u64 0, .int .i64 7, .int .i64 0, .string ⟨#[]⟩, .int .u64 0, .int .u64 0, .int .u64 0, .int .u64 0, .int .i64 1, .int .i64 0, .string ⟨#[]⟩, .int .u64 0, .int .u64 0, .int .u64 0, .int .u64 0, .int .i64 8, .int .i64 0, .string ⟨#[]⟩, .int .u64 0, .int .u64 0, .int .u64 0, .int .u64 0] 62)).alloc (.cells #[.string ⟨#[115]⟩, .slice (some ⟨w.heap.size + 1, 0, none⟩) 5 5] 45)).alloc (.cells #[.int .i64 4, .int .i64 0, .string ⟨#[97, 98]⟩, .int .u64 0, .int .u64 0, .int .u64 0, .int .u64 0, .int .i64 14, .int .i64 2, .string ⟨#[]⟩, .int .u64 0, .int .u64 0, .int .u64 0, .int .u64 0, .int .i64 4, .int .i64 0, .string ⟨#[97]⟩, .int .u64 0, .int .u64 0, .int .u64 0, .int .u64 0, .int .i64 11, .int .i64 0, .string ⟨#[]⟩, .int .u64 0, .int .u64 0, .int .u64 0, .int .u64 0, .int .i64 7, .int .i64 0, .string ⟨#[]⟩, .int .u64 0, .int .u64 0, .int .u64 0, .int .u64 0] 62)).alloc (.cells #[.string ⟨#[116]⟩, .slice (some ⟨w.heap.size + 3, 0, none⟩) 5 5] 45)).alloc (.cells #[.string ⟨#[115]⟩, .slice (some ⟨w.heap.size + 1, 0, none⟩) 5 5, .string ⟨#[116]⟩, .slice (some ⟨w.heap.size + 3, 0, none⟩) 5 5] 45)) (some ⟨w.heap.size + 5, 0, none⟩) exG := by
  have s1 := World.size_alloc w (.cells #[.int .i64 4, .int .i64 0, .string ⟨#[97]⟩, .int .u64 0, .int .u64 0, .int .u64 0, .int .u64 0] 62)
  obtain ⟨w1, h1⟩ : ∃ w1, w1 = (w.alloc (.cells #[.int .i64 4, .int .i64 0, .string ⟨#[97]⟩, .int .u64 0, .int .u64 0, .int .u64 0, .int .u64 0] 62)) := ⟨_, rfl⟩
  rw [← h1] at s1 ⊢
  have r2 := rd_lit w1 exS #[.int .i64 4, .int .i64 0, .string ⟨#[97]⟩, .int .u64 0, .int .u64 0, .int .u64 0, .int .u64 0, .int .i64 6, .int .i64 0, .string ⟨#[115]⟩, .int .u64 0, .int .u64 0, .int .u64 0, .int .u64 0, .int .i64 7, .int .i64 0, .string ⟨#[]⟩, .int .u64 0, .int .u64 0, .int .u64 0, .int .u64 0, .int .i64 1, .int .i64 0, .string ⟨#[]⟩, .int .u64 0, .int .u64 0, .int .u64 0, .int .u64 0, .int .i64 8, .int .i64 0, .string ⟨#[]⟩, .int .u64 0, .int .u64 0, .int .u64 0, .int .u64 0] (by decide) rfl
  have s2 := World.size_alloc w1 (.cells #[.int .i64 4, .int .i64 0, .string ⟨#[97]⟩, .int .u64 0, .int .u64 0, .int .u64 0, .int .u64 0, .int .i64 6, .int .i64 0, .string ⟨#[115]⟩, .int .u64 0, .int .u64 0, .int .u64 0, .int .u64 0, .int .i64 7, .int .i64 0, .string ⟨#[]⟩, .int .u64 0, .int .u64 0, .int .u64 0, .int .u64 0, .int .i64 1, .int .i64 0, .string ⟨#[]⟩, .int .u64 0, .int .u64 0, .int .u64 0, .int .u64 0, .int .i64 8, .int .i64 0, .string ⟨#[]⟩, .int .u64 0, .int .u64 0, .int .u64 0, .int .u64 0] 62)
  obtain ⟨w2, h2⟩ : ∃ w2, w2 = w1.alloc (.cells #[.int .i64 4, .int .i64 0, .string ⟨#[97]⟩, .int .u64 0, .int .u64 0, .int .u64 0, .int .u64 0, .int .i64 6, .int .i64 0, .string ⟨#[115]⟩, .int .u64 0, .int .u64 0, .int .u64 0, .int .u64 0, .int .i64 7, .int .i64 0, .string ⟨#[]⟩, .int .u64 0, .int .u64 0, .int .u64 0, .int .u64 0, .int .i64 1, .int .i64 0, .string ⟨#[]⟩, .int .u64 0, .int .u64 0, .int .u64 0, .int .u64 0, .int .i64 8, .int .i64 0, .string ⟨#[]⟩, .int .u64 0, .int .u64 0, .int .u64 0, .int .u64 0] 62) := ⟨_, rfl⟩
  rw [← h2] at s2 r2 ⊢
  have s3 := World.size_alloc w2 (.cells #[.string ⟨#[115]⟩, .slice (some ⟨w.heap.size + 1, 0, none⟩) 5 5] 45)
  have b3 := below_box w2 (.cells #[.string ⟨#[115]⟩, .slice (some ⟨w.heap.size + 1, 0, none⟩) 5 5] 45)
  obtain ⟨w3, h3⟩ : ∃ w3, w3 = w2.alloc (.cells #[.string ⟨#[115]⟩, .slice (some ⟨w.heap.size + 1, 0, none⟩) 5 5] 45) := ⟨_, rfl⟩
  rw [← h3] at s3 b3 ⊢
  have r4 := rd_lit w3 exT #[.int .i64 4, .int .i64 0, .string ⟨#[97, 98]⟩, .int .u64 0, .int .u64 0, .int .u64 0, .int .u64 0, .int .i64 14, .int .i64 2, .string ⟨#[]⟩, .int .u64 0, .int .u64 0, .int .u64 0, .int .u64 0, .int .i64 4, .int .i64 0, .string ⟨#[97]⟩, .int .u64 0, .int .u64 0, .int .u64 0, .int .u64 0, .int .i64 11, .int .i64 0, .string ⟨#[]⟩, .int .u64 0, .int .u64 0, .int .u64 0, .int .u64 0, .int .i64 7, .int .i64 0, .string ⟨#[]⟩, .int .u64 0, .int .u64 0, .int .u64 0, .int .u64 0] (by decide) rfl
  have s4 := World.size_alloc w3 (.cells #[.int .i64 4, .int .i64 0, .string ⟨#[97, 98]⟩, .int .u64 0, .int .u64 0, .int .u64 0, .int .u64 0, .int .i64 14, .int .i64 2, .string ⟨#[]⟩, .int .u64 0, .int .u64 0, .int .u64 0, .int .u64 0, .int .i64 4, .int .i64 0, .string ⟨#[97]⟩, .int .u64 0, .int .u64 0, .int .u64 0, .int .u64 0, .int .i64 11, .int .i64 0, .string ⟨#[]⟩, .int .u64 0, .int .u64 0, .int .u64 0, .int .u64 0, .int .i64 7, .int .i64 0, .string ⟨#[]⟩, .int .u64 0, .int .u64 0, .int .u64 0, .int .u64 0] 62)
  have b4 := below_box w3 (.cells #[.int .i64 4, .int .i64 0, .string ⟨#[97, 98]⟩, .int .u64 0, .int .u64 0, .int .u64 0, .int .u64 0, .int .i64 14, .int .i64 2, .string ⟨#[]⟩, .int .u64 0, .int .u64 0, .int .u64 0, .int .u64 0, .int .i64 4, .int .i64 0, .string ⟨#[97]⟩, .int .u64 0, .int .u64 0, .int .u64 0, .int .u64 0, .int .i64 11, .int .i64 0, .string ⟨#[]⟩, .int .u64 0, .int .u64 0, .int .u64 0, .int .u64 0, .int .i64 7, .int .i64 0, .string ⟨#[]⟩, .int .u64 0, .int .u64 0, .int .u64 0, .int .u64 0] 62)
  obtain ⟨w4, h4⟩ : ∃ w4, w4 = w3.alloc (.cells #[.int .i64 4, .int .i64 0, .string ⟨#[97, 98]⟩, .int .u64 0, .int .u64 0, .int .u64 0, .int .u64 0, .int .i64 14, .int .i64 2, .string ⟨#[]⟩, .int .u64 0, .int .u64 0, .int .u64 0, .int .u64 0, .int .i64 4, .int .i64 0, .string ⟨#[97]⟩, .int .u64 0, .int .u64 0, .int .u64 0, .int .u64 0, .int .i64 11, .int .i64 0, .string ⟨#[]⟩, .int .u64 0, .int .u64 0, .int .u64 0, .int .u64 0, .int .i64 7, .int .i64 0, .string ⟨#[]⟩, .int .u64 0, .int .u64 0, .int .u64 0, .int .u64 0] 62) := ⟨_, rfl⟩
  rw [← h4] at s4 b4 r4 ⊢
  have s5 := World.size_alloc w4 (.cells #[.string ⟨#[116]⟩, .slice (some ⟨w.heap.size + 3, 0, none⟩) 5 5] 45)
  have b5 := below_box w4 (.cells #[.string ⟨#[116]⟩, .slice (some ⟨w.heap.size + 3, 0, none⟩) 5 5] 45)
  obtain ⟨w5, h5⟩ : ∃ w5, w5 = w4.alloc (.cells #[.string ⟨#[116]⟩, .slice (some ⟨w.heap.size + 3, 0, none⟩) 5 5] 45) := ⟨_, rfl⟩
  rw [← h5] at s5 b5 ⊢
  have hn := heap_alloc_new w5 (.cells #[.string ⟨#[115]⟩, .slice (some ⟨w.heap.size + 1, 0, none⟩) 5 5, .string ⟨#[116]⟩, .slice (some ⟨w.heap.size + 3, 0, none⟩) 5 5] 45)
  have s6 := World.size_alloc w5 (.cells #[.string ⟨#[115]⟩, .slice (some ⟨w.heap.size + 1, 0, none⟩) 5 5, .string ⟨#[116]⟩, .slice (some ⟨w.heap.size + 3, 0, none⟩) 5 5] 45)
  have b6 := below_box w5 (.cells #[.string ⟨#[115]⟩, .slice (some ⟨w.heap.size + 1, 0, none⟩) 5 5, .string ⟨#[116]⟩, .slice (some ⟨w.heap.size + 3, 0, none⟩) 5 5] 45)
  obtain ⟨w6, h6⟩ : ∃ w6, w6 = w5.alloc (.cells #[.string ⟨#[115]⟩, .slice (some ⟨w.heap.size + 1, 0, none⟩) 5 5, .string ⟨#[116]⟩, .slice (some ⟨w.heap.size + 3, 0, none⟩) 5 5] 45) := ⟨_, rfl⟩
  rw [← h6] at hn s6 b6 ⊢
  have e5 : w5.heap.size = w.heap.size + 5 := by omega
  rw [e5] at hn
  have key := fun j => cell_of_row w6 (w.heap.size + 5) j _ 45 (0, 0) hn
  have r2' : RdN w6 (some ⟨w.heap.size + 1, 0, none⟩) exS := by
    have h : RdN w6 (some ⟨w1.heap.size, 0, none⟩) exS := ((((r2.below b3 (Nat.le_refl _)).below b4 (Nat.le_refl _)).below b5 (Nat.le_refl _)).below b6 (Nat.le_refl _))
    rw [s1] at h; exact h
  have r4' : RdN w6 (some ⟨w.heap.size + 3, 0, none⟩) exT := by
    have h : RdN w6 (some ⟨w3.heap.size, 0, none⟩) exT := ((r4.below b5 (Nat.le_refl _)).below b6 (Nat.le_refl _))
    rw [show w3.heap.size = w.heap.size + 3 from by omega] at h; exact h
  refine ⟨fun k g hg => ?_, by show 2 ≤ _; omega, fun g hg => ?_⟩
  · match k, hg with
    | 0, hg =>
      cases hg
      exact ⟨_, 0, _, 5, rfl, by omega, key 0, key 1, r2'⟩
    | 1, hg =>
      cases hg
      exact ⟨_, 0, _, 5, rfl, by omega, key 2, key 3, r4'⟩
    | k + 2, hg => simp [exG] at hg
  · simp only [exG, List.mem_cons, List.not_mem_nil, or_false] at hg
    rcases hg with rfl | rfl
    · refine ⟨by show 1 ≤ _; omega, by show 5 ≤ _; omega, fun n hn => ?_⟩
      simp only [exS, List.mem_cons, List.not_mem_nil, or_false] at hn
      rcases hn with rfl | rfl | rfl | rfl | rfl
      all_goals first | (show 1 ≤ _; omega) | (show 0 ≤ _; omega)
    · refine ⟨by show 1 ≤ _; omega, by show 5 ≤ _; omega, fun n hn => ?_⟩
      simp only [exT, List.mem_cons, List.not_mem_nil, or_false] at hn
      rcases hn with rfl | rfl | rfl | rfl | rfl
      all_goals first | (show 2 ≤ _; omega) | (show 1 ≤ _; omega) | (show 0 ≤ _; omega)
set_option maxRecDepth 100000 in
set_option maxHeartbeats 4000000 in
theorem em_eqlO (a b : Em) (W : World) : (binOp .eql 33 (emG a) (emG b)).run Tryz.prog W = .ok (.bool (eqB a b)) W := by
  have hp : Tryz.prog.stoodInHeld 33 = false := by kernel_rfl
  obtain ⟨a1, a2, a3, a4⟩ := a
  obtain ⟨b1, b2, b3, b4⟩ := b
  unfold eqB
  cases hc : (a3 == b3)
  · cases a1 <;> cases b1 <;> cases a2 <;> cases b2 <;> simp [go_sem, Tryz.underlying33, Tryz.underlying3, Tryz.underlying4, Tryz.isAgg3, Tryz.isAgg4, hp, hc]
  cases hd : (a4 == b4)
  · cases a1 <;> cases b1 <;> cases a2 <;> cases b2 <;> simp [go_sem, Tryz.underlying33, Tryz.underlying3, Tryz.underlying4, Tryz.isAgg3, Tryz.isAgg4, hp, hc, hd]
  cases a1 <;> cases b1 <;> cases a2 <;> cases b2 <;> simp [go_sem, Tryz.underlying33, Tryz.underlying3, Tryz.underlying4, Tryz.isAgg3, Tryz.isAgg4, hp, hc, hd]
set_option maxRecDepth 100000 in
set_option maxHeartbeats 16000000 in
theorem works_any (w : World) : Calls Tryz.prog 12 #[] w fun e w' => e = .returned (.bool true) ∧ Below w.heap.size w w' := by
  have HB6 := (show Hid (Below w.heap.size w ((((((w.alloc (.cells #[.int .i64 4, .int .i64 0, .string ⟨#[97]⟩, .int .u64 0, .int .u64 0, .int .u64 0, .int .u64 0] 62)).alloc (.cells #[.int .i64 4, .int .i64 0, .string ⟨#[97]⟩, .int .u64 0, .int .u64 0, .int .u64 0, .int .u64 0, .int .i64 6, .int .i64 0, .string ⟨#[115]⟩, .int .u64 0, .int .u64 0, .int .u64 0, .int .u64 0, .int .i64 7, .int .i64 0, .string ⟨#[]⟩, .int .u64 0, .int .u64 0, .int .u64 0, .int .u64 0, .int .i64 1, .int .i64 0, .string ⟨#[]⟩, .int .u64 0, .int .u64 0, .int .u64 0, .int .u64 0, .int .i64 8, .int .i64 0, .string ⟨#[]⟩, .int .u64 0, .int .u64 0, .int .u64 0, .int .u64 0] 62)).alloc (.cells #[.string ⟨#[115]⟩, .slice (some ⟨w.heap.size + 1, 0, none⟩) 5 5] 45)).alloc (.cells #[.int .i64 4, .int .i64 0, .string ⟨#[97, 98]⟩, .int .u64 0, .int .u64 0, .int .u64 0, .int .u64 0, .int .i64 14, .int .i64 2, .string ⟨#[]⟩, .int .u64 0, .int .u64 0, .int .u64 0, .int .u64 0, .int .i64 4, .int .i64 0, .string ⟨#[97]⟩, .int .u64 0, .int .u64 0, .int .u64 0, .int .u64 0, .int .i64 11, .int .i64 0, .string ⟨#[]⟩, .int .u64 0, .int .u64 0, .int .u64 0, .int .u64 0, .int .i64 7, .int .i64 0, .string ⟨#[]⟩, .int .u64 0, .int .u64 0, .int .u64 0, .int .u64 0] 62)).alloc (.cells #[.string ⟨#[116]⟩, .slice (some ⟨w.heap.size + 3, 0, none⟩) 5 5] 45)).alloc (.cells #[.string ⟨#[115]⟩, .slice (some ⟨w.heap.size + 1, 0, none⟩) 5 5, .string ⟨#[116]⟩, .slice (some ⟨w.heap.size + 3, 0, none⟩) 5 5] 45))) from ((((((Below.refl _ _).alloc (Nat.le_refl _) _).alloc (by simp) _).alloc (by simp; omega) _).alloc (by simp; omega) _).alloc (by simp; omega) _).alloc (by simp; omega) _)
  have HR := (show Hid (∀ (W : World) (A : Option Addr) (c : Nat), GI W A exG → Calls Tryz.prog 6 #[.agg #[.slice A 2 c]] W fun e w' => (∃ g cap, e = .returned (.tuple #[.slice (some ⟨g, 0, none⟩) 2 cap, .int .i64 0]) ∧ Hid (EB w' g 0 ⟨true, false, 0, -1⟩ ∧ EB w' g 4 ⟨false, true, 4, 5⟩)) ∧ Below W.heap.size W w') from fun W A c hG => by
    have h := rulesP_any exG A c W hG
    rw [ex_ck] at h
    refine h.mono ?_
    rintro e w' ⟨⟨v, now, rfl, hr, ho⟩, b⟩
    obtain ⟨hk, _, _⟩ := hr.1 ex_ck
    have e2 := ex_kn hk
    subst e2
    obtain ⟨g, cap, rfl, _, _⟩ := ho.form (by show 0 < 2; omega)
    have hE := own_eb (l := exZ) (xs := []) (by rw [List.append_nil]; exact ho)
    exact ⟨⟨g, cap, rfl, hE 0 _ rfl, hE 1 _ rfl⟩, b⟩)
  have HG := (show Hid (GI ((((((w.alloc (.cells #[.int .i64 4, .int .i64 0, .string ⟨#[97]⟩, .int .u64 0, .int .u64 0, .int .u64 0, .int .u64 0] 62)).alloc (.cells #[.int .i64 4, .int .i64 0, .string ⟨#[97]⟩, .int .u64 0, .int .u64 0, .int .u64 0, .int .u64 0, .int .i64 6, .int .i64 0, .string ⟨#[115]⟩, .int .u64 0, .int .u64 0, .int .u64 0, .int .u64 0, .int .i64 7, .int .i64 0, .string ⟨#[]⟩, .int .u64 0, .int .u64 0, .int .u64 0, .int .u64 0, .int .i64 1, .int .i64 0, .string ⟨#[]⟩, .int .u64 0, .int .u64 0, .int .u64 0, .int .u64 0, .int .i64 8, .int .i64 0, .string ⟨#[]⟩, .int .u64 0, .int .u64 0, .int .u64 0, .int .u64 0] 62)).alloc (.cells #[.string ⟨#[115]⟩, .slice (some ⟨w.heap.size + 1, 0, none⟩) 5 5] 45)).alloc (.cells #[.int .i64 4, .int .i64 0, .string ⟨#[97, 98]⟩, .int .u64 0, .int .u64 0, .int .u64 0, .int .u64 0, .int .i64 14, .int .i64 2, .string ⟨#[]⟩, .int .u64 0, .int .u64 0, .int .u64 0, .int .u64 0, .int .i64 4, .int .i64 0, .string ⟨#[97]⟩, .int .u64 0, .int .u64 0, .int .u64 0, .int .u64 0, .int .i64 11, .int .i64 0, .string ⟨#[]⟩, .int .u64 0, .int .u64 0, .int .u64 0, .int .u64 0, .int .i64 7, .int .i64 0, .string ⟨#[]⟩, .int .u64 0, .int .u64 0, .int .u64 0, .int .u64 0] 62)).alloc (.cells #[.string ⟨#[116]⟩, .slice (some ⟨w.heap.size + 3, 0, none⟩) 5 5] 45)).alloc (.cells #[.string ⟨#[115]⟩, .slice (some ⟨w.heap.size + 1, 0, none⟩) 5 5, .string ⟨#[116]⟩, .slice (some ⟨w.heap.size + 3, 0, none⟩) 5 5] 45)) (some ⟨w.heap.size + 5, 0, none⟩) exG) from ex_gi w)
  go_enter Tryz.func12, Tryz.ntmps12
  go_wp2_with fail
  refine (HR.out _ _ _ HG.out).mono ?_
  rintro e w7 ⟨⟨g, cap, rfl, hE⟩, b7⟩
  obtain ⟨a0, a1, a2, a3⟩ := hE.out.1
  obtain ⟨d0, d1, d2, d3⟩ := hE.out.2
  have a1 : w7.cell? ⟨g, 1, none⟩ = some (.bool false) := a1
  have a2 : w7.cell? ⟨g, 2, none⟩ = some (.int .i64 0) := a2
  have a3 : w7.cell? ⟨g, 3, none⟩ = some (.int .i64 (-1)) := a3
  have d1 : w7.cell? ⟨g, 5, none⟩ = some (.bool true) := d1
  have d2 : w7.cell? ⟨g, 6, none⟩ = some (.int .i64 4) := d2
  have d3 : w7.cell? ⟨g, 7, none⟩ = some (.int .i64 5) := d3
  have h1 := em_eqlO ⟨true, false, 0, -1⟩ ⟨true, false, 0, -1⟩
  have h2 := em_eqlO ⟨false, true, 4, 5⟩ ⟨false, true, 4, 5⟩
  rw [eqB_iff.2 rfl] at h1 h2
  simp only [emG] at h1 h2
  simp only at a0 d0
  have HB7 := (show Hid (Below w.heap.size w w7) from HB6.out.trans (b7.mono HB6.out.size))
  clear HB6 b7 hE HR HG
  go_wp2_with fail
  go_ret
  exact ⟨rfl, HB7.out⟩
end Go.Proofs.YtokfgoepnfjafaaGreat.N

namespace Go.Proofs.YtokfgoepnfjafaaGreat.N
open Go.RowKit
open Go.Proofs.YtokfgoepnfjafaaGreat.T (RdN below_drewN below_box node_neq ndE)
set_option maxRecDepth 100000 in
set_option maxHeartbeats 8000000 in
theorem sameq (A1 A2 : Option Addr) (c1 c2 : Nat) (L : List Nd) (hl : L.length ≤ 140737488355328) (w : World) (h1 : RdN w A1 L) (h2 : RdN w A2 L) :
    Calls Tryz.prog 26 #[.slice A1 L.length c1, .slice A2 L.length c2] w fun e w' => e = .returned (.bool true) ∧ ∃ m, w' = w.drewN m := by
  have H1 := (show Hid _ from h1)
  have H2 := (show Hid _ from h2)
  have HG := (show Hid (∀ k, k < L.length → ∃ m, L[k]? = some m ∧ L ≠ []) from fun k hk => ⟨_, List.getElem?_eq_getElem hk, by rintro rfl; simp at hk⟩)
  clear h1 h2
  go_enter Tryz.func26, Tryz.ntmps26
  go_wp2_with fail
  go_loopw [5] (fun t wr => ∃ k : Nat, k ≤ L.length ∧ t = .int .i64 k ∧ Hid (∃ m, wr = w.drewN m)) (fun t _ => L.length - (intOf t).toNat)
  case atStart => exact ⟨0, by omega, by go_num, ⟨0, rfl⟩⟩
  case round =>
    obtain ⟨k, hk, rfl, HW⟩ := hrel
    by_cases hlt : k < L.length
    · obtain ⟨n, hn1, nl⟩ := HG.out k hlt
      have hB : Below w.heap.size w wr := by obtain ⟨m, rfl⟩ := HW.out; exact below_drewN (Below.refl _ _) _
      obtain ⟨g1, o1, rfl, l1, q1⟩ := H1.out nl
      obtain ⟨g2, o2, rfl, l2, q2⟩ := H2.out nl
      obtain ⟨a0, a1, a2, a3, a4, a5, a6⟩ := (q1.same (hB.block g1 l1)) k n hn1
      obtain ⟨d0, d1, d2, d3, d4, d5, d6⟩ := (q2.same (hB.block g2 l2)) k n hn1
      have z0 : (0 : Int) ≤ (k : Int) := by omega
      have z1 : (k : Int) < (L.length : Int) := by omega
      clear HG H1 H2 q1 q2 nl hn1 hB
      have hneq := node_neq n n
      rw [T.ndE_refl] at hneq
      go_wp2_with fail
      go_quiet (fail)
      have HW2 := (show Hid (∃ m, wr.drewN nq = w.drewN m) from by obtain ⟨m, e⟩ := HW.out; exact ⟨m + nq, by rw [e, World.drewN_drewN]⟩)
      generalize wr.drewN nq = w2 at *
      clear hneq a0 a1 a2 a3 a4 a5 a6 d0 d1 d2 d3 d4 d5 d6 HW
      go_wp2_with fail
      go_roundw
      case rel => exact ⟨k + 1, by omega, by go_num, HW2⟩
      case measure => simp [intOf]; omega
    · obtain rfl : k = L.length := by omega
      clear HG H1 H2
      go_wp2_with fail
      go_ret
      exact ⟨rfl, HW.out⟩
end Go.Proofs.YtokfgoepnfjafaaGreat.N
