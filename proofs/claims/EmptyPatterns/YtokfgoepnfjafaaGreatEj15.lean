/- DERIVED. Plain mathematics and walks, laid together (15). -/
import Derived.BigQuiet
import Derived.Deep.LoopGhost
import Derived.Deep.RegionHeld3
import Derived.Deep.RegionLaw
import Derived.Test.YtokfgoepnfjafaaGreatEj14
namespace Go.Proofs.YtokfgoepnfjafaaGreat.N
open Go.RowKit Go.Maps
open Go.Proofs.YtokfgoepnfjafaaGreat.T

open U (own_get own_slice below_grown info_split)
set_option maxRecDepth 100000 in
set_option maxHeartbeats 4000000 in
theorem em_eql (a b : Em) (W : World) : (binOp .eql 33 (emG a) (emG b)).run Tryz.prog W = .ok (.bool (eqB a b)) W := by
  have hp : Tryz.prog.stoodInHeld 33 = false := by kernel_rfl
  obtain ⟨a1, a2, a3, a4⟩ := a
  obtain ⟨b1, b2, b3, b4⟩ := b
  unfold eqB
  cases hc : (a3 == b3)
  · cases a1 <;> cases b1 <;> cases a2 <;> cases b2 <;> simp [go_sem, Tryz.underlying33, Tryz.underlying3, Tryz.underlying4, Tryz.isAgg3, Tryz.isAgg4, hp, hc]
  cases hd : (a4 == b4)
  · cases a1 <;> cases b1 <;> cases a2 <;> cases b2 <;> simp [go_sem, Tryz.underlying33, Tryz.underlying3, Tryz.underlying4, Tryz.isAgg3, Tryz.isAgg4, hp, hc, hd]
  cases a1 <;> cases b1 <;> cases a2 <;> cases b2 <;> simp [go_sem, Tryz.underlying33, Tryz.underlying3, Tryz.underlying4, Tryz.isAgg3, Tryz.isAgg4, hp, hc, hd]
/-- How far the next ones have been reckoned. -/
structure KrI (gs : GL) (bd : Nat → Bool) (now nx : List Em) (k : Nat) (sm : Bool) : Prop where
  a : ∀ j, j < k → nx[j]? = (rdE gs kdR bd now)[j]?
  s : sm = true ↔ ∀ j, j < k → nx[j]? = now[j]?
theorem KrI.start (gs : GL) (bd : Nat → Bool) (now nx : List Em) : KrI gs bd now nx 0 true := ⟨fun j h => by omega, ⟨fun _ j h => by omega, fun _ => rfl⟩⟩
/-- What is laid next: x at the place k, the rest as it was. -/
def NxS (gs : GL) (bd : Nat → Bool) (now nx nx2 : List Em) (k : Nat) (x : Em) : Prop := nx2[k]? = some x ∧ (rdE gs kdR bd now)[k]? = some x ∧ ∀ j, j ≠ k → nx2[j]? = nx[j]?
theorem KrI.next {gs : GL} {bd : Nat → Bool} {now nx nx2 : List Em} {k : Nat} {sm : Bool} {x y : Em} (h : KrI gs bd now nx k sm) (hx : NxS gs bd now nx nx2 k x) (hy : now[k]? = some y) (hs : sm = true) : KrI gs bd now nx2 (k + 1) (eqB x y) := by
  obtain ⟨h1, h2, h3⟩ := hx
  refine ⟨fun j hj => ?_, ?_⟩
  · by_cases e : j = k
    · subst e; rw [h1, h2]
    · rw [h3 j e]; exact h.a j (by omega)
  · rw [eqB_iff]
    constructor
    · intro e j hj
      by_cases q : j = k
      · subst q; rw [h1, hy, e]
      · rw [h3 j q]; exact h.s.1 hs j (by omega)
    · intro q
      have := q k (Nat.lt_succ_self k)
      rw [h1, hy] at this
      exact Option.some.inj this
theorem KrI.nextF {gs : GL} {bd : Nat → Bool} {now nx nx2 : List Em} {k : Nat} {sm : Bool} {x : Em} (h : KrI gs bd now nx k sm) (hx : NxS gs bd now nx nx2 k x) (hs : sm = false) : KrI gs bd now nx2 (k + 1) false := by
  obtain ⟨h1, h2, h3⟩ := hx
  refine ⟨fun j hj => ?_, (fun e => by cases e), fun q => ?_⟩
  · by_cases e : j = k
    · subst e; rw [h1, h2]
    · rw [h3 j e]; exact h.a j (by omega)
  · have : sm = true := h.s.2 fun j hj => by rw [← h3 j (by omega)]; exact q j (by omega)
    rw [hs] at this
    cases this
theorem list_ext {l m : List Em} {n : Nat} (h1 : l.length = n) (h2 : m.length = n) (h : ∀ j, j < n → l[j]? = m[j]?) : l = m := by
  apply List.ext_getElem?
  intro j
  by_cases hj : j < n
  · exact h j hj
  · rw [List.getElem?_eq_none (by omega), List.getElem?_eq_none (by omega)]
set_option maxRecDepth 100000 in
set_option maxHeartbeats 64000000 in
/-- The document: what is known of all rules. -/
theorem known_any {gs : GL} (hR : RtG gs) (A : Option Addr) (c : Nat) (w : World) (hp : GI w A gs) :
    Calls Tryz.prog 19 #[.agg #[.slice A gs.length c]] w fun e w' => (∃ v now, e = .returned v ∧ KnD gs now ∧ now.length = gs.length ∧ w'.ownsRow w.heap.size 33 4 v gs.length (emc now)) ∧ Below w.heap.size w w' := by
  classical
  have hn := hR.n2
  obtain ⟨R, hI⟩ : ∃ R : Mx, IsR gs.length (cG gs) R := ⟨fun i j => decide (i < gs.length ∧ Rc gs.length (cG gs) i j), fun i j => cG_lt, fun i j hi hj => ⟨fun q => (of_decide_eq_true q).2, fun q => decide_eq_true ⟨hi, q⟩⟩⟩
  obtain ⟨bd, hbd⟩ : ∃ bd : Nat → Bool, bd = fun i => !(R i i) := ⟨_, rfl⟩
  obtain ⟨w1, hw1⟩ : ∃ w1, w1 = w.alloc (.cells #[.slice A gs.length c] 24) := ⟨_, rfl⟩
  have HE1 := (show Hid (w.alloc (.cells #[.slice A gs.length c] 24) = w1) from hw1.symm)
  have hs1 : w1.heap.size = w.heap.size + 1 := by rw [hw1, World.size_alloc]
  have hg1 : GX w1 w.heap.size (.slice A gs.length c) := by rw [hw1]; exact GX.mk (heap_alloc_new w _)
  have hb1 : Below w.heap.size w w1 := by rw [hw1]; exact below_box _ _
  have q1 := hg1.cl
  have HMk := (show Hid (∀ wr : World, w.heap.size + 1 ≤ wr.heap.size → ∃ w2, (Instr.makeSlice 26 (.int .i64 (gs.length : Int)) (.int .i64 (gs.length : Int))).run Tryz.prog wr = .ok (.slice (some ⟨wr.heap.size, 0, none⟩) gs.length gs.length) w2 ∧ w2.ownsRow (w.heap.size + 1) 33 4 (.slice (some ⟨wr.heap.size, 0, none⟩) gs.length gs.length) gs.length (emc (List.replicate gs.length e0)) ∧ wr.grownBy w2 none) from fun wr hwr => by
    obtain ⟨iE, hinf, hz0, hz1, hz2⟩ := info_parts Tryz.infoE
    obtain ⟨w2, hmk, ho2, hg2⟩ := run_make_full (P := Tryz.prog) wr (w.heap.size + 1) 26 33 iE zE 4 Tryz.underlying26 hinf hz0 hz1 .i64 .i64 gs.length (by rw [hz2]; omega) (by unfold maxLen; omega) hwr
    rw [made_em] at ho2
    exact ⟨w2, hmk, ho2, hg2⟩)
  obtain ⟨w2, hmk, ho2, hg2⟩ := HMk.out w1 (by omega)
  rw [hs1] at hmk ho2
  have hb12 : Below w1.heap.size w1 w2 := below_grown (Below.refl _ _) hg2 (fun k e => by cases e)
  have hs2 := hb12.size
  have q2 := (hg1.below hb12).cl
  obtain ⟨i0, hinf, hz0, hz1, hz2⟩ := info_split Tryz.info4
  obtain ⟨w3, hmk3, ho3, hg3⟩ := run_make_full (P := Tryz.prog) w2 (w.heap.size + 1) 71 4 i0 (.bool false) 1 Tryz.underlying71 hinf hz0 hz1 .i64 .i64 gs.length (by rw [hz2]; omega) (by unfold maxLen; omega) (by omega)
  have ho3' : w3.ownsRow (w.heap.size + 1) 4 1 (.slice (some ⟨w2.heap.size, 0, none⟩) gs.length gs.length) gs.length (List.replicate gs.length (.bool false)) := by
    have e : (madeCells (Value.cells (.bool false)) (gs.length * 1)).toList = List.replicate gs.length (Value.bool false) := by rw [Nat.mul_one]; exact toList_madeCells_one _ _
    rw [e] at ho3
    exact ho3
  have hb23 : Below w2.heap.size w2 w3 := below_grown (Below.refl _ _) hg3 (fun k e => by cases e)
  have HS := (show Hid (KdS w w3 (.slice A gs.length c) gs (w.heap.size + 1) w2.heap.size (List.replicate gs.length e0) (List.replicate gs.length false)) from by
    refine ⟨(hb1.trans (hb12.mono hb1.size)).trans (hb23.mono (Nat.le_trans hb1.size hs2)), (hg1.below hb12).below hb23, U.own_below ho2 hb23, by rw [List.map_replicate]; exact ho3', List.length_replicate, List.length_replicate⟩)
  have HP := (show Hid (GI w A gs) from hp)
  have HR := (show Hid (RtG gs) from hR)
  have HI := (show Hid (IsR gs.length (cG gs) R ∧ bd = fun i => !(R i i)) from ⟨hI, hbd⟩)
  clear hR hI hp hw1 hg1 hb1 hs1 hb12 hs2 hinf hz0 hz1 hz2 i0 ho3 ho3' hb23 ho2 hg2 hg3 hbd
  go_enter Tryz.func19, Tryz.ntmps19
  go_wp2_with (rw [HE1.out])
  clear hmk hmk3 HE1 q1 q2
  generalize w2.heap.size = gB at *
  go_loopw [5] (fun t wr => ∃ (k : Nat) (now : List Em) (bs : List Bool), k ≤ gs.length ∧ t = .int .i64 (k : Int) ∧ Hid (KdS w wr (.slice A gs.length c) gs (w.heap.size + 1) gB now bs) ∧ Hid (∀ j, j < k → now[j]? = some eB ∧ bs[j]? = some (bd j))) (fun t _ => gs.length - (intOf t).toNat)
  case atStart => exact ⟨0, _, _, by omega, by go_num, HS, fun j hj => by omega⟩
  case round =>
    obtain ⟨k, now, bs, hk, rfl, HW, HJ⟩ := hrel
    clear HS
    by_cases hlt : k < gs.length
    · obtain ⟨⟨xn, xc, xl, xm⟩, hnk⟩ : ∃ xk, now[k]? = some xk := ⟨_, List.getElem?_eq_getElem (by rw [HW.out.l]; exact hlt)⟩
      obtain ⟨bk, hbk⟩ : ∃ bk, bs[k]? = some bk := ⟨_, List.getElem?_eq_getElem (by rw [HW.out.lb]; exact hlt)⟩
      have HBk := (show Hid (bs[k]? = some bk) from hbk)
      obtain ⟨a0, a1, a2, a3⟩ := own_eb (xs := []) (by rw [List.append_nil]; exact HW.out.o) k _ hnk
      have f0 := HW.out.o.frozenAt (k * 4)
      have f1 := HW.out.o.frozenAt (k * 4 + 1)
      have f2 := HW.out.o.frozenAt (k * 4 + 2)
      have f3 := HW.out.o.frozenAt (k * 4 + 3)
      obtain ⟨w4, hw4⟩ : ∃ w4, w4 = (((wr.setCell ⟨w.heap.size + 1, k * 4, none⟩ (.bool false)).setCell ⟨w.heap.size + 1, k * 4 + 1, none⟩ (.bool false)).setCell ⟨w.heap.size + 1, k * 4 + 2, none⟩ (.int .i64 (-1))).setCell ⟨w.heap.size + 1, k * 4 + 3, none⟩ (.int .i64 (-1)) := ⟨_, rfl⟩
      have HE4 := (show Hid ((((wr.setCell ⟨w.heap.size + 1, k * 4, none⟩ (.bool false)).setCell ⟨w.heap.size + 1, k * 4 + 1, none⟩ (.bool false)).setCell ⟨w.heap.size + 1, k * 4 + 2, none⟩ (.int .i64 (-1))).setCell ⟨w.heap.size + 1, k * 4 + 3, none⟩ (.int .i64 (-1)) = w4) from hw4.symm)
      have HW4 := (show Hid (KdS w w4 (.slice A gs.length c) gs (w.heap.size + 1) gB (now.set k eB) bs) from by rw [hw4]; exact HW.out.rule hlt eB)
      have HLp := (show Hid (∀ _ : Unit, Calls Tryz.prog 33 #[.agg #[.slice A gs.length c], .int .i64 (k : Int)] w4 fun e w' => e = .returned (.bool (R k k)) ∧ Below w4.heap.size w4 w') from fun _ => loops_any HR.out HI.out.1 A c hlt w4 (HP.out.later HW4.out.b))
      obtain ⟨rb, hrb⟩ : ∃ rb, rb = R k k := ⟨_, rfl⟩
      rw [← hrb] at HLp
      have HRb := (show Hid (bd k = !rb) from by show bd k = _; rw [HI.out.2, hrb])
      have q4 := HW4.out.x.cl
      have HLk := (show Hid (k < now.length ∧ k < bs.length) from ⟨by rw [HW.out.l]; exact hlt, by rw [HW.out.lb]; exact hlt⟩)
      have z0 : (0 : Int) ≤ (k : Int) := by omega
      have z1 : (k : Int) < (gs.length : Int) := by omega
      clear hnk hrb hw4 hbk
      go_wp2_with (rw [HE4.out])
      refine (HLp.out ()).mono ?_
      rintro e w5 ⟨rfl, b5⟩
      have HW5 := (show Hid (KdS w w5 (.slice A gs.length c) gs (w.heap.size + 1) gB (now.set k eB) bs) from HW4.out.later b5)
      obtain ⟨gm, cm, em, _, _, xm5, fm⟩ := own_get HW5.out.m (j := k) (x := .bool bk) (by rw [List.getElem?_map, HBk.out]; rfl)
      have emg : gB = gm := by injection em with e1; injection e1 with e1; injection e1
      clear em
      subst emg
      have HW6 := (show Hid (KdS w (w5.setCell ⟨gB, k, none⟩ (.bool (!rb))) (.slice A gs.length c) gs (w.heap.size + 1) gB (now.set k eB) (bs.set k (!rb))) from HW5.out.bit k _)
      have HJ2 := (show Hid (∀ j, j < k + 1 → (now.set k eB)[j]? = some eB ∧ (bs.set k (!rb))[j]? = some (bd j)) from fun j hj => by
        by_cases e : j = k
        · subst e
          exact ⟨List.getElem?_set_self HLk.out.1, by rw [List.getElem?_set_self HLk.out.2, HRb.out]⟩
        · rw [List.getElem?_set_ne (Ne.symm e), List.getElem?_set_ne (Ne.symm e)]
          exact HJ.out j (by omega))
      clear HE4 HLp b5 HW HW4 HW5 HJ a0 a1 a2 a3 f0 f1 f2 f3 q4 HRb HLk HP HR HI HMk HBk
      go_wp2_with fail
      go_roundw
      case rel => exact ⟨k + 1, now.set k eB, bs.set k (!rb), by omega, by go_num, HW6, HJ2⟩
      case measure => simp [intOf]; omega
    · obtain rfl : k = gs.length := by omega
      have HBs := (show Hid (∀ j, j < gs.length → bs[j]? = some (bd j)) from fun j hj => (HJ.out j hj).2)
      have HS2 := (show Hid (KdS w wr (.slice A gs.length c) gs (w.heap.size + 1) gB (knE gs kdR bd 0) bs) from by
        have e : now = knE gs kdR bd 0 := list_ext HW.out.l List.length_replicate (fun j hj => by
          rw [(HJ.out j hj).1]
          show _ = (List.replicate gs.length eB)[j]?
          rw [List.getElem?_replicate, if_pos hj])
        rw [← e]
        exact HW.out)
      clear HW HJ
      go_wp2_with fail
      go_loopg [3] (wN (knE gs kdR bd 0)) (fun gk u wr => ∃ (m gN : Nat), u = .slice (some ⟨gN, 0, none⟩) gs.length gs.length ∧ Hid (wN (knE gs kdR bd m) = gk) ∧ Hid (KdS w wr (.slice A gs.length c) gs gN gB (knE gs kdR bd m) bs))
      case atStart => exact ⟨0, w.heap.size + 1, rfl, rfl, HS2⟩
      case round =>
        obtain ⟨m, gN, rfl, HM, HW⟩ := hrel
        clear HS2
        obtain ⟨now, hnow⟩ : ∃ now, now = knE gs kdR bd m := ⟨_, rfl⟩
        have HNow := (show Hid (now = knE gs kdR bd m) from hnow)
        rw [← hnow] at HW
        have HOk := (show Hid (OkN gs now) from by show OkN gs now; rw [hnow]; exact knE_ok (gk_R HR.out) bd m)
        obtain ⟨w7, hmk7, ho7, hg7⟩ := HMk.out wr HW.out.x.lt
        have hb7 : Below wr.heap.size wr w7 := below_grown (Below.refl _ _) hg7 (fun k e => by cases e)
        have HS7 := (show Hid (KeS w w7 (.slice A gs.length c) gs gN gB wr.heap.size now bs (List.replicate gs.length e0)) from ⟨HW.out.later hb7, ho7, fun e => by have := (HW.out.o.lt gN rfl).2; omega, List.length_replicate⟩)
        have HK7 := (show Hid (KrI gs bd now (List.replicate gs.length e0) 0 true) from KrI.start _ _ _ _)
        clear hnow ho7 hg7 hb7 HW
        go_wp2_with fail
        clear hmk7
        generalize wr.heap.size = gX at *
        go_loopw [7, 8] (fun s t wr => ∃ (sm : Bool) (k : Nat) (nx : List Em), k ≤ gs.length ∧ t = .int .i64 (k : Int) ∧ s = .bool sm ∧ Hid (KeS w wr (.slice A gs.length c) gs gN gB gX now bs nx) ∧ Hid (KrI gs bd now nx k sm)) (fun _ t _ => gs.length - (intOf t).toNat)
        case atStart => exact ⟨true, 0, _, by omega, by go_num, rfl, HS7, HK7⟩
        case round =>
          obtain ⟨sm, k, nx, hk, rfl, rfl, HW, HKr⟩ := hrel
          clear HS7 HK7
          by_cases hlt : k < gs.length
          · obtain ⟨g, hg⟩ : ∃ g, gs[k]? = some g := ⟨_, List.getElem?_eq_getElem hlt⟩
            have hm := List.mem_of_getElem? hg
            obtain ⟨b, o, A3, c3, rfl, lb, _, x1, r2⟩ := HP.out.d k g hg
            have x1' := (HW.out.k.b.cell (p := ⟨b, o + k * 2 + 1, none⟩) lb).trans x1
            have q1 := HW.out.k.x.cl
            have hpos := body_pos HR.out hm
            obtain ⟨j, hj⟩ : ∃ j, g.2.length = j + 1 := ⟨g.2.length - 1, by omega⟩
            obtain ⟨⟨en, ec, el, em⟩, hE⟩ : ∃ e, e = EE (lkE gs now) g.2 j := ⟨_, rfl⟩
            have HPd := (show Hid (∀ _ : Unit, Calls Tryz.prog 34 #[.agg #[.slice (some ⟨b, o, none⟩) gs.length c], .slice A3 g.2.length c3, .slice (some ⟨gN, 0, none⟩) gs.length gs.length] wr fun e w' => (∃ gP cP, e = .returned (.slice (some ⟨gP, 0, none⟩) g.2.length cP) ∧ EB w' gP (j * 4) ⟨en, ec, el, em⟩) ∧ Below wr.heap.size wr w') from fun _ => by
              have h := partsD_any (ptR_of HR.out HP.out HOk.out hm) HOk.out.n (some ⟨b, o, none⟩) A3 (some ⟨gN, 0, none⟩) c c3 gs.length wr (HP.out.later HW.out.k.b) (r2.below HW.out.k.b (Nat.le_refl _)) (own_rd HW.out.k.o HW.out.k.l)
              refine h.mono ?_
              rintro e w' ⟨⟨v, rfl, ho⟩, bb⟩
              obtain ⟨gP, cP, rfl, _, _⟩ := ho.form (by omega)
              refine ⟨⟨gP, cP, rfl, ?_⟩, bb⟩
              rw [hE]
              exact own_eb (xs := []) (by rw [List.append_nil]; exact ho) j _ (by rw [List.getElem?_map, List.getElem?_range (by omega)]; rfl))
            have hgl : g.2.length ≤ 140737488355328 := (HP.out.t g hm).2.1
            have hsub : (g.2.length : Int) - 1 = (j : Int) := by omega
            have z0 : (0 : Int) ≤ (k : Int) := by omega
            have z1 : (k : Int) < (gs.length : Int) := by omega
            have z2 : (0 : Int) ≤ (j : Int) := by omega
            have z3 : (j : Int) < (g.2.length : Int) := by omega
            have HRd := (show Hid ((rdE gs kdR bd now)[k]? = some (if bd k then ⟨en, ec, el, em⟩ else ⟨en, ec, el, -1⟩)) from by
              show _ = _
              rw [rdE_get hg, ← EE_la hpos, show g.2.length - 1 = j from by omega, ← hE])
            obtain ⟨xk, hxk⟩ : ∃ xk, now[k]? = some xk := ⟨_, List.getElem?_eq_getElem (by rw [HW.out.k.l]; exact hlt)⟩
            obtain ⟨xn, xc, xl, xm⟩ := xk
            have HXk := (show Hid (now[k]? = some (⟨xn, xc, xl, xm⟩ : Em) ∧ bs[k]? = some (bd k) ∧ k < nx.length) from ⟨hxk, HBs.out k hlt, by rw [HW.out.l]; exact hlt⟩)
            clear hg hm x1 r2 hpos hj hE lb hxk HP HR HOk HBs HMk
            go_wp2_with fail
            refine (HPd.out ()).mono ?_
            rintro e w4 ⟨⟨gP, cP, rfl, hEB⟩, b4⟩
            have HW4 := (show Hid (KeS w w4 (.slice (some ⟨b, o, none⟩) gs.length c) gs gN gB gX now bs nx) from HW.out.later b4)
            obtain ⟨p0, p1, p2, p3⟩ := hEB
            simp only at p0 p1 p2 p3
            obtain ⟨yk, hyk⟩ : ∃ yk, nx[k]? = some yk := ⟨_, List.getElem?_eq_getElem HXk.out.2.2⟩
            obtain ⟨a0, a1, a2, a3⟩ := own_eb (xs := []) (by rw [List.append_nil]; exact HW4.out.o) k _ hyk
            obtain ⟨yn, yc, yl, ym⟩ := yk
            simp only at a0 a1 a2 a3
            have f0 := HW4.out.o.frozenAt (k * 4)
            have f1 := HW4.out.o.frozenAt (k * 4 + 1)
            have f2 := HW4.out.o.frozenAt (k * 4 + 2)
            have f3 := HW4.out.o.frozenAt (k * 4 + 3)
            obtain ⟨w5, hw5⟩ : ∃ w5, w5 = (((w4.setCell ⟨gX, k * 4, none⟩ (.bool en)).setCell ⟨gX, k * 4 + 1, none⟩ (.bool ec)).setCell ⟨gX, k * 4 + 2, none⟩ (.int .i64 el)).setCell ⟨gX, k * 4 + 3, none⟩ (.int .i64 em) := ⟨_, rfl⟩
            have HE5 := (show Hid ((((w4.setCell ⟨gX, k * 4, none⟩ (.bool en)).setCell ⟨gX, k * 4 + 1, none⟩ (.bool ec)).setCell ⟨gX, k * 4 + 2, none⟩ (.int .i64 el)).setCell ⟨gX, k * 4 + 3, none⟩ (.int .i64 em) = w5) from hw5.symm)
            have HW5 := (show Hid (KeS w w5 (.slice (some ⟨b, o, none⟩) gs.length c) gs gN gB gX now bs (nx.set k ⟨en, ec, el, em⟩)) from by rw [hw5]; exact HW4.out.rule hlt ⟨en, ec, el, em⟩)
            have hN5 : (nx.set k ⟨en, ec, el, em⟩)[k]? = some ⟨en, ec, el, em⟩ := List.getElem?_set_self HXk.out.2.2
            have HN5 := hid_of hN5
            obtain ⟨gm, cm, em2, _, _, xm5, _⟩ := own_get HW5.out.k.m (j := k) (x := .bool (bd k)) (by rw [List.getElem?_map, HXk.out.2.1]; rfl)
            have emg : gB = gm := by injection em2 with e1; injection e1 with e1; injection e1
            clear em2
            subst emg
            have f5 := HW5.out.o.frozenAt (k * 4 + 3)
            have c5 := (own_eb (xs := []) (by rw [List.append_nil]; exact HW5.out.o) k _ hN5).c3
            simp only at c5
            generalize bd k = bk at *
            clear hw5 hyk hN5 HPd b4 HW HW4 q1 x1'
            cases bk with
            | true =>
              obtain ⟨nx2, hnx2⟩ : ∃ nx2, nx2 = nx.set k ⟨en, ec, el, em⟩ := ⟨_, rfl⟩
              have hX6 : NxS gs bd now nx nx2 k ⟨en, ec, el, em⟩ := ⟨by rw [hnx2]; exact HN5.out, HRd.out, fun j hj => by rw [hnx2]; exact List.getElem?_set_ne (Ne.symm hj)⟩
              rw [← hnx2] at HW5
              have HW6 := HW5
              clear HW5 hnx2 HN5 HRd f5 c5
              go_wp2_with (rw [HE5.out])
              clear HE5 a0 a1 a2 a3 f0 f1 f2 f3 p0 p1 p2 p3 xm5
              obtain ⟨w6, hw6⟩ : ∃ w6, w6 = w5 := ⟨_, rfl⟩
              rw [← hw6] at HW6 ⊢
              clear hw6
              have HK6 := (show Hid ((sm = true → KrI gs bd now nx2 (k + 1) (eqB ⟨en, ec, el, em⟩ ⟨xn, xc, xl, xm⟩)) ∧ (sm = false → KrI gs bd now nx2 (k + 1) false)) from ⟨fun q => HKr.out.next hX6 HXk.out.1 q, fun q => HKr.out.nextF hX6 q⟩)
              obtain ⟨a0, a1, a2, a3⟩ := own_eb (xs := []) (by rw [List.append_nil]; exact HW6.out.o) k ⟨en, ec, el, em⟩ hX6.1
              obtain ⟨d0, d1, d2, d3⟩ := own_eb (xs := []) (by rw [List.append_nil]; exact HW6.out.k.o) k ⟨xn, xc, xl, xm⟩ HXk.out.1
              simp only at a0 a1 a2 a3 d0 d1 d2 d3
              have heq := em_eql ⟨en, ec, el, em⟩ ⟨xn, xc, xl, xm⟩
              simp only [emG] at heq
              generalize eqB ⟨en, ec, el, em⟩ ⟨xn, xc, xl, xm⟩ = eb at *
              clear hX6
              cases sm with
              | true =>
                go_wp2_with fail
                go_big_quiet (fail)
                have HW7 := (show Hid (KeS w (w6.drewN nq) (.slice (some ⟨b, o, none⟩) gs.length c) gs gN gB gX now bs nx2) from HW6.out.later (below_dn _))
                have HK2 := (show Hid (KrI gs bd now nx2 (k + 1) eb) from HK6.out.1 (by trivial))
                generalize w6.drewN nq = w7 at *
                clear a0 a1 a2 a3 d0 d1 d2 d3 heq HW6 HK6 HKr
                go_wp2_with fail
                go_roundw
                case rel => exact ⟨eb, k + 1, nx2, by omega, by go_num, rfl, HW7, HK2⟩
                case measure => simp [intOf]; omega
              | false =>
                go_wp2_with fail
                go_big_quiet (fail)
                have HW7 := (show Hid (KeS w (w6.drewN nq) (.slice (some ⟨b, o, none⟩) gs.length c) gs gN gB gX now bs nx2) from HW6.out.later (below_dn _))
                have HK2 := (show Hid (KrI gs bd now nx2 (k + 1) false) from HK6.out.2 (by trivial))
                generalize w6.drewN nq = w7 at *
                clear a0 a1 a2 a3 d0 d1 d2 d3 heq HW6 HK6 HKr
                go_wp2_with fail
                go_roundw
                case rel => exact ⟨false, k + 1, nx2, by omega, by go_num, rfl, HW7, HK2⟩
                case measure => simp [intOf]; omega
            | false =>
              obtain ⟨w6, hw6⟩ : ∃ w6, w6 = w5.setCell ⟨gX, k * 4 + 3, none⟩ (.int .i64 (-1)) := ⟨_, rfl⟩
              have HE6 := (show Hid (w5.setCell ⟨gX, k * 4 + 3, none⟩ (.int .i64 (-1)) = w6) from hw6.symm)
              obtain ⟨nx2, hnx2⟩ : ∃ nx2, nx2 = (nx.set k ⟨en, ec, el, em⟩).set k ⟨en, ec, el, -1⟩ := ⟨_, rfl⟩
              have HW6 := (show Hid (KeS w w6 (.slice (some ⟨b, o, none⟩) gs.length c) gs gN gB gX now bs nx2) from by rw [hw6, hnx2]; exact HW5.out.cut HN5.out)
              have hX6 : NxS gs bd now nx nx2 k ⟨en, ec, el, -1⟩ := ⟨by rw [hnx2]; exact List.getElem?_set_self (by rw [List.length_set]; exact HXk.out.2.2), HRd.out, fun j hj => by rw [hnx2, List.getElem?_set_ne (Ne.symm hj), List.getElem?_set_ne (Ne.symm hj)]⟩
              clear HW5 hnx2 HN5 HRd hw6
              go_wp2_with (first | rw [HE5.out] | rw [HE6.out])
              clear HE5 HE6 a0 a1 a2 a3 f0 f1 f2 f3 p0 p1 p2 p3 xm5 f5 c5
              have HK6 := (show Hid ((sm = true → KrI gs bd now nx2 (k + 1) (eqB ⟨en, ec, el, -1⟩ ⟨xn, xc, xl, xm⟩)) ∧ (sm = false → KrI gs bd now nx2 (k + 1) false)) from ⟨fun q => HKr.out.next hX6 HXk.out.1 q, fun q => HKr.out.nextF hX6 q⟩)
              obtain ⟨a0, a1, a2, a3⟩ := own_eb (xs := []) (by rw [List.append_nil]; exact HW6.out.o) k ⟨en, ec, el, -1⟩ hX6.1
              obtain ⟨d0, d1, d2, d3⟩ := own_eb (xs := []) (by rw [List.append_nil]; exact HW6.out.k.o) k ⟨xn, xc, xl, xm⟩ HXk.out.1
              simp only at a0 a1 a2 a3 d0 d1 d2 d3
              have heq := em_eql ⟨en, ec, el, -1⟩ ⟨xn, xc, xl, xm⟩
              simp only [emG] at heq
              generalize eqB ⟨en, ec, el, -1⟩ ⟨xn, xc, xl, xm⟩ = eb at *
              clear hX6
              cases sm with
              | true =>
                go_wp2_with fail
                go_big_quiet (fail)
                have HW7 := (show Hid (KeS w (w6.drewN nq) (.slice (some ⟨b, o, none⟩) gs.length c) gs gN gB gX now bs nx2) from HW6.out.later (below_dn _))
                have HK2 := (show Hid (KrI gs bd now nx2 (k + 1) eb) from HK6.out.1 (by trivial))
                generalize w6.drewN nq = w7 at *
                clear a0 a1 a2 a3 d0 d1 d2 d3 heq HW6 HK6 HKr
                go_wp2_with fail
                go_roundw
                case rel => exact ⟨eb, k + 1, nx2, by omega, by go_num, rfl, HW7, HK2⟩
                case measure => simp [intOf]; omega
              | false =>
                go_wp2_with fail
                go_big_quiet (fail)
                have HW7 := (show Hid (KeS w (w6.drewN nq) (.slice (some ⟨b, o, none⟩) gs.length c) gs gN gB gX now bs nx2) from HW6.out.later (below_dn _))
                have HK2 := (show Hid (KrI gs bd now nx2 (k + 1) false) from HK6.out.2 (by trivial))
                generalize w6.drewN nq = w7 at *
                clear a0 a1 a2 a3 d0 d1 d2 d3 heq HW6 HK6 HKr
                go_wp2_with fail
                go_roundw
                case rel => exact ⟨false, k + 1, nx2, by omega, by go_num, rfl, HW7, HK2⟩
                case measure => simp [intOf]; omega
          · obtain rfl : k = gs.length := by omega
            have HRn := (show Hid (nx = rdE gs kdR bd now) from list_ext HW.out.l rdE_len HKr.out.a)
            have HSm := (show Hid (sm = true ↔ nx = now) from ⟨fun q => list_ext HW.out.l HW.out.k.l (HKr.out.s.1 q), fun q => HKr.out.s.2 fun j _ => by rw [q]⟩)
            cases sm with
            | true =>
              have HKd := (show Hid (KnD gs now) from ⟨R, bd, m, HI.out.1, fun i _ => by rw [HI.out.2], HNow.out, by
                show rdE gs kdR bd (knE gs kdR bd m) = _
                rw [← HNow.out, ← HRn.out]
                exact HSm.out.1 rfl⟩)
              have HO := (show Hid (wr.ownsRow w.heap.size 33 4 (.slice (some ⟨gN, 0, none⟩) gs.length gs.length) gs.length (emc now)) from T.own_base HW.out.k.o (Nat.le_succ _))
              have HB := (show Hid (Below w.heap.size w wr ∧ now.length = gs.length) from ⟨HW.out.k.b, HW.out.k.l⟩)
              clear HW HKr HRn HSm HNow HM HI HR HP HBs HOk HMk
              go_wp2_with fail
              go_ret
              exact ⟨⟨_, now, rfl, HKd.out, HB.out.2, HO.out⟩, HB.out.1⟩
            | false =>
              have HLs := (show Hid (wN (knE gs kdR bd (m + 1)) < wN (knE gs kdR bd m)) from knE_less (gk_R HR.out) bd m (fun e => by
                have h2 : nx = now := by
                  rw [HRn.out, HNow.out]
                  exact e.symm
                have := HSm.out.2 h2
                cases this))
              have HW2 := (show Hid (KdS w wr (.slice A gs.length c) gs gX gB (knE gs kdR bd (m + 1)) bs) from by
                have e : nx = knE gs kdR bd (m + 1) := by
                  rw [HRn.out, HNow.out]
                  rfl
                rw [← e]
                exact ⟨HW.out.k.b, HW.out.k.x, HW.out.o, HW.out.k.m, HW.out.l, HW.out.k.lb⟩)
              clear HW HKr HRn HSm HNow HOk
              go_wp2_with fail
              go_roundg (wN (knE gs kdR bd (m + 1)))
              case measure => have := HM.out; have := HLs.out; omega
              case rel => exact ⟨m + 1, gX, rfl, rfl, HW2⟩
end Go.Proofs.YtokfgoepnfjafaaGreat.N

namespace Go.Proofs.YtokfgoepnfjafaaGreat.N
open Go.RowKit Go.Maps
open Go.Proofs.YtokfgoepnfjafaaGreat.T
set_option maxRecDepth 100000 in
set_option maxHeartbeats 16000000 in
/-- What is known of each part of a right pattern whose names are all there. -/
theorem allD_any {gs : GL} (hR : RtG gs) {L : List Nd} (hrt : Rt L) (hsz : ∀ n ∈ L, n.tx.size ≤ 140737488355328) (hfd : ∀ n ∈ L, n.op = 6 → ∃ i, fdG gs n.tx = some i) (A Ap : Option Addr) (c cp : Nat) (w : World) (hp : GI w A gs) (hL : RdN w Ap L) :
    Calls Tryz.prog 21 #[.agg #[.slice A gs.length c], .slice Ap L.length cp] w fun e w' => (∃ v now, e = .returned v ∧ KnD gs now ∧ w'.ownsRow w.heap.size 33 4 v L.length (emc ((List.range L.length).map (EE (lkE gs now) L)))) ∧ Below w.heap.size w w' := by
  obtain ⟨w1, hw1⟩ : ∃ w1, w1 = w.alloc (.cells #[.slice A gs.length c] 24) := ⟨_, rfl⟩
  have HE1 := (show Hid (w.alloc (.cells #[.slice A gs.length c] 24) = w1) from hw1.symm)
  have HB1 := (show Hid (Below w.heap.size w w1) from by rw [hw1]; exact below_box _ _)
  have HG1 := (show Hid (GX w1 w.heap.size (.slice A gs.length c)) from by rw [hw1]; exact GX.mk (heap_alloc_new w _))
  have q1 := HG1.out.cl
  have HKe := (show Hid (∀ W, Below w1.heap.size w1 W → W.cell? ⟨w.heap.size, 0, none⟩ = some (.slice A gs.length c)) from fun W hW => (HG1.out.below hW).cl)
  have HK := (show Hid (∀ W, Below w1.heap.size w1 W → Calls Tryz.prog 19 #[.agg #[.slice A gs.length c]] W fun e w' => (∃ An cn now, e = .returned (.slice An gs.length cn) ∧ Hid (KnD gs now ∧ now.length = gs.length ∧ RdE w' An now)) ∧ Below w1.heap.size w1 w') from fun W hW => by
    refine (known_any hR A c W (hp.later (HB1.out.trans (hW.mono HB1.out.size)))).mono ?_
    rintro e w' ⟨⟨v, now, rfl, hk, hl, ho⟩, b⟩
    obtain ⟨An, cn, rfl⟩ := own_fm ho
    exact ⟨⟨An, cn, now, rfl, hk, hl, own_rd ho hl⟩, hW.trans (b.mono hW.size)⟩)
  have HPt := (show Hid (∀ (W : World) (An : Option Addr) (cn : Nat) (now : List Em), Below w1.heap.size w1 W → Hid (KnD gs now ∧ now.length = gs.length ∧ RdE W An now) → Calls Tryz.prog 34 #[.agg #[.slice A gs.length c], .slice Ap L.length cp, .slice An gs.length cn] W fun e w' => (∃ v, e = .returned v ∧ Hid (KnD gs now ∧ w'.ownsRow w.heap.size 33 4 v L.length (emc ((List.range L.length).map (EE (lkE gs now) L))))) ∧ Below w1.heap.size w1 w') from fun W An cn now hW hH => by
    obtain ⟨hk, hl, hr⟩ := hH.out
    have hb := HB1.out.trans (hW.mono HB1.out.size)
    refine (partsD_any (gs := gs) (now := now) (L := L) ⟨hrt, hsz, hfd, knD_ok hR hk⟩ hl A Ap An c cp cn W (hp.later hb) (hL.below hb (Nat.le_refl _)) hr).mono ?_
    rintro e w' ⟨⟨v, rfl, ho⟩, b⟩
    exact ⟨⟨v, rfl, hk, T.own_base ho hb.size⟩, hW.trans (b.mono hW.size)⟩)
  clear hp hw1 hR hrt hsz hfd hL
  go_enter Tryz.func21, Tryz.ntmps21
  go_wp2_with (rw [HE1.out])
  go_region_held3 (fun W => W.cell? ⟨w.heap.size, 0, none⟩ = some (.slice A gs.length c)) (first | go_keep | exact HKe.out _ bA | exact HKe.out _ bB) (first | (go_at_call 19; with_reducible refine (HK.out _ (Below.refl _ _).drew).mono ?_; rintro e wA ⟨⟨An, cn, now, rfl, hA⟩, bA⟩) | (go_at_call 34; with_reducible refine (HPt.out _ An cn now bA hA).mono ?_; rintro e wB ⟨⟨v, rfl, hB⟩, bB⟩))
  all_goals
    rename_i hHeld
    have HH := (show Hid _ from hB)
    have HBB := (show Hid (Below w1.heap.size w1 wB) from bB)
    clear hHeld hA bA bB HK HPt HKe hB q1
    go_wp2_with fail
    go_ret
    exact ⟨⟨_, now, rfl, HH.out.1, HH.out.2⟩, HB1.out.trans (HBB.out.mono HB1.out.size)⟩
end Go.Proofs.YtokfgoepnfjafaaGreat.N

namespace Go.Proofs.YtokfgoepnfjafaaGreat.N
open Go.RowKit Go.Maps
open Go.Proofs.YtokfgoepnfjafaaGreat.T
def nA : Nd := ⟨4, 0, ⟨#[97]⟩, 0, 0, 0, 0⟩
def nCs : Nd := ⟨6, 0, ⟨#[115]⟩, 0, 0, 0, 0⟩
def nK (op n : Int) : Nd := ⟨op, n, ⟨#[]⟩, 0, 0, 0, 0⟩
def nAb : Nd := ⟨4, 0, ⟨#[97, 98]⟩, 0, 0, 0, 0⟩
def exS : List Nd := [nA, nCs, nK 7 0, nK 1 0, nK 8 0]
def exT : List Nd := [nAb, nK 14 2, nA, nK 11 0, nK 7 0]
def exG : GL := [(⟨#[115]⟩, exS), (⟨#[116]⟩, exT)]
theorem ex_ck : (ckG exG).2 = 0 := by kernel_rfl
def exB : Nat → Bool := fun i => i == 1
def exZ : List Em := [⟨true, false, 0, -1⟩, ⟨false, true, 4, 5⟩]
theorem ex_pg2 : pgE exG kdR exB 2 = exZ := by kernel_rfl
theorem ex_pg3 : pgE exG kdR exB 3 = exZ := by kernel_rfl
theorem pgS_bd {gs : GL} {bd bd2 : Nat → Bool} (h : ∀ i, i < gs.length → bd i = bd2 i) : pgS gs bd = pgS gs bd2 := by
  unfold pgS
  refine List.map_congr_left fun i hi => ?_
  rw [h i (List.mem_range.1 hi)]
theorem rdE_bd0 {gs : GL} {kd : List Nd → Nat → List Nat} {bd bd2 : Nat → Bool} (h : ∀ i, i < gs.length → bd i = bd2 i) (now : List Em) : rdE gs kd bd now = rdE gs kd bd2 now := by
  apply List.ext_getElem?
  intro i
  by_cases hi : i < gs.length
  · have hg : gs[i]? = some gs[i] := List.getElem?_eq_getElem hi
    rw [rdE_get hg, rdE_get hg, h i hi]
  · rw [List.getElem?_eq_none (by rw [rdE_len]; omega), List.getElem?_eq_none (by rw [rdE_len]; omega)]
theorem pgE_bd {gs : GL} {kd : List Nd → Nat → List Nat} {bd bd2 : Nat → Bool} (h : ∀ i, i < gs.length → bd i = bd2 i) : ∀ m, pgE gs kd bd m = pgE gs kd bd2 m := by
  intro m
  induction m with
  | zero => exact pgS_bd h
  | succ m ih =>
    show rdE gs kd bd (pgE gs kd bd m) = rdE gs kd bd2 (pgE gs kd bd2 m)
    rw [ih, rdE_bd0 h]
theorem ex_c00 : cG exG 0 0 = true := by kernel_rfl
theorem ex_c10 : cG exG 1 0 = false := by kernel_rfl
theorem ex_c11 : cG exG 1 1 = false := by kernel_rfl
theorem rc_some {n : Nat} {c : Mx} {x y : Nat} (h : Rc n c x y) : ∃ k, c x k = true :=
  Rc.least (d := fun i _ => ∃ k, c i k = true) (fun _i j hc => ⟨j, hc⟩) (fun _i _k _j _ h1 _ => h1) h
theorem ex_kn {now : List Em} (h : KnF exG now) : now = exZ := by
  obtain ⟨R, bd, m, hI, hbd, rfl, hf⟩ := h
  have l2 : exG.length = 2 := rfl
  have b0 : bd 0 = exB 0 := by
    rw [hbd 0, (hI.rl 0 0 (by rw [l2]; omega) (by rw [l2]; omega)).2 (Rc.of ex_c00)]
    rfl
  have b1 : bd 1 = exB 1 := by
    rw [hbd 1]
    cases e : R 1 1 with
    | false => rfl
    | true =>
      obtain ⟨k, hk⟩ := rc_some ((hI.rl 1 1 (by rw [l2]; omega) (by rw [l2]; omega)).1 e)
      have hlt := (cG_lt hk).2
      rw [l2] at hlt
      have : k = 0 ∨ k = 1 := by omega
      rcases this with rfl | rfl
      · rw [ex_c10] at hk; cases hk
      · rw [ex_c11] at hk; cases hk
  have hb : ∀ i, i < exG.length → bd i = exB i := fun i hi => by
    rw [l2] at hi
    have : i = 0 ∨ i = 1 := by omega
    rcases this with rfl | rfl
    · exact b0
    · exact b1
  have h1 := pg_fix hf 2
  have h2 := pg_fix (gs := exG) (kd := kdR) (bd := exB) (m := 2) (ex_pg3.trans ex_pg2.symm) m
  rw [pgE_bd hb, pgE_bd hb] at h1
  rw [pgE_bd hb, ← h1, show m + 2 = 2 + m from by omega, h2, ex_pg2]
/-- Nodes that were just laid are read. -/
theorem rd_lit (w : World) (L : List Nd) (cs : Array Value) (hn : L.length ≤ 100) (hc : cs.toList = ndc L) : RdN (w.alloc (.cells cs 62)) (some ⟨w.heap.size, 0, none⟩) L := fun _ => by
  have hs : cs.size = L.length * 7 := by rw [← Array.length_toList, hc, ndc_len]
  have ho : (w.alloc (.cells cs 62)).ownsRow w.heap.size 62 7 (.slice (some ⟨w.heap.size, 0, none⟩) L.length L.length) L.length (ndc L ++ []) := by
    rw [List.append_nil, ← hc]
    exact World.ownsRow_lit w cs L.length (Nat.le_refl _) (by unfold maxLen; omega) hs
  exact ⟨w.heap.size, 0, rfl, by rw [World.size_alloc]; omega, own_ndl ho⟩
set_option maxRecDepth 100000 in
theorem ex_gi (w : World) : GI ((((((w.alloc (.cells #[.int .i64 4, .int .i64 0, .string ⟨#[97]⟩, .int .u64 0, .int .u64 0, .int .u64 0, .int .u64 0] 62)).alloc (.cells #[.int .i64 4, .int .i64 0, .string ⟨#[97]⟩, .int .u64 0, .int .u64 0, .int .u64 0, .int .u64 0, .int .i64 6, .int .i64 0, .string ⟨#[115]⟩, .int .u64 0, .int .u64 0, .int .u64 0, .int .u64 0, .int .i64 7, .int .i64 0, .string ⟨#[]⟩, .int .u64 0, .int .u64 0, .int .u64 0, .int .u64 0, .int .i64 1, .int .i64 0, .string ⟨#[]⟩, .int .u64 0, .int .u64 0, .int .u64 0, .int .u64 0, .int .i64 8, .int .i64 0, .string ⟨#[]⟩, .int .u64 0, .int .u64 0, .int .u64 0, .int .u64 0] 62)).alloc (.cells #[.string ⟨#[115]⟩, .slice (some ⟨w.heap.size + 1, 0, none⟩) 5 5] 45)).alloc (.cells #[.int .i64 4, .int .i64 0, .string ⟨#[97, 98]⟩, .int .u64 0, .int .u64 0, .int .u64 0, .int .u64 0, .int .i64 14, .int .i64 2, .string ⟨#[]⟩, .int .u64 0, .int .u64 0, .int .u64 0, .int .u64 0, .int .i64 4, .int .i64 0, .string ⟨#[97]⟩, .int .u64 0, .int .u64 0, .int .u64 0, .int .u64 0, .int .i64 11, .int .i64 0, .string ⟨#[]⟩, .int .u64 0, .int .u64 0, .int .u64 0, .int .u64 0, .int .i64 7, .int .i64 0, .string ⟨#[]⟩, .int .u64 0, .int .u64 0, .int .u64 0, .int .u64 0] 62)).alloc (.cells #[.string ⟨#[116]⟩, .slice (some ⟨w.heap.size + 3, 0, none⟩) 5 5] 45)).alloc (.cells #[.string ⟨#[115]⟩, .slice (some ⟨w.heap.size + 1, 0, none⟩) 5 5, .string ⟨#[116]⟩, .slice (some ⟨w.heap.size + 3, 0, none⟩) 5 5] 45)) (some ⟨w.heap.size + 5, 0, none⟩) exG := by
  have s1 := World.size_alloc w (.cells #[.int .i64 4, .int .i64 0, .string ⟨#[97]⟩, .int .u64 0, .int .u64 0, .int .u64 0, .int .u64 0] 62)
  obtain ⟨w1, h1⟩ : ∃ w1, w1 = (w.alloc (.cells #[.int .i64 4, .int .i64 0, .string ⟨#[97]⟩, .int .u64 0, .int .u64 0, .int .u64 0, .int .u64 0] 62)) := ⟨_, rfl⟩
  rw [← h1] at s1 ⊢
  have r2 := rd_lit w1 exS #[.int .i64 4, .int .i64 0, .string ⟨#[97]⟩, .int .u64 0, .int .u64 0, .int .u64 0, .int .u64 0, .int .i64 6, .int .i64 0, .string ⟨#[115]⟩, .int .u64 0, .int .u64 0, .int .u64 0, .int .u64 0, .int .i64 7, .int .i64 0, .string ⟨#[]⟩, .int .u64 0, .int .u64 0, .int .u64 0, .int .u64 0, .int .i64 1, .int .i64 0, .string ⟨#[]⟩, .int .u64 0, .int .u64 0, .int .u64 0, .int .u64 0, .int .i64 8, .int .i64 0, .string ⟨#[]⟩, .int .u64 0, .int .u64 0, .int .u64 0, .int .u64 0] (by decide) rfl
  have s2 := World.size_alloc w1 (.cells #[.int .i64 4, .int .i64 0, .string ⟨#[97]⟩, .int .u64 0, .int .u64 0, .int .u64 0, .int .u64 0, .int .i64 6, .int .i64 0, .string ⟨#[115]⟩, .int .u64 0, .int .u64 0, .int .u64 0, .int .u64 0, .int .i64 7, .int .i64 0, .string ⟨#[]⟩, .int .u64 0, .int .u64 0, .int .u64 0, .int .u64 0, .int .i64 1, .int .i64 0, .string ⟨#[]⟩, .int .u64 0, .int .u64 0, .int .u64 0, .int .u64 0, .int .i64 8, .int .i64 0, .string ⟨#[]⟩, .int .u64 0, .int .u64 0, .int .u64 0, .int .u64 0] 62)
  obtain ⟨w2, h2⟩ : ∃ w2, w2 = w1.alloc (.cells #[.int .i64 4, .int .i64 0, .string ⟨#[97]⟩, .int .u64 0, .int .u64 0, .int .u64 0, .int .u64 0, .int .i64 6, .int .i64 0, .string ⟨#[115]⟩, .int .u64 0, .int .u64 0, .int .u64 0, .int .u64 0, .int .i64 7, .int .i64 0, .string ⟨#[]⟩, .int .u64 0, .int .u64 0, .int .u64 0, .int .u64 0, .int .i64 1, .int .i64 0, .string ⟨#[]⟩, .int .u64 0, .int .u64 0, .int .u64 0, .int .u64 0, .int .i64 8, .int .i64 0, .string ⟨#[]⟩, .int .u64 0, .int .u64 0, .int .u64 0, .int .u64 0] 62) := ⟨_, rfl⟩
  rw [← h2] at s2 r2 ⊢
  have s3 := World.size_alloc w2 (.cells #[.string ⟨#[115]⟩, .slice (some ⟨w.heap.size + 1, 0, none⟩) 5 5] 45)
  have b3 := below_box w2 (.cells #[.string ⟨#[115]⟩, .slice (some ⟨w.heap.size + 1, 0, none⟩) 5 5] 45)
  obtain ⟨w3, h3⟩ : ∃ w3, w3 = w2.alloc (.cells #[.string ⟨#[115]⟩, .slice (some ⟨w.heap.size + 1, 0, none⟩) 5 5] 45) := ⟨_, rfl⟩
  rw [← h3] at s3 b3 ⊢
  have r4 := rd_lit w3 exT #[.int .i64 4, .int .i64 0, .string ⟨#[97, 98]⟩, .int .u64 0, .int .u64 0, .int .u64 0, .int .u64 0, .int .i64 14, .int .i64 2, .string ⟨#[]⟩, .int .u64 0, .int .u64 0, .int .u64 0, .int .u64 0, .int .i64 4, .int .i64 0, .string ⟨#[97]⟩, .int .u64 0, .int .u64 0, .int .u64 0, .int .u64 0, .int .i64 11, .int .i64 0, .string ⟨#[]⟩, .int .u64 0, .int .u64 0, .int .u64 0, .int .u64 0, .int .i64 7, .int .i64 0, .string ⟨#[]⟩, .int .u64 0, .int .u64 0, .int .u64 0, .int .u64 0] (by decide) rfl
  have s4 := World.size_alloc w3 (.cells #[.int .i64 4, .int .i64 0, .string ⟨#[97, 98]⟩, .int .u64 0, .int .u64 0, .int .u64 0, .int .u64 0, .int .i64 14, .int .i64 2, .string ⟨#[]⟩, .int .u64 0, .int .u64 0, .int .u64 0, .int .u64 0, .int .i64 4, .int .i64 0, .string ⟨#[97]⟩, .int .u64 0, .int .u64 0, .int .u64 0, .int .u64 0, .int .i64 11, .int .i64 0, .string ⟨#[]⟩, .int .u64 0, .int .u64 0, .int .u64 0, .int .u64 0, .int .i64 7, .int .i64 0, .string ⟨#[]⟩, .int .u64 0, .int .u64 0, .int .u64 0, .int .u64 0] 62)
  have b4 := below_box w3 (.cells #[.int .i64 4, .int .i64 0, .string ⟨#[97, 98]⟩, .int .u64 0, .int .u64 0, .int .u64 0, .int .u64 0, .int .i64 14, .int .i64 2, .string ⟨#[]⟩, .int .u64 0, .int .u64 0, .int .u64 0, .int .u64 0, .int .i64 4, .int .i64 0, .string ⟨#[97]⟩, .int .u64 0, .int .u64 0, .int .u64 0, .int .u64 0, .int .i64 11, .int .i64 0, .string ⟨#[]⟩, .int .u64 0, .int .u64 0, .int .u64 0, .int .u64 0, .int .i64 7, .int .i64 0, .string ⟨#[]⟩, .int .u64 0, .int .u64 0, .int .u64 0, .int .u64 0] 62)
  obtain ⟨w4, h4⟩ : ∃ w4, w4 = w3.alloc (.cells #[.int .i64 4, .int .i64 0, .string ⟨#[97, 98]⟩, .int .u64 0, .int .u64 0, .int .u64 0, .int .u64 0, .int .i64 14, .int .i64 2, .string ⟨#[]⟩, .int .u64 0, .int .u64 0, .int .u64 0, .int .u64 0, .int .i64 4, .int .i64 0, .string ⟨#[97]⟩, .int .u64 0, .int .u64 0, .int .u64 0, .int .u64 0, .int .i64 11, .int .i64 0, .string ⟨#[]⟩, .int .u64 0, .int .u64 0, .int .u64 0, .int .u64 0, .int .i64 7, .int .i64 0, .string ⟨#[]⟩, .int .u64 0, .int .u64 0, .int .u64 0, .int .u64 0] 62) := ⟨_, rfl⟩
  rw [← h4] at s4 b4 r4 ⊢
  have s5 := World.size_alloc w4 (.cells #[.string ⟨#[116]⟩, .slice (some ⟨w.heap.size + 3, 0, none⟩) 5 5] 45)
  have b5 := below_box w4 (.cells #[.string ⟨#[116]⟩, .slice (some ⟨w.heap.size + 3, 0, none⟩) 5 5] 45)
  obtain ⟨w5, h5⟩ : ∃ w5, w5 = w4.alloc (.cells #[.string ⟨#[116]⟩, .slice (some ⟨w.heap.size + 3, 0, none⟩) 5 5] 45) := ⟨_, rfl⟩
  rw [← h5] at s5 b5 ⊢
  have hn := heap_alloc_new w5 (.cells #[.string ⟨#[115]⟩, .slice (some ⟨w.heap.size + 1, 0, none⟩) 5 5, .string ⟨#[116]⟩, .slice (some ⟨w.heap.size + 3, 0, none⟩) 5 5] 45)
  have s6 := World.size_alloc w5 (.cells #[.string ⟨#[115]⟩, .slice (some ⟨w.heap.size + 1, 0, none⟩) 5 5, .string ⟨#[116]⟩, .slice (some ⟨w.heap.size + 3, 0, none⟩) 5 5] 45)
  have b6 := below_box w5 (.cells #[.string ⟨#[115]⟩, .slice (some ⟨w.heap.size + 1, 0, none⟩) 5 5, .string ⟨#[116]⟩, .slice (some ⟨w.heap.size + 3, 0, none⟩) 5 5] 45)
  obtain ⟨w6, h6⟩ : ∃ w6, w6 = w5.alloc (.cells #[.string ⟨#[115]⟩, .slice (some ⟨w.heap.size + 1, 0, none⟩) 5 5, .string ⟨#[116]⟩, .slice (some ⟨w.heap.size + 3, 0, none⟩) 5 5] 45) := ⟨_, rfl⟩
  rw [← h6] at hn s6 b6 ⊢
  have e5 : w5.heap.size = w.heap.size + 5 := by omega
  rw [e5] at hn
  have key := fun j => cell_of_row w6 (w.heap.size + 5) j _ 45 (0, 0) hn
  have r2' : RdN w6 (some ⟨w.heap.size + 1, 0, none⟩) exS := by
    have h : RdN w6 (some ⟨w1.heap.size, 0, none⟩) exS := ((((r2.below b3 (Nat.le_refl _)).below b4 (Nat.le_refl _)).below b5 (Nat.le_refl _)).below b6 (Nat.le_refl _))
    rw [s1] at h; exact h
  have r4' : RdN w6 (some ⟨w.heap.size + 3, 0, none⟩) exT := by
    have h : RdN w6 (some ⟨w3.heap.size, 0, none⟩) exT := ((r4.below b5 (Nat.le_refl _)).below b6 (Nat.le_refl _))
    rw [show w3.heap.size = w.heap.size + 3 from by omega] at h; exact h
  refine ⟨fun k g hg => ?_, by show 2 ≤ _; omega, fun g hg => ?_⟩
  · match k, hg with
    | 0, hg =>
      cases hg
      exact ⟨_, 0, _, 5, rfl, by omega, key 0, key 1, r2'⟩
    | 1, hg =>
      cases hg
      exact ⟨_, 0, _, 5, rfl, by omega, key 2, key 3, r4'⟩
    | k + 2, hg => simp [exG] at hg
  · simp only [exG, List.mem_cons, List.not_mem_nil, or_false] at hg
    rcases hg with rfl | rfl
    · refine ⟨by show 1 ≤ _; omega, by show 5 ≤ _; omega, fun n hn => ?_⟩
      simp only [exS, List.mem_cons, List.not_mem_nil, or_false] at hn
      rcases hn with rfl | rfl | rfl | rfl | rfl
      all_goals first | (show 1 ≤ _; omega) | (show 0 ≤ _; omega)
    · refine ⟨by show 1 ≤ _; omega, by show 5 ≤ _; omega, fun n hn => ?_⟩
      simp only [exT, List.mem_cons, List.not_mem_nil, or_false] at hn
      rcases hn with rfl | rfl | rfl | rfl | rfl
      all_goals first | (show 2 ≤ _; omega) | (show 1 ≤ _; omega) | (show 0 ≤ _; omega)
set_option maxRecDepth 100000 in
set_option maxHeartbeats 4000000 in
theorem em_eqlO (a b : Em) (W : World) : (binOp .eql 33 (emG a) (emG b)).run Tryz.prog W = .ok (.bool (eqB a b)) W := by
  have hp : Tryz.prog.stoodInHeld 33 = false := by kernel_rfl
  obtain ⟨a1, a2, a3, a4⟩ := a
  obtain ⟨b1, b2, b3, b4⟩ := b
  unfold eqB
  cases hc : (a3 == b3)
  · cases a1 <;> cases b1 <;> cases a2 <;> cases b2 <;> simp [go_sem, Tryz.underlying33, Tryz.underlying3, Tryz.underlying4, Tryz.isAgg3, Tryz.isAgg4, hp, hc]
  cases hd : (a4 == b4)
  · cases a1 <;> cases b1 <;> cases a2 <;> cases b2 <;> simp [go_sem, Tryz.underlying33, Tryz.underlying3, Tryz.underlying4, Tryz.isAgg3, Tryz.isAgg4, hp, hc, hd]
  cases a1 <;> cases b1 <;> cases a2 <;> cases b2 <;> simp [go_sem, Tryz.underlying33, Tryz.underlying3, Tryz.underlying4, Tryz.isAgg3, Tryz.isAgg4, hp, hc, hd]
set_option maxRecDepth 100000 in
set_option maxHeartbeats 16000000 in
theorem works_any (w : World) : Calls Tryz.prog 12 #[] w fun e w' => e = .returned (.bool true) ∧ Below w.heap.size w w' := by
  have HB6 := (show Hid (Below w.heap.size w ((((((w.alloc (.cells #[.int .i64 4, .int .i64 0, .string ⟨#[97]⟩, .int .u64 0, .int .u64 0, .int .u64 0, .int .u64 0] 62)).alloc (.cells #[.int .i64 4, .int .i64 0, .string ⟨#[97]⟩, .int .u64 0, .int .u64 0, .int .u64 0, .int .u64 0, .int .i64 6, .int .i64 0, .string ⟨#[115]⟩, .int .u64 0, .int .u64 0, .int .u64 0, .int .u64 0, .int .i64 7, .int .i64 0, .string ⟨#[]⟩, .int .u64 0, .int .u64 0, .int .u64 0, .int .u64 0, .int .i64 1, .int .i64 0, .string ⟨#[]⟩, .int .u64 0, .int .u64 0, .int .u64 0, .int .u64 0, .int .i64 8, .int .i64 0, .string ⟨#[]⟩, .int .u64 0, .int .u64 0, .int .u64 0, .int .u64 0] 62)).alloc (.cells #[.string ⟨#[115]⟩, .slice (some ⟨w.heap.size + 1, 0, none⟩) 5 5] 45)).alloc (.cells #[.int .i64 4, .int .i64 0, .string ⟨#[97, 98]⟩, .int .u64 0, .int .u64 0, .int .u64 0, .int .u64 0, .int .i64 14, .int .i64 2, .string ⟨#[]⟩, .int .u64 0, .int .u64 0, .int .u64 0, .int .u64 0, .int .i64 4, .int .i64 0, .string ⟨#[97]⟩, .int .u64 0, .int .u64 0, .int .u64 0, .int .u64 0, .int .i64 11, .int .i64 0, .string ⟨#[]⟩, .int .u64 0, .int .u64 0, .int .u64 0, .int .u64 0, .int .i64 7, .int .i64 0, .string ⟨#[]⟩, .int .u64 0, .int .u64 0, .int .u64 0, .int .u64 0] 62)).alloc (.cells #[.string ⟨#[116]⟩, .slice (some ⟨w.heap.size + 3, 0, none⟩) 5 5] 45)).alloc (.cells #[.string ⟨#[115]⟩, .slice (some ⟨w.heap.size + 1, 0, none⟩) 5 5, .string ⟨#[116]⟩, .slice (some ⟨w.heap.size + 3, 0, none⟩) 5 5] 45))) from ((((((Below.refl _ _).alloc (Nat.le_refl _) _).alloc (by simp) _).alloc (by simp; omega) _).alloc (by simp; omega) _).alloc (by simp; omega) _).alloc (by simp; omega) _)
  have HR := (show Hid (∀ (W : World) (A : Option Addr) (c : Nat), GI W A exG → Calls Tryz.prog 6 #[.agg #[.slice A 2 c]] W fun e w' => (∃ g cap, e = .returned (.tuple #[.slice (some ⟨g, 0, none⟩) 2 cap, .int .i64 0]) ∧ Hid (EB w' g 0 ⟨true, false, 0, -1⟩ ∧ EB w' g 4 ⟨false, true, 4, 5⟩)) ∧ Below W.heap.size W w') from fun W A c hG => by
    have h := rulesP_any exG A c W hG
    rw [ex_ck] at h
    refine h.mono ?_
    rintro e w' ⟨⟨v, now, rfl, hr, ho⟩, b⟩
    obtain ⟨hk, _, _⟩ := hr.1 ex_ck
    have e2 := ex_kn hk
    subst e2
    obtain ⟨g, cap, rfl, _, _⟩ := ho.form (by show 0 < 2; omega)
    have hE := own_eb (l := exZ) (xs := []) (by rw [List.append_nil]; exact ho)
    exact ⟨⟨g, cap, rfl, hE 0 _ rfl, hE 1 _ rfl⟩, b⟩)
  have HG := (show Hid (GI ((((((w.alloc (.cells #[.int .i64 4, .int .i64 0, .string ⟨#[97]⟩, .int .u64 0, .int .u64 0, .int .u64 0, .int .u64 0] 62)).alloc (.cells #[.int .i64 4, .int .i64 0, .string ⟨#[97]⟩, .int .u64 0, .int .u64 0, .int .u64 0, .int .u64 0, .int .i64 6, .int .i64 0, .string ⟨#[115]⟩, .int .u64 0, .int .u64 0, .int .u64 0, .int .u64 0, .int .i64 7, .int .i64 0, .string ⟨#[]⟩, .int .u64 0, .int .u64 0, .int .u64 0, .int .u64 0, .int .i64 1, .int .i64 0, .string ⟨#[]⟩, .int .u64 0, .int .u64 0, .int .u64 0, .int .u64 0, .int .i64 8, .int .i64 0, .string ⟨#[]⟩, .int .u64 0, .int .u64 0, .int .u64 0, .int .u64 0] 62)).alloc (.cells #[.string ⟨#[115]⟩, .slice (some ⟨w.heap.size + 1, 0, none⟩) 5 5] 45)).alloc (.cells #[.int .i64 4, .int .i64 0, .string ⟨#[97, 98]⟩, .int .u64 0, .int .u64 0, .int .u64 0, .int .u64 0, .int .i64 14, .int .i64 2, .string ⟨#[]⟩, .int .u64 0, .int .u64 0, .int .u64 0, .int .u64 0, .int .i64 4, .int .i64 0, .string ⟨#[97]⟩, .int .u64 0, .int .u64 0, .int .u64 0, .int .u64 0, .int .i64 11, .int .i64 0, .string ⟨#[]⟩, .int .u64 0, .int .u64 0, .int .u64 0, .int .u64 0, .int .i64 7, .int .i64 0, .string ⟨#[]⟩, .int .u64 0, .int .u64 0, .int .u64 0, .int .u64 0] 62)).alloc (.cells #[.string ⟨#[116]⟩, .slice (some ⟨w.heap.size + 3, 0, none⟩) 5 5] 45)).alloc (.cells #[.string ⟨#[115]⟩, .slice (some ⟨w.heap.size + 1, 0, none⟩) 5 5, .string ⟨#[116]⟩, .slice (some ⟨w.heap.size + 3, 0, none⟩) 5 5] 45)) (some ⟨w.heap.size + 5, 0, none⟩) exG) from ex_gi w)
  go_enter Tryz.func12, Tryz.ntmps12
  go_wp2_with fail
  refine (HR.out _ _ _ HG.out).mono ?_
  rintro e w7 ⟨⟨g, cap, rfl, hE⟩, b7⟩
  obtain ⟨a0, a1, a2, a3⟩ := hE.out.1
  obtain ⟨d0, d1, d2, d3⟩ := hE.out.2
  have a1 : w7.cell? ⟨g, 1, none⟩ = some (.bool false) := a1
  have a2 : w7.cell? ⟨g, 2, none⟩ = some (.int .i64 0) := a2
  have a3 : w7.cell? ⟨g, 3, none⟩ = some (.int .i64 (-1)) := a3
  have d1 : w7.cell? ⟨g, 5, none⟩ = some (.bool true) := d1
  have d2 : w7.cell? ⟨g, 6, none⟩ = some (.int .i64 4) := d2
  have d3 : w7.cell? ⟨g, 7, none⟩ = some (.int .i64 5) := d3
  have h1 := em_eqlO ⟨true, false, 0, -1⟩ ⟨true, false, 0, -1⟩
  have h2 := em_eqlO ⟨false, true, 4, 5⟩ ⟨false, true, 4, 5⟩
  rw [eqB_iff.2 rfl] at h1 h2
  simp only [emG] at h1 h2
  simp only at a0 d0
  have HB7 := (show Hid (Below w.heap.size w w7) from HB6.out.trans (b7.mono HB6.out.size))
  clear HB6 b7 hE HR HG
  go_wp2_with fail
  go_ret
  exact ⟨rfl, HB7.out⟩
end Go.Proofs.YtokfgoepnfjafaaGreat.N

namespace Go.Proofs.YtokfgoepnfjafaaGreat.N
open Go.RowKit
open Go.Proofs.YtokfgoepnfjafaaGreat.T (RdN below_drewN below_box node_neq ndE)
set_option maxRecDepth 100000 in
set_option maxHeartbeats 8000000 in
theorem sameq (A1 A2 : Option Addr) (c1 c2 : Nat) (L : List Nd) (hl : L.length ≤ 140737488355328) (w : World) (h1 : RdN w A1 L) (h2 : RdN w A2 L) :
    Calls Tryz.prog 26 #[.slice A1 L.length c1, .slice A2 L.length c2] w fun e w' => e = .returned (.bool true) ∧ ∃ m, w' = w.drewN m := by
  have H1 := (show Hid _ from h1)
  have H2 := (show Hid _ from h2)
  have HG := (show Hid (∀ k, k < L.length → ∃ m, L[k]? = some m ∧ L ≠ []) from fun k hk => ⟨_, List.getElem?_eq_getElem hk, by rintro rfl; simp at hk⟩)
  clear h1 h2
  go_enter Tryz.func26, Tryz.ntmps26
  go_wp2_with fail
  go_loopw [5] (fun t wr => ∃ k : Nat, k ≤ L.length ∧ t = .int .i64 k ∧ Hid (∃ m, wr = w.drewN m)) (fun t _ => L.length - (intOf t).toNat)
  case atStart => exact ⟨0, by omega, by go_num, ⟨0, rfl⟩⟩
  case round =>
    obtain ⟨k, hk, rfl, HW⟩ := hrel
    by_cases hlt : k < L.length
    · obtain ⟨n, hn1, nl⟩ := HG.out k hlt
      have hB : Below w.heap.size w wr := by obtain ⟨m, rfl⟩ := HW.out; exact below_drewN (Below.refl _ _) _
      obtain ⟨g1, o1, rfl, l1, q1⟩ := H1.out nl
      obtain ⟨g2, o2, rfl, l2, q2⟩ := H2.out nl
      obtain ⟨a0, a1, a2, a3, a4, a5, a6⟩ := (q1.same (hB.block g1 l1)) k n hn1
      obtain ⟨d0, d1, d2, d3, d4, d5, d6⟩ := (q2.same (hB.block g2 l2)) k n hn1
      have z0 : (0 : Int) ≤ (k : Int) := by omega
      have z1 : (k : Int) < (L.length : Int) := by omega
      clear HG H1 H2 q1 q2 nl hn1 hB
      have hneq := node_neq n n
      rw [T.ndE_refl] at hneq
      go_wp2_with fail
      go_quiet (fail)
      have HW2 := (show Hid (∃ m, wr.drewN nq = w.drewN m) from by obtain ⟨m, e⟩ := HW.out; exact ⟨m + nq, by rw [e, World.drewN_drewN]⟩)
      generalize wr.drewN nq = w2 at *
      clear hneq a0 a1 a2 a3 a4 a5 a6 d0 d1 d2 d3 d4 d5 d6 HW
      go_wp2_with fail
      go_roundw
      case rel => exact ⟨k + 1, by omega, by go_num, HW2⟩
      case measure => simp [intOf]; omega
    · obtain rfl : k = L.length := by omega
      clear HG H1 H2
      go_wp2_with fail
      go_ret
      exact ⟨rfl, HW.out⟩
end Go.Proofs.YtokfgoepnfjafaaGreat.N

namespace Go.Proofs.YtokfgoepnfjafaaGreat.N
open Go.RowKit
open Go.Proofs.YtokfgoepnfjafaaGreat.T (below_box)
theorem ret_gx {fn : Func} {R : Ending → World → Prop} {act : Act} {W : World} {k : Nat} {a : Value} (hF : fn.results = #[.cell 2 24]) (hd : act.defers = []) (h2 : act.tmps.getD 2 undef = .pointer (some ⟨k, 0, none⟩)) (hT : GX W k a) (hR : R (.returned (.agg #[a])) W) : bodyPost Tryz.prog fn R .ret act W := by
  have c0 := hT.cl
  refine bodyPost_ret (v := .agg #[a]) ?_ hd hR
  simp only [Array.getD_eq_getD_getElem?] at h2
  simp [results, hF, go_sem, h2, c0]
/-- A call with one argument as a step of a region that draws its order. -/
theorem step_call1 {F : Nat} (hen : ∀ args w, (callFunc F args).run Tryz.prog w = .ok (.enter F args) w) {ops : Array Oper} {o : Oper} {a : Act} {w : World} {K : Act → World → Prop} {Q : Exit → Act → World → Prop} {E : Prop} (hgd : o.guard = none) (x : Operand) (T : TypeId) (ho : o.op = .call { callee := .value (.func F), args := #[x], argTypes := #[T] }) (v : Value) (hx : a.eval x = v)
    (hc : Calls Tryz.prog F #[v] w fun e w' => ∃ r, e = .returned r ∧ K (a.put o.dst r) w') :
    if Region.wanted o (yielded ops a.tmps) = true then Oper.wp Tryz.prog o a w K Q else E := by
  have hw : Region.wanted o (yielded ops a.tmps) = true := by simp [Region.wanted, hgd]
  rw [if_pos hw]
  have he : (execOp a.eval o).run Tryz.prog w = .ok (.enter F #[v]) w := by
    unfold execOp
    simp [ho, go_sem, invoke, hen]
    rw [← hx]
    cases x <;> simp [Act.eval]
  unfold Oper.wp
  rw [he, Oper.upon_enter]
  refine hc.mono ?_
  rintro e w' ⟨r, rfl, hk⟩
  exact hk


/-- A rule that was lent: it, its pattern's block and room. -/
abbrev Le : Type := (ByteArray × List Nd) × Nat × Nat
def lgV (x : Le) : List Value := [.string x.1.1, .slice (some ⟨x.2.1, 0, none⟩) x.1.2.length x.2.2]
def lgc (l : List Le) : List Value := l.flatMap lgV
theorem lgc_app (a b : List Le) : lgc (a ++ b) = lgc a ++ lgc b := List.flatMap_append
theorem lgc_one (x : Le) : lgc [x] = lgV x := by unfold lgc; rw [List.flatMap_cons, List.flatMap_nil, List.append_nil]
theorem lgc_get (l : List Le) : ∀ (k j : Nat) (x : Le) (u : Value) (ys : List Value), l[k]? = some x → (lgV x)[j]? = some u → (lgc l ++ ys)[k * 2 + j]? = some u := by
  induction l with
  | nil => intro k j x u ys h; cases h
  | cons a l ih =>
    intro k j x u ys h hu
    have e : lgc (a :: l) ++ ys = lgV a ++ (lgc l ++ ys) := by unfold lgc; rw [List.flatMap_cons, List.append_assoc]
    rw [e]
    have hj : j < 2 := (List.getElem?_eq_some_iff.1 hu).1
    cases k with
    | zero =>
      cases h
      rw [Nat.zero_mul, Nat.zero_add, List.getElem?_append_left (by show j < 2; exact hj)]
      exact hu
    | succ k =>
      have h2 : l[k]? = some x := by simpa using h
      have e2 : (lgV a).length = 2 := rfl
      rw [List.getElem?_append_right (by rw [e2]; omega), e2, show (k + 1) * 2 + j - 2 = k * 2 + j from by omega]
      exact ih k j x u ys h2 hu
/-- While a grammar is lent. -/
structure LgI (w wr : World) (a : Value) (v : Value) (ov : List Le) : Prop where
  o : wr.ownsRow w.heap.size 45 2 v ov.length (lgc ov)
  e : ∀ x ∈ ov, T.LentR wr w.heap.size x.2.1 x.2.2 x.1.2
  b : Below w.heap.size w wr
  x : GX wr w.heap.size a
  y : GX wr (w.heap.size + 1) (.slice none 0 0)
theorem LgI.later {w wr W' : World} {a v : Value} {ov : List Le} (h : LgI w wr a v ov) (hb : Below wr.heap.size wr W') : LgI w W' a v ov :=
  ⟨T.own_below h.o hb, fun x hx => (h.e x hx).below hb, h.b.trans (hb.mono h.b.size), h.x.below hb, h.y.below hb⟩
theorem LgI.push {w wr wA w5 : World} {a v u : Value} {ov : List Le} {nm : ByteArray} {L : List Nd} {g cap : Nat} (h : LgI w wr a v ov) (hA : Below wr.heap.size wr wA) (hl : T.LentR wA w.heap.size g cap L) (hg : (wA.alloc (.cells #[.string nm, .slice (some ⟨g, 0, none⟩) L.length cap] 45)).grownBy w5 v.ownBlock) (ho : w5.ownsRow w.heap.size 45 2 u (ov.length + 1) (lgc ov ++ [.string nm, .slice (some ⟨g, 0, none⟩) L.length cap])) : LgI w w5 a u (ov ++ [((nm, L), g, cap)]) := by
  have h2 : LgI w (wA.alloc (.cells #[.string nm, .slice (some ⟨g, 0, none⟩) L.length cap] 45)) a v ov := (h.later hA).later (below_box wA _)
  have hl2 : T.LentR (wA.alloc (.cells #[.string nm, .slice (some ⟨g, 0, none⟩) L.length cap] 45)) w.heap.size g cap L := hl.below (below_box wA _)
  have key : ∀ (y : Le), T.LentR (wA.alloc (.cells #[.string nm, .slice (some ⟨g, 0, none⟩) L.length cap] 45)) w.heap.size y.2.1 y.2.2 y.1.2 → T.LentR w5 w.heap.size y.2.1 y.2.2 y.1.2 := fun y hy =>
    own_same (v := .slice (some ⟨y.2.1, 0, none⟩) (y.1.2.length + 1) y.2.2) hy fun k hk => hg.block k (World.ownsRow.lt hy k hk).2 (fun q => own_apart h2.o hy (by decide) q.symm hk)
  refine ⟨?_, fun y hy => ?_, h2.b.grown hg h2.b.size (fun k e => (h2.o.lt k e).1), h2.x.same (hg.block _ h2.x.lt (fun e => h2.x.ne h2.o (by decide) e.symm rfl)), h2.y.same (hg.block _ h2.y.lt (fun e => h2.y.ne h2.o (by decide) e.symm rfl))⟩
  · rw [List.length_append, lgc_app, lgc_one]
    exact ho
  · rcases List.mem_append.1 hy with q | q
    · exact key y (h2.e y q)
    · rw [List.mem_singleton.1 q]
      exact key ((nm, L), g, cap) hl2
/-- A grammar that was lent, and is as it was. -/
structure LgB (w w' : World) (g cap : Nat) (ov : List Le) : Prop where
  o : w'.ownsRow w.heap.size 45 2 (.slice (some ⟨g, 0, none⟩) (ov.length + 1) cap) (ov.length + 1) (lgc ov ++ [.string ⟨#[115, 112, 97, 114, 101, 32, 114, 111, 111, 109]⟩, .slice none 0 0])
  e : ∀ x ∈ ov, T.LentR w' w.heap.size x.2.1 x.2.2 x.1.2
  b : Below w.heap.size w w'
theorem LgB.later {w wr W' : World} {g cap : Nat} {ov : List Le} (h : LgB w wr g cap ov) (hb : Below wr.heap.size wr W') : LgB w W' g cap ov :=
  ⟨T.own_below h.o hb, fun x hx => (h.e x hx).below hb, h.b.trans (hb.mono h.b.size)⟩
theorem LgB.cell {w wr : World} {g cap : Nat} {ov : List Le} (h : LgB w wr g cap ov) {k : Nat} {x : Le} (hk : ov[k]? = some x) : wr.cell? ⟨g, k * 2, none⟩ = some (.string x.1.1) ∧ wr.cell? ⟨g, k * 2 + 1, none⟩ = some (.slice (some ⟨x.2.1, 0, none⟩) x.1.2.length x.2.2) := by
  have hc := h.o.cells (g := g) rfl
  have q0 := hc (k * 2 + 0) _ (lgc_get ov k 0 x _ _ hk rfl)
  have q1 := hc (k * 2 + 1) _ (lgc_get ov k 1 x _ _ hk rfl)
  rw [Addr.add_lit, Nat.zero_add] at q0 q1
  exact ⟨q0, q1⟩
theorem LgB.last {w wr : World} {g cap : Nat} {ov : List Le} (h : LgB w wr g cap ov) : wr.cell? ⟨g, ov.length * 2, none⟩ = some (.string ⟨#[115, 112, 97, 114, 101, 32, 114, 111, 111, 109]⟩) := by
  have hc := h.o.cells (g := g) rfl
  have hlen : (lgc ov).length = ov.length * 2 := by
    have := h.o.1
    rw [List.length_append] at this
    simp only [List.length_cons, List.length_nil] at this
    omega
  have q0 := hc (ov.length * 2) (.string ⟨#[115, 112, 97, 114, 101, 32, 114, 111, 111, 109]⟩) (by rw [List.getElem?_append_right (by omega), hlen, Nat.sub_self]; rfl)
  rw [Addr.add_lit, Nat.zero_add] at q0
  exact q0
theorem LgB.gr {w wr : World} {g cap : Nat} {ov : List Le} {gs : List (ByteArray × List Nd)} (h : LgB w wr g cap ov) (hm : ov.map (·.1) = gs) : GrD wr (some ⟨g, 0, none⟩) gs := fun k r hr => by
  rw [← hm, List.getElem?_map] at hr
  cases hx : ov[k]? with
  | none => rw [hx] at hr; cases hr
  | some x =>
    rw [hx] at hr
    obtain rfl : x.1 = r := by simpa using hr
    obtain ⟨q0, q1⟩ := h.cell hx
    exact ⟨g, 0, some ⟨x.2.1, 0, none⟩, x.2.2, rfl, (h.o.lt g rfl).2, by rw [Nat.zero_add]; exact q0, by rw [Nat.zero_add]; exact q1, (h.e x (List.mem_of_getElem? hx)).rd⟩
theorem enters8 (args : Array Value) (w : World) : (callFunc 13 args).run Tryz.prog w = .ok (.enter 13 args) w := enters_of Tryz.func13 (by kernel_rfl) rfl args w
set_option maxRecDepth 100000 in
set_option maxHeartbeats 8000000 in
theorem lendG_any (gs : List (ByteArray × List Nd)) (A : Option Addr) (c : Nat) (w : World) (hg : GrIn w A c gs) :
    Calls Tryz.prog 5 #[.agg #[.slice A gs.length c]] w fun e w' => ∃ g cap ov, e = .returned (.agg #[.slice (some ⟨g, 0, none⟩) gs.length cap]) ∧ ov.map (·.1) = gs ∧ LgB w w' g cap ov := by
  obtain ⟨i0, hinf, hz0, hz1, hz2⟩ := info_parts Tryz.info41
  have hl := hg.len
  have HG := (show Hid (∀ k, k < gs.length → ∃ g, gs[k]? = some g ∧ g.2.length * 64 ≤ 140737488351232 ∧ ∃ b o A2 c2, A = some ⟨b, o, none⟩ ∧ b < w.heap.size ∧ w.cell? ⟨b, o + k * 2, none⟩ = some (.string g.1) ∧ w.cell? ⟨b, o + k * 2 + 1, none⟩ = some (.slice A2 g.2.length c2) ∧ T.InP w A2 c2 g.2) from fun k hk => by
    have e : gs[k]? = some gs[k] := List.getElem?_eq_getElem hk
    obtain ⟨b, o, _, _, h1, h2, h3, _, _⟩ := hg.d k _ e
    obtain ⟨A3, c3, h6, h7⟩ := hg.each k _ e
    exact ⟨_, e, h6.2.2.2.1, b, o, A3, c3, h1, h2, h3, h7 b o h1, h6.1, h6.2.1⟩)
  have HA := (show Hid (LgI w ((w.alloc (.cells #[.slice A gs.length c] 24)).alloc (.cells #[.slice none 0 0] 24)) (.slice A gs.length c) (.slice none 0 0) []) from
    ⟨World.ownsRow_nil _ _ _ _, (fun x hx => by cases hx), ((Below.refl _ _).alloc (Nat.le_refl _) _).alloc (by rw [World.size_alloc]; omega) _, (GX.mk (heap_alloc_new w _)).below (below_box _ _), ⟨by have h := heap_alloc_new (w.alloc (.cells #[.slice A gs.length c] 24)) (.cells #[.slice none 0 0] 24); rw [World.size_alloc] at h; exact h⟩⟩)
  clear hg
  go_enter Tryz.func5, Tryz.ntmps5
  go_wp2_with fail
  generalize (w.alloc (.cells #[.slice A gs.length c] 24)).alloc (.cells #[.slice none 0 0] 24) = w1 at *
  go_loopw [3, 4] (fun v t wr => ∃ (k : Nat) (ov : List Le) (Av : Option Addr) (cv : Nat), k ≤ gs.length ∧ t = .int .i64 k ∧ v = .slice Av k cv ∧ Hid (ov.length = k ∧ ov.map (·.1) = gs.take k) ∧ Hid (LgI w wr (.slice A gs.length c) (.slice Av k cv) ov)) (fun _ t _ => gs.length - (intOf t).toNat)
  case atStart => exact ⟨0, [], none, 0, Nat.zero_le _, rfl, rfl, ⟨rfl, rfl⟩, HA⟩
  case round =>
    obtain ⟨k, ov, Av, cv, hk, rfl, rfl, HM, HW⟩ := hrel
    clear HA
    have x0 := HW.out.x.cl
    by_cases hlt : k < gs.length
    · obtain ⟨g, hgk, hgl, b, o, A2, c2, rfl, lb, e0, e1, hin⟩ := HG.out k hlt
      have z0 : (0 : Int) ≤ (k : Int) := by omega
      have z1 : (k : Int) < (gs.length : Int) := by omega
      have hD : Below wr.heap.size wr wr.drew := (Below.refl _ _).drew
      have HLd := (show Hid (LgI w wr.drew (.slice (some ⟨b, o, none⟩) gs.length c) (.slice Av k cv) ov) from HW.out.later hD)
      have d0 := (HLd.out.b.cell (p := ⟨b, o + k * 2, none⟩) lb).trans e0
      have d1 := (HLd.out.b.cell (p := ⟨b, o + k * 2 + 1, none⟩) lb).trans e1
      have dx := HLd.out.x.cl
      have hsz : w.heap.size ≤ wr.heap.size := HW.out.b.size
      have HCall := (show Hid (∀ _ : Unit, Calls Tryz.prog 13 #[.slice A2 g.2.length c2] wr.drew fun e w' => (∃ g9 cap, e = .returned (.slice (some ⟨g9, 0, none⟩) g.2.length cap) ∧ T.LentR w' w.heap.size g9 cap g.2) ∧ Below wr.drew.heap.size wr.drew w') from fun _ => by
        refine (T.lend_any A2 c2 g.2 wr.drew hgl ⟨hin.1.below HLd.out.b (Nat.le_refl _), hin.2⟩).mono ?_
        rintro e w' ⟨⟨g9, cap, rfl, r9⟩, b9⟩
        exact ⟨⟨g9, cap, rfl, T.own_base r9 (by show w.heap.size ≤ wr.heap.size; exact hsz)⟩, b9⟩)
      have HAft := (show Hid (∀ wA, Below wr.drew.heap.size wr.drew wA → wA.cell? ⟨w.heap.size, 0, none⟩ = some (.slice (some ⟨b, o, none⟩) gs.length c) ∧ wA.cell? ⟨b, o + k * 2, none⟩ = some (.string g.1)) from fun wA hA => by
        have h3 := HLd.out.later hA
        exact ⟨h3.x.cl, (h3.b.cell (p := ⟨b, o + k * 2, none⟩) lb).trans e0⟩)
      have HTk := (show Hid (gs.take (k + 1) = gs.take k ++ [g]) from by rw [List.take_add_one, hgk]; rfl)
      have hov := HM.out.1
      have HO := (show Hid (wr.drew.ownsRow w.heap.size 45 2 (.slice Av k cv) k (lgc ov)) from by have h := HLd.out.o; rw [hov] at h; exact h)
      clear hgk hin e0 e1 HG hlt hov
      obtain ⟨nm, L⟩ := g
      simp only at d0 d1 HCall HAft HTk hgl
      go_wp2_with fail
      go_region_law (first
        | (refine step_call1 enters8 rfl _ _ (by rfl) (.slice A2 L.length c2) (by rfl) ?_; with_reducible refine (HCall.out ()).mono ?_; rintro e wA ⟨⟨g, cap, rfl, rA⟩, bA⟩; refine ⟨_, rfl, ?_⟩; obtain ⟨ax, a0⟩ := HAft.out wA bA)
        | (refine step_append_lies _ (by rfl) _ _ _ (by rfl) w.heap.size 45 i0 (.agg #[.string ⟨#[]⟩, .slice none 0 0]) 2 40 Tryz.underlying22 hinf hz0 hz1 hz2 rfl (by omega) _ _ (lgc ov) (by rfl) ((T.own_below HO.out bA).alloc _) ⟨wA.heap.size, 0, none⟩ 1 1 [.string nm, .slice (some ⟨g, 0, none⟩) L.length cap] (by rfl) (by rfl) (World.news_of_block (cs := #[.string nm, .slice (some ⟨g, 0, none⟩) L.length cap]) (t := 45) (fr := (0, 0)) (heap_alloc_new wA _)) (by intro u hu; simp only [List.mem_cons, List.not_mem_nil, or_false] at hu; rcases hu with rfl | rfl <;> rfl) (by omega) (by unfold maxLen; omega) (by omega) (by have q1 := bA.size; have q2 : wr.drew.heap.size = wr.heap.size := rfl; rw [World.size_alloc]; omega) (wA.heap.size + 1) (by simp) ?_; intro g3 cap3 w5 hown hgrow hat hltg))
      all_goals
        have HN := (show Hid (LgI w w5 (.slice (some ⟨b, o, none⟩) gs.length c) (.slice (some ⟨g3, 0, none⟩) (k + 1) cap3) (ov ++ [((nm, L), g, cap)])) from by
          have q2 : wr.drew.heap.size = wr.heap.size := rfl
          have hA : Below wr.heap.size wr wA := hD.trans (by rw [← q2]; exact bA)
          exact HW.out.push hA rA hgrow (by rw [HM.out.1]; exact hown))
        clear hown hgrow hat hltg rA bA ax a0 HCall HAft HO HLd HW hD
        go_wp2_with fail
        go_roundw
        case rel => exact ⟨k + 1, _, _, _, by omega, by go_num, rfl, ⟨by rw [List.length_append, HM.out.1]; rfl, by rw [List.map_append, HM.out.2, HTk.out]; rfl⟩, HN⟩
        case measure => simp [intOf]; omega
    · obtain rfl : k = gs.length := by omega
      have hov := HM.out.1
      have hO := HW.out.o
      rw [hov] at hO
      have hsz : w.heap.size ≤ wr.heap.size := HW.out.b.size
      have HMm := (show Hid (ov.map (·.1) = gs) from by have := HM.out.2; rw [List.take_length] at this; exact this)
      have HWl := (show Hid (LgI w (wr.alloc (.cells #[.string ⟨#[115, 112, 97, 114, 101, 32, 114, 111, 111, 109]⟩, .slice none 0 0] 45)) (.slice A gs.length c) (.slice Av gs.length cv) ov) from HW.out.later (below_box _ _))
      have HL := (show Hid (ov.length = gs.length) from hov)
      clear HG hlt hov HM HW
      go_wp2_with (at_builtin; refine wpList_append_lies _ rfl _ _ 22 rfl w.heap.size 45 i0 (.agg #[.string ⟨#[]⟩, .slice none 0 0]) 2 40 Tryz.underlying22 hinf hz0 hz1 hz2 rfl (by decide) _ _ _ rfl (hO.alloc _) ⟨wr.heap.size, 0, none⟩ 1 1 [.string ⟨#[115, 112, 97, 114, 101, 32, 114, 111, 111, 109]⟩, .slice none 0 0] rfl rfl ?c1 ?c2 (by decide) ?c3 ?c4 ?c5 (wr.heap.size + 1) (by simp) ?_)
      case c1 => exact World.news_of_block (cs := #[.string ⟨#[115, 112, 97, 114, 101, 32, 114, 111, 111, 109]⟩, .slice none 0 0]) (t := 45) (fr := (0, 0)) (heap_alloc_new wr _)
      case c2 => intro u hu; simp only [List.mem_cons, List.not_mem_nil, or_false] at hu; rcases hu with rfl | rfl <;> rfl
      case c3 => unfold maxLen; omega
      case c4 => omega
      case c5 => rw [World.size_alloc]; omega
      intro g3 cap3 w5 hown hgrow hat hltg
      have hcap : gs.length + 1 ≤ cap3 := by
        rcases hown.2 with ⟨q, _⟩ | ⟨g2, c2, cur, q, _, _, h3, _⟩
        · cases q
        · cases q; exact h3
      have HF := (show Hid (GX w5 (w.heap.size + 1) (.slice none 0 0) ∧ LgB w w5 g3 cap3 ov) from by
        have h2 := HWl.out
        have key : ∀ (y : Le), T.LentR (wr.alloc (.cells #[.string ⟨#[115, 112, 97, 114, 101, 32, 114, 111, 111, 109]⟩, .slice none 0 0] 45)) w.heap.size y.2.1 y.2.2 y.1.2 → T.LentR w5 w.heap.size y.2.1 y.2.2 y.1.2 := fun y hy =>
          own_same (v := .slice (some ⟨y.2.1, 0, none⟩) (y.1.2.length + 1) y.2.2) hy fun k hk => hgrow.block k (World.ownsRow.lt hy k hk).2 (fun q => own_apart h2.o hy (by decide) q.symm hk)
        refine ⟨h2.y.same (hgrow.block _ h2.y.lt (fun e => h2.y.ne h2.o (by decide) e.symm rfl)), ?_, fun y hy => key y (h2.e y hy), h2.b.grown hgrow h2.b.size (fun k e => (h2.o.lt k e).1)⟩
        rw [HL.out]
        exact hown)
      have hf := HF.out.1.fz
      have hcl := HF.out.1.cl
      have z0 : (0 : Int) ≤ (gs.length : Int) := by omega
      have z1 : (gs.length : Int) ≤ (cap3 : Int) := by omega
      clear hown hgrow hat hltg hO HWl x0
      go_wp2_with fail
      refine ret_gx rfl rfl rfl (HF.out.1.set _) ?_
      have hb := HF.out.2
      have hk : (w5.setCell ⟨w.heap.size + 1, 0, none⟩ (.slice (some ⟨g3, 0, none⟩) gs.length cap3)).heap.size = w5.heap.size := by simp [World.setCell]
      have key : ∀ (j : Nat), j ≠ w.heap.size + 1 → (w5.setCell ⟨w.heap.size + 1, 0, none⟩ (.slice (some ⟨g3, 0, none⟩) gs.length cap3)).heap[j]? = w5.heap[j]? := fun j hj => Below.heap_setCell _ _ _ _ hj
      refine ⟨g3, cap3, ov, rfl, HMm.out, own_same hb.o fun j hj => key j (HF.out.1.ne hb.o (by decide) hj), fun y hy => ?_, hb.b.setCell (p := ⟨w.heap.size + 1, 0, none⟩) (by show w.heap.size ≤ w.heap.size + 1; omega) _⟩
      exact own_same (v := .slice (some ⟨y.2.1, 0, none⟩) (y.1.2.length + 1) y.2.2) (hb.e y hy) fun j hj => key j (HF.out.1.ne (hb.e y hy) (by decide) hj)
end Go.Proofs.YtokfgoepnfjafaaGreat.N

namespace Go.Proofs.YtokfgoepnfjafaaGreat.N
open Go.RowKit
open Go.Proofs.YtokfgoepnfjafaaGreat.T (below_box)
set_option maxRecDepth 100000 in
set_option maxHeartbeats 4000000 in
theorem keptq (A : Option Addr) (c g cap B : Nat) (L : List Nd) (hl : L.length * 64 ≤ 140737488351232) (w : World) (h : T.RdN w A L) (ho : T.LentR w B g cap L) :
    Calls Tryz.prog 16 #[.slice (some ⟨g, 0, none⟩) L.length cap, .slice A L.length c] w fun e w' => e = .returned (.bool true) ∧ ∃ m, w' = w.drewN m := by
  have HS : Hid (∀ _ : Unit, Calls Tryz.prog 26 #[.slice (some ⟨g, 0, none⟩) L.length cap, .slice A L.length c] w fun e w' => e = .returned (.bool true) ∧ ∃ m, w' = w.drewN m) := fun _ => sameq (some ⟨g, 0, none⟩) A cap c L (by omega) w ho.rd h
  have hcap := T.own_cap ho
  have HO := (show Hid (∀ w', Below w.heap.size w w' → T.NB w' g (L.length * 7) (T.zN (-77))) from fun w' hb => (ho.below hb).last)
  clear ho h
  have z0 : (0 : Int) ≤ (L.length : Int) := by omega
  have z1 : (L.length : Int) + 1 ≤ (cap : Int) := by omega
  have z2 : (L.length : Int) < (L.length : Int) + 1 := by omega
  have hq := T.node_eql (T.zN (-77)) (T.zN (-77))
  rw [T.ndE_refl] at hq
  generalize L.length = n at *
  go_enter Tryz.func16, Tryz.ntmps16
  go_wp2_with fail
  refine (HS.out ()).mono ?_
  rintro e w1 ⟨rfl, hb⟩
  obtain ⟨c0, c1, c2, c3, c4, c5, c6⟩ := HO.out w1 (by obtain ⟨m, rfl⟩ := hb; exact T.below_drewN (Below.refl _ _) _)
  have HB := (show Hid _ from hb)
  clear hb HS HO
  unfold T.zN at c0 c1 c2 c3 c4 c5 c6 hq
  dsimp only at c0 c1 c2 c3 c4 c5 c6
  go_wp2_with fail
  go_ret
  exact ⟨rfl, HB.out⟩
/-- While a grammar that was lent is held against what it was. -/
structure AtK (w0 w wr : World) (u1 u2 : Value) (A : Option Addr) (gs : List (ByteArray × List Nd)) (g cap : Nat) (ov : List Le) : Prop where
  b : Below w.heap.size w wr
  x1 : GX wr w.heap.size u1
  x2 : GX wr (w.heap.size + 1) u2
  l : LgB w0 wr g cap ov
  d : GrD wr A gs
theorem AtK.later {w0 w wr W' : World} {u1 u2 : Value} {A : Option Addr} {gs : List (ByteArray × List Nd)} {g cap : Nat} {ov : List Le} (h : AtK w0 w wr u1 u2 A gs g cap ov) (hb : Below wr.heap.size wr W') : AtK w0 w W' u1 u2 A gs g cap ov :=
  ⟨h.b.trans (hb.mono h.b.size), h.x1.below hb, h.x2.below hb, h.l.later hb, h.d.later hb⟩
set_option maxRecDepth 100000 in
set_option maxHeartbeats 8000000 in
theorem keptG_any {gs : List (ByteArray × List Nd)} {ov : List Le} (hm : ov.map (·.1) = gs) (hl : ∀ g ∈ gs, g.2.length * 64 ≤ 140737488351232) (hn : gs.length * 40 ≤ 140737488351232) {w0 w : World} {A : Option Addr} {c g cap : Nat} (h1 : LgB w0 w g cap ov) (h2 : GrD w A gs) :
    Calls Tryz.prog 11 #[.agg #[.slice (some ⟨g, 0, none⟩) gs.length cap], .agg #[.slice A gs.length c]] w fun e w' => e = .returned (.bool true) ∧ Below w.heap.size w w' := by
  have hov : ov.length = gs.length := by rw [← hm, List.length_map]
  have HA := (show Hid (AtK w0 w ((w.alloc (.cells #[.slice (some ⟨g, 0, none⟩) gs.length cap] 24)).alloc (.cells #[.slice A gs.length c] 24)) (.slice (some ⟨g, 0, none⟩) gs.length cap) (.slice A gs.length c) A gs g cap ov) from
    ⟨((Below.refl _ _).alloc (Nat.le_refl _) _).alloc (by rw [World.size_alloc]; omega) _, (GX.mk (heap_alloc_new w _)).below (below_box _ _), ⟨by have h := heap_alloc_new (w.alloc (.cells #[.slice (some ⟨g, 0, none⟩) gs.length cap] 24)) (.cells #[.slice A gs.length c] 24); rw [World.size_alloc] at h; exact h⟩, (h1.later (below_box _ _)).later (below_box _ _), (h2.later (below_box _ _)).later (below_box _ _)⟩)
  have hcap : gs.length + 1 ≤ cap := by rw [← hov]; exact T.own_cap h1.o
  have HG := (show Hid (∀ k, k < gs.length → ∃ x, ov[k]? = some x ∧ gs[k]? = some x.1 ∧ x ∈ ov ∧ x.1.2.length * 64 ≤ 140737488351232) from fun k hk => by
    obtain ⟨x, e⟩ : ∃ x, ov[k]? = some x := ⟨_, List.getElem?_eq_getElem (by omega)⟩
    have e2 : gs[k]? = some x.1 := by rw [← hm, List.getElem?_map, e]; rfl
    exact ⟨x, e, e2, List.mem_of_getElem? e, hl _ (List.mem_of_getElem? e2)⟩)
  have q1 := HA.out.x1.cl
  have q2 := HA.out.x2.cl
  have q3 := HA.out.l.last
  rw [hov] at q3
  have z0 : (0 : Int) ≤ (gs.length : Int) := by omega
  have z1 : (gs.length : Int) + 1 ≤ (cap : Int) := by omega
  have z2 : (gs.length : Int) < (gs.length : Int) + 1 := by omega
  clear hl hm h1 h2 hov hcap
  generalize gs.length = n at *
  go_enter Tryz.func11, Tryz.ntmps11
  go_wp2_with fail
  generalize (w.alloc (.cells #[.slice (some ⟨g, 0, none⟩) n cap] 24)).alloc (.cells #[.slice A n c] 24) = w1 at *
  go_wp2_with fail
  clear q1 q2 q3
  go_loopw [6] (fun t wr => ∃ k : Nat, k ≤ n ∧ t = .int .i64 k ∧ Hid (AtK w0 w wr (.slice (some ⟨g, 0, none⟩) n cap) (.slice A n c) A gs g cap ov)) (fun t _ => n - (intOf t).toNat)
  case atStart => exact ⟨0, by omega, by go_num, HA⟩
  case round =>
    obtain ⟨k, hk, rfl, HW⟩ := hrel
    clear HA
    have q1 := HW.out.x1.cl
    have q2 := HW.out.x2.cl
    by_cases hlt : k < n
    · obtain ⟨x, hx, hgx, hxm, hxl⟩ := HG.out k hlt
      obtain ⟨y0, y1⟩ := HW.out.l.cell hx
      obtain ⟨b2, o2, B2, d2, hA2, l2, x0, x1, r2⟩ := HW.out.d k _ hgx
      subst hA2
      have HS : Hid (∀ n, Calls Tryz.prog 16 #[.slice (some ⟨x.2.1, 0, none⟩) x.1.2.length x.2.2, .slice B2 x.1.2.length d2] (wr.drewN n) fun e w' => e = .returned (.bool true) ∧ ∃ m, w' = (wr.drewN n).drewN m) := fun n => keptq B2 d2 x.2.1 x.2.2 w0.heap.size x.1.2 hxl _ (r2.below (T.below_drewN (Below.refl _ _) _) (Nat.le_refl _)) ((HW.out.l.e x hxm).below (T.below_drewN (Below.refl _ _) _))
      have u0 : (0 : Int) ≤ (k : Int) := by omega
      have u1 : (k : Int) < (n : Int) := by omega
      clear HG r2 hx hgx hxm hxl z0 z1 z2
      generalize x.1.2.length = gl at *
      generalize x.1.1 = nm at *
      generalize x.2.1 = xb at *
      generalize x.2.2 = xc at *
      go_wp2_with fail
      go_quiet ((go_at_call 16; exact Calls.quiet_of (HS.out _)))
      have HW2 := (show Hid (AtK w0 w (wr.drewN nq) (.slice (some ⟨g, 0, none⟩) n cap) (.slice (some ⟨b2, o2, none⟩) n c) (some ⟨b2, o2, none⟩) gs g cap ov) from HW.out.later (T.below_drewN (Below.refl _ _) _))
      generalize wr.drewN nq = w2 at *
      clear HW q1 q2 y0 y1 x0 x1
      go_wp2_with fail
      go_roundw
      case rel => exact ⟨k + 1, by omega, by go_num, HW2⟩
      case measure => simp [intOf]; omega
    · obtain rfl : k = n := by omega
      clear HG
      go_wp2_with fail
      go_ret
      exact ⟨rfl, HW.out.b⟩
end Go.Proofs.YtokfgoepnfjafaaGreat.N

namespace Go.Proofs.YtokfgoepnfjafaaGreat.N
open Go.RowKit Go.Maps
open Go.Proofs.YtokfgoepnfjafaaGreat.T
/-- While a grammar is lent: its box, the lent one's, and what was lent. -/
structure LyS (w0 wr : World) (wb k : Nat) (u1 u2 : Value) (g cap : Nat) (ov : List Le) : Prop where
  l : LgB w0 wr g cap ov
  x1 : GX wr wb u1
  x2 : GX wr k u2
theorem LyS.later {w0 wr W' : World} {wb k : Nat} {u1 u2 : Value} {g cap : Nat} {ov : List Le} (h : LyS w0 wr wb k u1 u2 g cap ov) (hb : Below wr.heap.size wr W') : LyS w0 W' wb k u1 u2 g cap ov := ⟨h.l.later hb, h.x1.below hb, h.x2.below hb⟩
theorem LyS.box {w0 w2 wr : World} {wb k : Nat} {u1 u2 : Value} {g cap : Nat} {ov : List Le} (h : LyS w0 w2 wb k u1 u2 g cap ov) (hb : Below w2.heap.size w2 wr) : wr.cell? ⟨wb, 0, none⟩ = some u1 ∧ wr.cell? ⟨k, 0, none⟩ = some u2 := ⟨(h.later hb).x1.cl, (h.later hb).x2.cl⟩
end Go.Proofs.YtokfgoepnfjafaaGreat.N
