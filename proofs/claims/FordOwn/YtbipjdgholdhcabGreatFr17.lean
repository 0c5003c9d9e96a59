/- DERIVED. Plain mathematics and walks, laid together (17). -/
import Derived.Test.YtbipjdgholdhcabGreatFr16
namespace Go.Proofs.YtbipjdgholdhcabGreat.N
open Go.RowKit Go.Maps
open Go.Proofs.YtbipjdgholdhcabGreat.T

open U (own_get own_slice below_grown info_split)
set_option maxRecDepth 100000 in
set_option maxHeartbeats 128000000 in
/-- The document: the heads of a rule. -/
theorem headsD_any {gs : GL} (hR : RtG gs) (nb : List Bool) (hlo : nb.length = gs.length) {r : Nat} {gn : ByteArray} {L : List Nd} (hg : gs[r]? = some (gn, L)) (A : Option Addr) (c gI ci : Nat) (w : World) (hp : GI w A gs) (hr : RdB w gI nb) :
    Calls Tryz.prog 49 #[.agg #[.slice A gs.length c], .int .i64 (r : Int), .slice (some ⟨gI, 0, none⟩) gs.length ci] w fun e w' => (∃ (v : Value) (out : List Bool), e = .returned v ∧ out.length = gs.length ∧ (∀ (q : Nat), out[q]? = some true ↔ hbA (kdR L) (nuA (kdR L) (lkB gs nb) L) (fdG gs) L (L.length - 1) q = true) ∧ w'.ownsRow w.heap.size 4 1 v gs.length (out.map Value.bool)) ∧ Below w.heap.size w w' := by
  have hn := hR.n2
  have hm := List.mem_of_getElem? hg
  have hrl : r < gs.length := (List.getElem?_eq_some_iff.1 hg).1
  have hrt : Rt L := rt_of (hR.ck _ hm)
  have hpos : 0 < L.length := body_pos hR hm
  have hgl : L.length ≤ 2048 := by have := hrt.len; omega
  have hsz : ∀ n ∈ L, n.tx.size ≤ 140737488355328 := (hp.t _ hm).2.2
  have hfd : ∀ n ∈ L, n.op = 6 → ∃ i, fdG gs n.tx = some i := fun n q h6 => hR.dn.c _ hm n q h6
  have HP := (show Hid (GI w A gs) from hp)
  have hp2 := hp
  obtain ⟨b, o, A3, c3, rfl, lb, _, x1, r2⟩ := hp.d r _ hg
  obtain ⟨gp, op, rfl, lp, cl⟩ := r2 (by rintro rfl; simp at hpos)
  obtain ⟨A, hA⟩ : ∃ A : Option Addr, A = some ⟨b, o, none⟩ := ⟨_, rfl⟩
  obtain ⟨may, hmay⟩ : ∃ may, may = nuA (kdR L) (lkB gs nb) L := ⟨_, rfl⟩
  obtain ⟨w1, hw1⟩ : ∃ w1, w1 = w.alloc (.cells #[.slice (some ⟨b, o, none⟩) gs.length c] 24) := ⟨_, rfl⟩
  have HE1 := (show Hid (w.alloc (.cells #[.slice (some ⟨b, o, none⟩) gs.length c] 24) = w1) from hw1.symm)
  have hs1 : w1.heap.size = w.heap.size + 1 := by rw [hw1, World.size_alloc]
  have hg1 : GX w1 w.heap.size (.slice (some ⟨b, o, none⟩) gs.length c) := by rw [hw1]; exact GX.mk (heap_alloc_new w _)
  have hb1 : Below w.heap.size w w1 := by rw [hw1]; exact below_box _ _
  have q1 := hg1.cl
  have x1' := (hb1.cell (p := ⟨b, o + r * 2 + 1, none⟩) lb).trans x1
  have HMay := (show Hid (may = nuA (kdR L) (lkB gs nb) L) from hmay)
  have HPd := (show Hid (∀ _ : Unit, Calls Tryz.prog 61 #[.agg #[.slice (some ⟨b, o, none⟩) gs.length c], .slice (some ⟨gp, op, none⟩) L.length c3, .slice (some ⟨gI, 0, none⟩) gs.length ci] w1 fun e w' => (∃ gM cM, e = .returned (.slice (some ⟨gM, 0, none⟩) L.length cM) ∧ gM < w'.heap.size ∧ ∀ i, i < L.length → w'.cell? ⟨gM, i, none⟩ = some (.bool (may i))) ∧ Below w1.heap.size w1 w') from fun _ => by
    have h := nothing10_any hrt hsz hfd nb hlo (some ⟨b, o, none⟩) (some ⟨gp, op, none⟩) c c3 gI ci w1 (hp2.later hb1) (fun _ => ⟨gp, op, rfl, Nat.lt_of_lt_of_le lp hb1.size, cl.same (hb1.block gp lp)⟩) (hr.later hb1)
    refine h.mono ?_
    rintro e w' ⟨⟨v, rfl, ho⟩, bb⟩
    obtain ⟨gM, cM, rfl, _, l2, _, _⟩ := own_get ho (j := 0) (x := .bool (nuA (kdR L) (lkB gs nb) L 0)) (by rw [List.getElem?_map, List.getElem?_range hpos]; rfl)
    refine ⟨⟨gM, cM, rfl, l2, fun i hi => ?_⟩, bb⟩
    obtain ⟨g', c', e2, _, _, x, _⟩ := own_get ho (j := i) (x := .bool (nuA (kdR L) (lkB gs nb) L i)) (by rw [List.getElem?_map, List.getElem?_range hi]; rfl)
    have e1 : gM = g' := by injection e2 with e1; injection e1 with e1; injection e1
    subst e1
    rw [hmay]
    exact x)
  have HBg := (show Hid (∀ W, Below w1.heap.size w1 W → Calls Tryz.prog 62 #[.slice (some ⟨gp, op, none⟩) L.length c3] W fun e w' => (∃ gB cB, e = .returned (.slice (some ⟨gB, 0, none⟩) L.length cB) ∧ gB < w'.heap.size ∧ ∀ i, i < L.length → w'.cell? ⟨gB, i, none⟩ = some (.int .i64 (pt L i).1)) ∧ Below W.heap.size W w') from fun W hW => by
    have hbW := hb1.trans (hW.mono hb1.size)
    have h := begins9_any L (some ⟨gp, op, none⟩) c3 hrt hsz W (fun _ => ⟨gp, op, rfl, Nat.lt_of_lt_of_le lp hbW.size, cl.same (hbW.block gp lp)⟩)
    refine h.mono ?_
    rintro e w' ⟨⟨v, rfl, ho⟩, bb⟩
    obtain ⟨gB, cB, rfl, _, l2, _, _⟩ := own_get ho (j := 0) (x := .int .i64 (pt L 0).1) (bgc_get hpos)
    refine ⟨⟨gB, cB, rfl, l2, fun i hi => ?_⟩, bb⟩
    obtain ⟨g', c', e2, _, _, x, _⟩ := own_get ho (j := i) (x := .int .i64 (pt L i).1) (bgc_get hi)
    have e1 : gB = g' := by injection e2 with e1; injection e1 with e1; injection e1
    subst e1
    exact x)
  have HMk := (show Hid (∀ (W : World) (B m : Nat), m ≤ 2048 → B ≤ W.heap.size → ∃ w2, (Instr.makeSlice 82 (.int .i64 (m : Int)) (.int .i64 (m : Int))).run Tryz.prog W = .ok (.slice (some ⟨W.heap.size, 0, none⟩) m m) w2 ∧ w2.ownsRow B 4 1 (.slice (some ⟨W.heap.size, 0, none⟩) m m) m ((List.replicate m false).map Value.bool) ∧ W.grownBy w2 none) from fun W B m h1 h2 => by
    obtain ⟨i0, hinf, hz0, hz1, hz2⟩ := info_split Tryz.info4
    obtain ⟨w2, hmk, ho, hg⟩ := run_make_full (P := Tryz.prog) W B 82 4 i0 (.bool false) 1 Tryz.underlying82 hinf hz0 hz1 .i64 .i64 m (by rw [hz2]; omega) (by unfold maxLen; omega) h2
    refine ⟨w2, hmk, ?_, hg⟩
    have e : (madeCells (Value.cells (.bool false)) (m * 1)).toList = List.replicate m (Value.bool false) := by rw [Nat.mul_one]; exact toList_madeCells_one _ _
    rw [e] at ho
    rw [List.map_replicate]
    exact ho)
  have HRt := (show Hid (Rt L ∧ Kds (kdR L) L ∧ (∀ n ∈ L, alE n = 0) ∧ 0 < L.length ∧ L.length ≤ 2048 ∧ gs.length ≤ 200) from ⟨hrt, kds_R hrt, fun n q => by
    obtain ⟨k, hk⟩ := List.getElem?_of_mem q
    exact (er_ok hk (hrt.each k (List.getElem?_eq_some_iff.1 hk).1)).al, hpos, hgl, hn⟩)
  have HCl := (show Hid (NdL w gp op L ∧ gp < w.heap.size) from ⟨cl, lp⟩)
  have HFd := (show Hid (∀ n ∈ L, n.op = 6 → ∃ i, fdG gs n.tx = some i) from hfd)
  have HNu := (show Hid (∀ (W : World) (s : ByteArray), Below w.heap.size w W → Calls Tryz.prog 63 #[.agg #[.slice (some ⟨b, o, none⟩) gs.length c], .string s] W fun e w' => e = .returned (.int .i64 (fdN gs s)) ∧ Below W.heap.size W w') from fun W s hW => number_any gs _ c s W (HP.out.later hW))
  have HX1 := (show Hid (GX w1 w.heap.size (.slice (some ⟨b, o, none⟩) gs.length c) ∧ Below w.heap.size w w1 ∧ w1.heap.size = w.heap.size + 1) from ⟨hg1, hb1, hs1⟩)
  have hjl0 : ∃ jl : Nat, L.length = jl + 1 := ⟨L.length - 1, by omega⟩
  obtain ⟨jl, hjl⟩ := hjl0
  have hsub : (L.length : Int) - 1 = (jl : Int) := by omega
  have hjl2 : L.length - 1 = jl := by omega
  have z0 : (0 : Int) ≤ (r : Int) := by omega
  have z1 : (r : Int) < (gs.length : Int) := by omega
  have z2 : (0 : Int) ≤ (jl : Int) := by omega
  have z3 : (jl : Int) < (L.length : Int) := by omega
  have HJl := (show Hid (L.length - 1 = jl) from hjl2)
  clear hjl hjl2 hpos
  clear hg hm hrl hrt hsz hfd hp2 hp lb x1 r2 lp cl hA hmay hw1 hs1 hg1 hb1 hr hlo hR HP
  go_enter Tryz.func49, Tryz.ntmps49
  go_wp2_with (rw [HE1.out])
  refine (HPd.out ()).mono ?_
  rintro e w2 ⟨⟨gM, cM, rfl, lM, hM⟩, b2⟩
  have HMc := (show Hid (gM < w2.heap.size ∧ (∀ i, i < L.length → w2.cell? ⟨gM, i, none⟩ = some (.bool (may i))) ∧ Below w1.heap.size w1 w2) from ⟨lM, hM, b2⟩)
  clear HPd lM hM b2 HE1 q1 x1'
  go_wp2_with fail
  refine (HBg.out w2 HMc.out.2.2).mono ?_
  rintro e w3 ⟨⟨gB, cB, rfl, lB, hB⟩, b3⟩
  obtain ⟨w4, hmk4, ho4, hg4⟩ := HMk.out w3 w3.heap.size gs.length (by have := HRt.out.2.2.2.2.2; omega) (Nat.le_refl _)
  have hs4 : w3.heap.size < w4.heap.size := (ho4.lt _ rfl).2
  obtain ⟨w5, hmk5, ho5, hg5⟩ := HMk.out w4 w3.heap.size L.length HRt.out.2.2.2.2.1 (Nat.le_of_lt hs4)
  have b34 : Below w3.heap.size w3 w4 := below_grown (Below.refl _ _) hg4 (fun k e => by cases e)
  have b45 : Below w4.heap.size w4 w5 := below_grown (Below.refl _ _) hg5 (fun k e => by cases e)
  have b35 := b34.trans (b45.mono b34.size)
  have HS5 := (show Hid (HeS w w5 (.slice (some ⟨b, o, none⟩) gs.length c) gs L may gM gB w3.heap.size w4.heap.size w3.heap.size (List.replicate L.length false) (List.replicate gs.length false)) from by
    obtain ⟨lM, hM, b2⟩ := HMc.out
    obtain ⟨hg1, hb1, hs1⟩ := HX1.out
    have b13 := b2.trans (b3.mono b2.size)
    refine ⟨(hb1.trans (b13.mono hb1.size)).trans (b35.mono (hb1.trans (b13.mono hb1.size)).size), (hg1.below b13).below b35, fun i hi => ?_, fun i hi => ?_, U.own_below ho4 b45, ho5, List.length_replicate, List.length_replicate, Nat.lt_of_lt_of_le lM b3.size, lB, Nat.ne_of_lt hs4, by have := b13.size; omega, b35.size⟩
    · exact (b35.cell (p := ⟨gM, i, none⟩) (Nat.lt_of_lt_of_le lM b3.size)).trans ((b3.cell (p := ⟨gM, i, none⟩) lM).trans (hM i hi))
    · exact (b35.cell (p := ⟨gB, i, none⟩) lB).trans (hB i hi))
  have q5 := HS5.out.x.cl
  have q3 := (show w3.cell? ⟨w.heap.size, 0, none⟩ = some (.slice (some ⟨b, o, none⟩) gs.length c) from by
    obtain ⟨lM, hM, b2⟩ := HMc.out
    exact ((HX1.out.1.below b2).below b3).cl)
  have f5 := ho5.frozenAt jl
  have c5 := (show w5.cell? ⟨w4.heap.size, jl, none⟩ = some (.bool false) from by
    obtain ⟨g5, cc5, e5, _, _, c5, _⟩ := own_get ho5 (j := jl) (x := .bool false) (by rw [List.getElem?_map, List.getElem?_replicate, if_pos (by omega)]; rfl)
    have eg : w4.heap.size = g5 := by injection e5 with e1; injection e1 with e1; injection e1
    rw [eg]
    exact c5)
  have HS := (show Hid (HeS w (w5.setCell ⟨w4.heap.size, jl, none⟩ (.bool true)) (.slice (some ⟨b, o, none⟩) gs.length c) gs L may gM gB w3.heap.size w4.heap.size w3.heap.size ((List.replicate L.length false).set jl true) (List.replicate gs.length false)) from HS5.out.want jl true)
  have HD0 := (show Hid (HdI gs may L L.length ((List.replicate L.length false).set jl true) (List.replicate gs.length false)) from by
    have h := HdI.start (gs := gs) (may := may) HRt.out.2.1 HRt.out.2.2.2.1
    rw [HJl.out] at h
    exact h)
  clear HJl HMc HX1 HBg HMk lB hB b3 ho4 ho5 hg4 hg5 b34 b45 b35 HS5 hs4
  go_wp2_with fail
  clear hmk4 hmk5 q3 q5 f5 c5
  generalize w3.heap.size = gO at *
  generalize w4.heap.size = gT at *
  obtain ⟨B, hB⟩ : ∃ B, B = gO := ⟨_, rfl⟩
  have HS := (show Hid (HeS w (w5.setCell ⟨gT, jl, none⟩ (.bool true)) (.slice (some ⟨b, o, none⟩) gs.length c) gs L may gM gB gO gT B ((List.replicate L.length false).set jl true) (List.replicate gs.length false)) from by rw [hB]; exact HS)
  clear hB
  go_loopw [12] (fun t wr => ∃ (k : Nat) (want out : List Bool), k ≤ L.length ∧ t = .int .i64 ((k : Int) - 1) ∧ Hid (HeS w wr (.slice (some ⟨b, o, none⟩) gs.length c) gs L may gM gB gO gT B want out) ∧ Hid (HdI gs may L k want out)) (fun t _ => (intOf t + 1).toNat)
  case atStart => exact ⟨L.length, _, _, Nat.le_refl _, by rw [hsub], HS, HD0⟩
  case round =>
    obtain ⟨k, want, out, hk, rfl, HW, HD⟩ := hrel
    clear HS HD0
    by_cases hk0 : k = 0
    · subst hk0
      have HFn := (show Hid (∀ (q : Nat), out[q]? = some true ↔ hbA (kdR L) (nuA (kdR L) (lkB gs nb) L) (fdG gs) L (L.length - 1) q = true) from fun q => by
        have h := HD.out.fin HRt.out.2.1 HRt.out.2.2.1 HRt.out.2.2.2.1 q
        rw [HMay.out] at h
        exact h)
      have HO := (show Hid (wr.ownsRow w.heap.size 4 1 (.slice (some ⟨gO, 0, none⟩) gs.length gs.length) gs.length (out.map Value.bool) ∧ out.length = gs.length ∧ Below w.heap.size w wr) from ⟨T.own_base HW.out.o (by have := HW.out.n.2.2.2.1; omega), HW.out.lo, HW.out.b⟩)
      rw [show ((0 : Nat) : Int) - 1 = -1 from rfl]
      clear HW HD HNu HFd HCl HRt HMay
      go_wp2_with fail
      go_ret
      exact ⟨⟨_, out, rfl, HO.out.2.1, HFn.out, HO.out.1⟩, HO.out.2.2⟩
    · obtain ⟨i, rfl⟩ : ∃ i, k = i + 1 := ⟨k - 1, by omega⟩
      rw [show ((i + 1 : Nat) : Int) - 1 = (i : Int) from by omega]
      have hil : i < L.length := by omega
      obtain ⟨n, hn⟩ : ∃ n, L[i]? = some n := ⟨_, List.getElem?_eq_getElem hil⟩
      have HNn := (show Hid (L[i]? = some n) from hn)
      obtain ⟨hop, _⟩ := al_facts (HRt.out.2.2.1 n (List.mem_of_getElem? hn))
      obtain ⟨d0, d1, d2, d3, d4, d5, d6⟩ := (HCl.out.1.same (HW.out.b.block gp HCl.out.2)) i n hn
      obtain ⟨w2, hw2⟩ : ∃ w2, w2 = wr.alloc (ndO n) := ⟨_, rfl⟩
      have HE2 := (show Hid (wr.alloc (.cells #[.int .i64 n.op, .int .i64 n.nn, .string n.tx, .int .u64 n.s0, .int .u64 n.s1, .int .u64 n.s2, .int .u64 n.s3] 57) = w2) from hw2.symm)
      have HN2 := (show Hid (NX w2 wr.heap.size n) from by rw [hw2]; exact ⟨heap_alloc_new wr _⟩)
      have hb2 : Below wr.heap.size wr w2 := by rw [hw2]; exact below_box _ _
      have HW2 := (show Hid (HeS w w2 (.slice (some ⟨b, o, none⟩) gs.length c) gs L may gM gB gO gT B want out) from HW.out.later hb2)
      obtain ⟨hb, hhb⟩ : ∃ hb, hb = wr.heap.size := ⟨_, rfl⟩
      have HHb := (show Hid (hb ≠ gT) from by have := (HW.out.t.lt gT rfl).2; show _ ≠ _; omega)
      have HHo := (show Hid (hb ≠ gO) from by have := (HW.out.o.lt gO rfl).2; show _ ≠ _; omega)
      have n0 : w2.cell? ⟨wr.heap.size, 0, none⟩ = some (.int .i64 n.op) := HN2.out.nb.c0
      have n1 : w2.cell? ⟨wr.heap.size, 1, none⟩ = some (.int .i64 n.nn) := HN2.out.nb.c1
      have n2 : w2.cell? ⟨wr.heap.size, 2, none⟩ = some (.string n.tx) := HN2.out.nb.c2
      have HNb0 := (show Hid (hb < w2.heap.size ∧ w2.cell? ⟨hb, 0, none⟩ = some (.int .i64 n.op)) from by rw [hhb]; exact ⟨HN2.out.lt, n0⟩)
      have q2 := HW2.out.x.cl
      obtain ⟨wb, hwb⟩ : ∃ wb, want[i]? = some wb := ⟨_, List.getElem?_eq_getElem (by rw [HW2.out.lw]; exact hil)⟩
      have HWi := (show Hid (wb = true ↔ Wh may L i) from by
        have h := HD.out.here HRt.out.2.1
        rw [hwb] at h
        rw [← h]
        exact ⟨fun e => by rw [e], fun e => Option.some.inj e⟩)
      obtain ⟨gt2, ct2, et2, _, _, xw, _⟩ := own_get HW2.out.t (j := i) (x := .bool wb) (by rw [List.getElem?_map, hwb]; rfl)
      have egt : gT = gt2 := by injection et2 with e1; injection e1 with e1; injection e1
      clear et2
      subst egt
      have y0 : (0 : Int) ≤ (i : Int) := by omega
      have y1 : (i : Int) < (L.length : Int) := by omega
      obtain ⟨mm, hmm⟩ : ∃ mm, mm = arN n.op := ⟨_, rfl⟩
      have HKm := (show Hid (mm = arN n.op) from hmm)
      have HKs := (show Hid (Kds (kdR L) L) from HRt.out.2.1)
      have HLt := (show Hid (i < L.length) from hil)
      have HKi := (show Hid (∀ (W : World) (wa ou : List Bool), HeS w W (.slice (some ⟨b, o, none⟩) gs.length c) gs L may gM gB gO gT B wa ou → Calls Tryz.prog 64 #[.slice (some ⟨gp, op, none⟩) L.length c3, .slice (some ⟨gB, 0, none⟩) L.length cB, .int .i64 (i : Int)] W fun e w' => (∃ A4 c4, e = .returned (.slice A4 mm c4) ∧ ∀ (t j : Nat), (kdR L i)[t]? = some j → ∃ gK, A4 = some ⟨gK, 0, none⟩ ∧ W.heap.size ≤ gK ∧ gK < w'.heap.size ∧ w'.cell? ⟨gK, t, none⟩ = some (.int .i64 (j : Int))) ∧ Below W.heap.size W w') from fun W wa ou hW => by
        have h := kids_any L gp op c3 gB cB i HRt.out.2.2.2.2.1 HLt.out (fun i hi => HRt.out.1.each i hi) W (HCl.out.1.same (hW.b.block gp HCl.out.2)) (Nat.lt_of_lt_of_le HCl.out.2 hW.b.size) hW.r
        have e : lastc ((run L i).take (arN (T.opAt L i))).reverse = (kdR L i).map fun j : Nat => Value.int .i64 (j : Int) := by
          unfold lastc kdR
          rw [List.map_map]
          rfl
        rw [e, op_of HNn.out, ← HKm.out] at h
        refine h.mono ?_
        rintro e w' ⟨⟨v, rfl, ho⟩, bb⟩
        obtain ⟨A4, c4, rfl⟩ := own_slice ho
        refine ⟨⟨A4, c4, rfl, fun t j hj => ?_⟩, bb⟩
        obtain ⟨gK, cK, eK, l1, l2, xK, _⟩ := own_get ho (j := t) (x := .int .i64 (j : Int)) (by rw [List.getElem?_map, hj]; rfl)
        injection eK with eK1 _ _
        exact ⟨gK, eK1, l1, l2, xK⟩)
      clear hn hw2 hb2 HW HN2 hwb hmm hk0 hil
      have HHe := (show Hid (hb = wr.heap.size) from hhb)
      clear hhb
      cases wb with
      | false =>
        have HD2 := (show Hid (HdI gs may L i want out) from HD.out.skip (fun p q => by have := HWi.out.2 q; cases this) (fun p q => by have := HWi.out.2 q; cases this))
        clear HD HKi HNu HFd HWi HNn HKm HKs HLt HNb0 HHb HHo HCl HRt HMay
        go_wp2_with (rw [HE2.out])
        go_roundw
        case rel => exact ⟨i, want, out, by omega, by go_num, HW2, HD2⟩
        case measure => simp [intOf] <;> omega
      | true =>
        have HWi := (show Hid (Wh may L i) from HWi.out.1 rfl)
        clear HCl HRt HMay
        by_cases c14 : n.op = 14
        · by_cases cz : n.nn = 0
          · have t14 : (n.op == 14) = true := by rw [c14]; rfl
            have tz : (n.nn == 0) = true := by rw [cz]; rfl
            have hc : (n.op = 14 ∨ n.op = 16) ∧ n.nn = 0 := ⟨.inl c14, cz⟩
            have HC := (show Hid ((n.op = 14 ∨ n.op = 16) ∧ n.nn = 0) from hc)
            have H6 := (show Hid (n.op ≠ 6) from by show _ ≠ _; omega)
            have H7 := (show Hid (n.op ≠ 7) from by show _ ≠ _; omega)
            clear hc c14 cz
            have HD2 := (show Hid (HdI gs may L i want out) from HD.out.skip (fun p _ => by unfold stB; rw [HNn.out]; simp [HC.out]) (fun q _ => by unfold clB; rw [HNn.out]; simp; intro e; have := HC.out.1; omega))
            clear HD HKi HNu HFd HWi HNn HC HKm HKs HLt HNb0 HHb HHo
            go_wp2_with (rw [HE2.out])
            go_roundw
            case rel => exact ⟨i, want, out, by omega, by go_num, HW2, HD2⟩
            case measure => simp [intOf] <;> omega
          · have t14 : (n.op == 14) = true := by rw [c14]; rfl
            have tz : (n.nn == 0) = false := by rw [beq_eq_false_iff_ne]; exact cz
            have hc : ¬((n.op = 14 ∨ n.op = 16) ∧ n.nn = 0) := fun q => cz q.2
            have HC := (show Hid (¬((n.op = 14 ∨ n.op = 16) ∧ n.nn = 0)) from hc)
            have H6 := (show Hid (n.op ≠ 6) from by show _ ≠ _; omega)
            have H7 := (show Hid (n.op ≠ 7) from by show _ ≠ _; omega)
            clear hc c14 cz
            have HCut := (show Hid (¬((n.op = 14 ∨ n.op = 16) ∧ n.nn = 0)) from HC.out)
            have HWh := (show Hid (Wh may L i) from HWi.out)
            have t6 : (n.op == 6) = false := by rw [beq_eq_false_iff_ne]; exact H6.out
            have HK0 := (show Hid (HkI gs may L i n 0 want out) from HkI.quiet HD.out HNn.out H6.out)
            have HNb := HNb0
            have h7 : n.op ≠ 7 := H7.out
            clear HNu HFd HWi HD HC H6 H7
            go_wp2_with (rw [HE2.out])
            clear HE2 n1 n2 xw
            refine (HKi.out _ want out HW2.out).mono ?_
            rintro e w4 ⟨⟨A4, c4, rfl, hk4⟩, b4⟩
            have HF0 := (show Hid (HfS w w4 (.slice (some ⟨b, o, none⟩) gs.length c) gs L may gM gB gO gT B want out A4 hb i n) from ⟨HW2.out.later b4, fun t j hj => by
              obtain ⟨gK, e1, e2, e3, e4⟩ := hk4 t j hj
              refine ⟨gK, e1, e3, fun e => ?_, e4⟩
              have := (HW2.out.t.lt gT rfl).2
              omega, (b4.cell (p := ⟨hb, 0, none⟩) HNb.out.1).trans HNb.out.2, Nat.lt_of_lt_of_le HNb.out.1 b4.size, HHb.out⟩)
            clear hk4 b4
            rw [← HHe.out]
            clear HHe
            clear HW2 HNb HNb0 HKi n0
            go_wp2_with fail
            have HLn := (show Hid ((kdR L i).length = mm ∧ Kds (kdR L) L ∧ i < L.length ∧ mm ≤ 2) from ⟨by rw [HKs.out.n i n HNn.out, ← HKm.out], HKs.out, HLt.out, by rw [HKm.out]; exact arN_le _⟩)
            go_loopw [15] (fun t wr => ∃ (m : Nat) (wa : List Bool), m ≤ mm ∧ t = .int .i64 (m : Int) ∧ Hid (HfS w wr (.slice (some ⟨b, o, none⟩) gs.length c) gs L may gM gB gO gT B wa out A4 hb i n) ∧ Hid (HkI gs may L i n m wa out)) (fun t _ => mm - (intOf t).toNat)
            case atStart => exact ⟨0, want, by omega, by go_num, HF0, HK0⟩
            case round =>
              obtain ⟨m, wa, hmm, rfl, HW4, HKk⟩ := hrel
              clear HF0 HK0
              by_cases hlm : m < mm
              · obtain ⟨j, hj⟩ : ∃ j, (kdR L i)[m]? = some j := ⟨_, List.getElem?_eq_getElem (by rw [HLn.out.1]; exact hlm)⟩
                have hjm := List.mem_of_getElem? hj
                have hji := HLn.out.2.1.lt i j HLn.out.2.2.1 hjm
                have hjl : j < L.length := by have := HLn.out.2.2.1; omega
                have hm2 : mm ≤ 2 := HLn.out.2.2.2
                have HJ := (show Hid ((kdR L i)[m]? = some j) from hj)
                have HKd := (show Hid (Kds (kdR L) L ∧ i < L.length) from ⟨HLn.out.2.1, HLn.out.2.2.1⟩)
                obtain ⟨HX, hxj⟩ : ∃ b, wa[j]? = some b := ⟨_, List.getElem?_eq_getElem (by rw [HW4.out.s.lw]; exact hjl)⟩
                have HXj := (show Hid (wa[j]? = some HX) from hxj)
                obtain ⟨gK, rfl, xk⟩ := HW4.out.row hj
                have xn := HW4.out.n0
                have z0 : (0 : Int) ≤ (m : Int) := by omega
                have z1 : (m : Int) < (mm : Int) := by omega
                have z2 : (0 : Int) ≤ (j : Int) := by omega
                have z3 : (j : Int) < (L.length : Int) := by omega
                clear hj hjm hxj
                have t7 : (n.op != 7) = true := by rw [bne, beq_eq_false_iff_ne.2 h7]; rfl
                have HPk := (show Hid (pkB may L i n m = true) from by show _ = _; unfold pkB; rw [decide_eq_true h7]; rfl)
                clear h7
                have HW5 := (show Hid (HfS w (wr.drew.setCell ⟨gT, j, none⟩ (.bool true)) (.slice (some ⟨b, o, none⟩) gs.length c) gs L may gM gB gO gT B (wa.set j true) out (some ⟨gK, 0, none⟩) hb i n) from (HW4.out.drew).bit j _)
                have HK5 := (show Hid (HkI gs may L i n (m + 1) (wa.set j true) out) from by show HkI _ _ _ _ _ _ _ _; have h := HKk.out.step HKd.out.1 HKd.out.2 HJ.out; rw [HPk.out] at h; exact h)
                obtain ⟨gt2, ct2, et2, _, _, xt4, ft⟩ := own_get (HW4.out).s.t (j := j) (x := .bool HX) (by rw [List.getElem?_map, HXj.out]; rfl)
                have egt : gT = gt2 := by injection et2 with e1; injection e1 with e1; injection e1
                clear et2
                subst egt
                clear HW4 HKk HJ HPk HXj HKd
                go_wp2_with (with_reducible refine wp_region_still_tail 21 (by kernel_rfl) (by kernel_rfl) ?_; simp only [List.take_succ_cons, List.take_zero, List.drop_succ_cons, List.drop_zero])
                repeat (with_reducible refine wpStill_step (fun K hK => ?_); go_simp; with_reducible refine hK _ ?_; clear hK K)
                refine wpStill_nil ?_
                change wpList _ _ _ _ _ (World.drew wr)
                go_wp2_with fail
                go_roundw
                case rel => exact ⟨m + 1, wa.set j true, by omega, by go_num, HW5, HK5⟩
                case measure => simp [intOf] <;> omega
              · obtain rfl : m = mm := by omega
                have HDn := (show Hid (HdI gs may L i wa out) from by
                  have h := HKk.out
                  rw [← HLn.out.1] at h
                  exact h.done HNn.out HWh.out HCut.out (by rw [HLn.out.1]; exact HLn.out.2.2.2))
                have HS6 := (show Hid (HeS w wr (.slice (some ⟨b, o, none⟩) gs.length c) gs L may gM gB gO gT B wa out) from HW4.out.s)
                clear HKk HW4 HLn HNn HWh HCut HKm HKs HLt
                go_wp2_with fail
                go_roundw
                case rel => exact ⟨i, wa, out, by omega, by go_num, HS6, HDn⟩
                case measure => simp [intOf] <;> omega
        · by_cases c16 : n.op = 16
          · by_cases cz : n.nn = 0
            · have t14 : (n.op == 14) = false := by rw [beq_eq_false_iff_ne]; exact c14
              have t16 : (n.op == 16) = true := by rw [c16]; rfl
              have tz : (n.nn == 0) = true := by rw [cz]; rfl
              have hc : (n.op = 14 ∨ n.op = 16) ∧ n.nn = 0 := ⟨.inr c16, cz⟩
              have HC := (show Hid ((n.op = 14 ∨ n.op = 16) ∧ n.nn = 0) from hc)
              have H6 := (show Hid (n.op ≠ 6) from by show _ ≠ _; omega)
              have H7 := (show Hid (n.op ≠ 7) from by show _ ≠ _; omega)
              clear hc c14 c16 cz
              have HD2 := (show Hid (HdI gs may L i want out) from HD.out.skip (fun p _ => by unfold stB; rw [HNn.out]; simp [HC.out]) (fun q _ => by unfold clB; rw [HNn.out]; simp; intro e; have := HC.out.1; omega))
              clear HD HKi HNu HFd HWi HNn HC HKm HKs HLt HNb0 HHb HHo
              go_wp2_with (rw [HE2.out])
              go_roundw
              case rel => exact ⟨i, want, out, by omega, by go_num, HW2, HD2⟩
              case measure => simp [intOf] <;> omega
            · have t14 : (n.op == 14) = false := by rw [beq_eq_false_iff_ne]; exact c14
              have t16 : (n.op == 16) = true := by rw [c16]; rfl
              have tz : (n.nn == 0) = false := by rw [beq_eq_false_iff_ne]; exact cz
              have hc : ¬((n.op = 14 ∨ n.op = 16) ∧ n.nn = 0) := fun q => cz q.2
              have HC := (show Hid (¬((n.op = 14 ∨ n.op = 16) ∧ n.nn = 0)) from hc)
              have H6 := (show Hid (n.op ≠ 6) from by show _ ≠ _; omega)
              have H7 := (show Hid (n.op ≠ 7) from by show _ ≠ _; omega)
              clear hc c14 c16 cz
              have HCut := (show Hid (¬((n.op = 14 ∨ n.op = 16) ∧ n.nn = 0)) from HC.out)
              have HWh := (show Hid (Wh may L i) from HWi.out)
              have t6 : (n.op == 6) = false := by rw [beq_eq_false_iff_ne]; exact H6.out
              have HK0 := (show Hid (HkI gs may L i n 0 want out) from HkI.quiet HD.out HNn.out H6.out)
              have HNb := HNb0
              have h7 : n.op ≠ 7 := H7.out
              clear HNu HFd HWi HD HC H6 H7
              go_wp2_with (rw [HE2.out])
              clear HE2 n1 n2 xw
              refine (HKi.out _ want out HW2.out).mono ?_
              rintro e w4 ⟨⟨A4, c4, rfl, hk4⟩, b4⟩
              have HF0 := (show Hid (HfS w w4 (.slice (some ⟨b, o, none⟩) gs.length c) gs L may gM gB gO gT B want out A4 hb i n) from ⟨HW2.out.later b4, fun t j hj => by
                obtain ⟨gK, e1, e2, e3, e4⟩ := hk4 t j hj
                refine ⟨gK, e1, e3, fun e => ?_, e4⟩
                have := (HW2.out.t.lt gT rfl).2
                omega, (b4.cell (p := ⟨hb, 0, none⟩) HNb.out.1).trans HNb.out.2, Nat.lt_of_lt_of_le HNb.out.1 b4.size, HHb.out⟩)
              clear hk4 b4
              rw [← HHe.out]
              clear HHe
              clear HW2 HNb HNb0 HKi n0
              go_wp2_with fail
              have HLn := (show Hid ((kdR L i).length = mm ∧ Kds (kdR L) L ∧ i < L.length ∧ mm ≤ 2) from ⟨by rw [HKs.out.n i n HNn.out, ← HKm.out], HKs.out, HLt.out, by rw [HKm.out]; exact arN_le _⟩)
              go_loopw [15] (fun t wr => ∃ (m : Nat) (wa : List Bool), m ≤ mm ∧ t = .int .i64 (m : Int) ∧ Hid (HfS w wr (.slice (some ⟨b, o, none⟩) gs.length c) gs L may gM gB gO gT B wa out A4 hb i n) ∧ Hid (HkI gs may L i n m wa out)) (fun t _ => mm - (intOf t).toNat)
              case atStart => exact ⟨0, want, by omega, by go_num, HF0, HK0⟩
              case round =>
                obtain ⟨m, wa, hmm, rfl, HW4, HKk⟩ := hrel
                clear HF0 HK0
                by_cases hlm : m < mm
                · obtain ⟨j, hj⟩ : ∃ j, (kdR L i)[m]? = some j := ⟨_, List.getElem?_eq_getElem (by rw [HLn.out.1]; exact hlm)⟩
                  have hjm := List.mem_of_getElem? hj
                  have hji := HLn.out.2.1.lt i j HLn.out.2.2.1 hjm
                  have hjl : j < L.length := by have := HLn.out.2.2.1; omega
                  have hm2 : mm ≤ 2 := HLn.out.2.2.2
                  have HJ := (show Hid ((kdR L i)[m]? = some j) from hj)
                  have HKd := (show Hid (Kds (kdR L) L ∧ i < L.length) from ⟨HLn.out.2.1, HLn.out.2.2.1⟩)
                  obtain ⟨HX, hxj⟩ : ∃ b, wa[j]? = some b := ⟨_, List.getElem?_eq_getElem (by rw [HW4.out.s.lw]; exact hjl)⟩
                  have HXj := (show Hid (wa[j]? = some HX) from hxj)
                  obtain ⟨gK, rfl, xk⟩ := HW4.out.row hj
                  have xn := HW4.out.n0
                  have z0 : (0 : Int) ≤ (m : Int) := by omega
                  have z1 : (m : Int) < (mm : Int) := by omega
                  have z2 : (0 : Int) ≤ (j : Int) := by omega
                  have z3 : (j : Int) < (L.length : Int) := by omega
                  clear hj hjm hxj
                  have t7 : (n.op != 7) = true := by rw [bne, beq_eq_false_iff_ne.2 h7]; rfl
                  have HPk := (show Hid (pkB may L i n m = true) from by show _ = _; unfold pkB; rw [decide_eq_true h7]; rfl)
                  clear h7
                  have HW5 := (show Hid (HfS w (wr.drew.setCell ⟨gT, j, none⟩ (.bool true)) (.slice (some ⟨b, o, none⟩) gs.length c) gs L may gM gB gO gT B (wa.set j true) out (some ⟨gK, 0, none⟩) hb i n) from (HW4.out.drew).bit j _)
                  have HK5 := (show Hid (HkI gs may L i n (m + 1) (wa.set j true) out) from by show HkI _ _ _ _ _ _ _ _; have h := HKk.out.step HKd.out.1 HKd.out.2 HJ.out; rw [HPk.out] at h; exact h)
                  obtain ⟨gt2, ct2, et2, _, _, xt4, ft⟩ := own_get (HW4.out).s.t (j := j) (x := .bool HX) (by rw [List.getElem?_map, HXj.out]; rfl)
                  have egt : gT = gt2 := by injection et2 with e1; injection e1 with e1; injection e1
                  clear et2
                  subst egt
                  clear HW4 HKk HJ HPk HXj HKd
                  go_wp2_with (with_reducible refine wp_region_still_tail 21 (by kernel_rfl) (by kernel_rfl) ?_; simp only [List.take_succ_cons, List.take_zero, List.drop_succ_cons, List.drop_zero])
                  repeat (with_reducible refine wpStill_step (fun K hK => ?_); go_simp; with_reducible refine hK _ ?_; clear hK K)
                  refine wpStill_nil ?_
                  change wpList _ _ _ _ _ (World.drew wr)
                  go_wp2_with fail
                  go_roundw
                  case rel => exact ⟨m + 1, wa.set j true, by omega, by go_num, HW5, HK5⟩
                  case measure => simp [intOf] <;> omega
                · obtain rfl : m = mm := by omega
                  have HDn := (show Hid (HdI gs may L i wa out) from by
                    have h := HKk.out
                    rw [← HLn.out.1] at h
                    exact h.done HNn.out HWh.out HCut.out (by rw [HLn.out.1]; exact HLn.out.2.2.2))
                  have HS6 := (show Hid (HeS w wr (.slice (some ⟨b, o, none⟩) gs.length c) gs L may gM gB gO gT B wa out) from HW4.out.s)
                  clear HKk HW4 HLn HNn HWh HCut HKm HKs HLt
                  go_wp2_with fail
                  go_roundw
                  case rel => exact ⟨i, wa, out, by omega, by go_num, HS6, HDn⟩
                  case measure => simp [intOf] <;> omega
          · have t14 : (n.op == 14) = false := by rw [beq_eq_false_iff_ne]; exact c14
            have t16 : (n.op == 16) = false := by rw [beq_eq_false_iff_ne]; exact c16
            have hc : ¬((n.op = 14 ∨ n.op = 16) ∧ n.nn = 0) := fun q => q.1.elim c14 c16
            by_cases h6 : n.op = 6
            · have HC := (show Hid (¬((n.op = 14 ∨ n.op = 16) ∧ n.nn = 0)) from hc)
              clear hc
              have HCut := (show Hid (¬((n.op = 14 ∨ n.op = 16) ∧ n.nn = 0)) from HC.out)
              have HWh := (show Hid (Wh may L i) from HWi.out)
              obtain ⟨jc, hjc⟩ := HFd.out n (List.mem_of_getElem? HNn.out) h6
              have hjl := fdG_lt hjc
              have t6 : (n.op == 6) = true := by rw [h6]; rfl
              have HNu2 := (show Hid (∀ _ : Unit, Calls Tryz.prog 63 #[.agg #[.slice (some ⟨b, o, none⟩) gs.length c], .string n.tx] w2 fun e w' => e = .returned (.int .i64 (jc : Int)) ∧ Below w2.heap.size w2 w') from fun _ => by
                have h := HNu.out w2 n.tx HW2.out.b
                rw [fdN_some hjc] at h
                exact h)
              have HK0 := (show Hid (HkI gs may L i n 0 want (out.set jc true)) from HkI.call HD.out HNn.out h6 HWh.out hjc hjl)
              have HMm := (show Hid (mm = 0) from by show _ = _; rw [HKm.out]; exact arN_0 hop (.inl (by omega)))
              obtain ⟨ob, hob⟩ : ∃ ob, out[jc]? = some ob := ⟨_, List.getElem?_eq_getElem (by rw [HW2.out.lo]; exact hjl)⟩
              have HOb := (show Hid (out[jc]? = some ob) from hob)
              have u0 : (0 : Int) ≤ (jc : Int) := by omega
              have u1 : (jc : Int) < (gs.length : Int) := by omega
              clear hjc HNu HFd HWi HD HC hob h6 c14 c16
              go_wp2_with (rw [HE2.out])
              refine (HNu2.out ()).mono ?_
              rintro e w3 ⟨rfl, b3⟩
              have HW3 := (show Hid (HeS w w3 (.slice (some ⟨b, o, none⟩) gs.length c) gs L may gM gB gO gT B want out) from HW2.out.later b3)
              have HW3b := (show Hid (HeS w (w3.setCell ⟨gO, jc, none⟩ (.bool true)) (.slice (some ⟨b, o, none⟩) gs.length c) gs L may gM gB gO gT B want (out.set jc true)) from HW3.out.outs jc true)
              obtain ⟨go2, co2, eo2, _, _, xo3, fo⟩ := own_get HW3.out.o (j := jc) (x := .bool ob) (by rw [List.getElem?_map, HOb.out]; rfl)
              have ego : gO = go2 := by injection eo2 with e1; injection e1 with e1; injection e1
              clear eo2
              subst ego
              have HNb := (show Hid (hb < (w3.setCell ⟨gO, jc, none⟩ (.bool true)).heap.size ∧ (w3.setCell ⟨gO, jc, none⟩ (.bool true)).cell? ⟨hb, 0, none⟩ = some (.int .i64 n.op)) from by
                obtain ⟨s1, s2⟩ := HW3.out.o.stored jc (.bool true)
                have q := (b3.cell (p := ⟨hb, 0, none⟩) HNb0.out.1).trans HNb0.out.2
                have lq : hb < w3.heap.size := Nat.lt_of_lt_of_le HNb0.out.1 b3.size
                refine ⟨Nat.lt_of_lt_of_le lq s2.size, ?_⟩
                rw [World.cell?_of_block (a := ⟨hb, 0, none⟩) (s2.block hb lq (fun e => by have := HHo.out; cases e; exact this rfl))]
                exact q)
              clear b3 HW3 HW2 HOb HNb0
              go_wp2_with fail
              clear HNu2 HE2 n0 n1 n2 xw xo3 fo
              refine (HKi.out _ want (out.set jc true) HW3b.out).mono ?_
              rintro e w4 ⟨⟨A4, c4, rfl, hk4⟩, b4⟩
              have HF0 := (show Hid (HfS w w4 (.slice (some ⟨b, o, none⟩) gs.length c) gs L may gM gB gO gT B want (out.set jc true) A4 hb i n) from ⟨HW3b.out.later b4, fun t j hj => by
                obtain ⟨gK, e1, e2, e3, e4⟩ := hk4 t j hj
                refine ⟨gK, e1, e3, fun e => ?_, e4⟩
                have := (HW3b.out.t.lt gT rfl).2
                omega, (b4.cell (p := ⟨hb, 0, none⟩) HNb.out.1).trans HNb.out.2, Nat.lt_of_lt_of_le HNb.out.1 b4.size, HHb.out⟩)
              clear hk4 b4
              rw [← HHe.out]
              clear HHe
              clear HW3b HNb HKi
              go_wp2_with fail
              have HLn := (show Hid ((kdR L i).length = mm ∧ Kds (kdR L) L ∧ i < L.length ∧ mm ≤ 2) from ⟨by rw [HKs.out.n i n HNn.out, ← HKm.out], HKs.out, HLt.out, by rw [HKm.out]; exact arN_le _⟩)
              go_loopw [15] (fun t wr => ∃ (m : Nat) (wa : List Bool), m ≤ mm ∧ t = .int .i64 (m : Int) ∧ Hid (HfS w wr (.slice (some ⟨b, o, none⟩) gs.length c) gs L may gM gB gO gT B wa (out.set jc true) A4 hb i n) ∧ Hid (HkI gs may L i n m wa (out.set jc true))) (fun t _ => mm - (intOf t).toNat)
              case atStart => exact ⟨0, want, by omega, by go_num, HF0, HK0⟩
              case round =>
                obtain ⟨m, wa, hmm, rfl, HW4, HKk⟩ := hrel
                clear HF0 HK0
                by_cases hlm : m < mm
                · exact absurd hlm (by rw [HMm.out]; omega)
                · obtain rfl : m = mm := by omega
                  have HDn := (show Hid (HdI gs may L i wa (out.set jc true)) from by
                    have h := HKk.out
                    rw [← HLn.out.1] at h
                    exact h.done HNn.out HWh.out HCut.out (by rw [HLn.out.1]; exact HLn.out.2.2.2))
                  have HS6 := (show Hid (HeS w wr (.slice (some ⟨b, o, none⟩) gs.length c) gs L may gM gB gO gT B wa (out.set jc true)) from HW4.out.s)
                  clear HKk HW4 HLn HNn HWh HCut HKm HKs HLt
                  go_wp2_with fail
                  go_roundw
                  case rel => exact ⟨i, wa, (out.set jc true), by omega, by go_num, HS6, HDn⟩
                  case measure => simp [intOf] <;> omega
            · have HC := (show Hid (¬((n.op = 14 ∨ n.op = 16) ∧ n.nn = 0)) from hc)
              have H6 := (show Hid (n.op ≠ 6) from h6)
              clear hc h6 c14 c16
              have HCut := (show Hid (¬((n.op = 14 ∨ n.op = 16) ∧ n.nn = 0)) from HC.out)
              have HWh := (show Hid (Wh may L i) from HWi.out)
              have t6 : (n.op == 6) = false := by rw [beq_eq_false_iff_ne]; exact H6.out
              have HK0 := (show Hid (HkI gs may L i n 0 want out) from HkI.quiet HD.out HNn.out H6.out)
              have HNb := HNb0
              clear HNu HFd HWi HD HC H6
              go_wp2_with (rw [HE2.out])
              clear HE2 n1 n2 xw
              refine (HKi.out _ want out HW2.out).mono ?_
              rintro e w4 ⟨⟨A4, c4, rfl, hk4⟩, b4⟩
              have HF0 := (show Hid (HfS w w4 (.slice (some ⟨b, o, none⟩) gs.length c) gs L may gM gB gO gT B want out A4 hb i n) from ⟨HW2.out.later b4, fun t j hj => by
                obtain ⟨gK, e1, e2, e3, e4⟩ := hk4 t j hj
                refine ⟨gK, e1, e3, fun e => ?_, e4⟩
                have := (HW2.out.t.lt gT rfl).2
                omega, (b4.cell (p := ⟨hb, 0, none⟩) HNb.out.1).trans HNb.out.2, Nat.lt_of_lt_of_le HNb.out.1 b4.size, HHb.out⟩)
              clear hk4 b4
              rw [← HHe.out]
              clear HHe
              clear HW2 HNb HNb0 HKi n0
              go_wp2_with fail
              have HLn := (show Hid ((kdR L i).length = mm ∧ Kds (kdR L) L ∧ i < L.length ∧ mm ≤ 2) from ⟨by rw [HKs.out.n i n HNn.out, ← HKm.out], HKs.out, HLt.out, by rw [HKm.out]; exact arN_le _⟩)
              go_loopw [15] (fun t wr => ∃ (m : Nat) (wa : List Bool), m ≤ mm ∧ t = .int .i64 (m : Int) ∧ Hid (HfS w wr (.slice (some ⟨b, o, none⟩) gs.length c) gs L may gM gB gO gT B wa out A4 hb i n) ∧ Hid (HkI gs may L i n m wa out)) (fun t _ => mm - (intOf t).toNat)
              case atStart => exact ⟨0, want, by omega, by go_num, HF0, HK0⟩
              case round =>
                obtain ⟨m, wa, hmm, rfl, HW4, HKk⟩ := hrel
                clear HF0 HK0
                by_cases hlm : m < mm
                · obtain ⟨j, hj⟩ : ∃ j, (kdR L i)[m]? = some j := ⟨_, List.getElem?_eq_getElem (by rw [HLn.out.1]; exact hlm)⟩
                  have hjm := List.mem_of_getElem? hj
                  have hji := HLn.out.2.1.lt i j HLn.out.2.2.1 hjm
                  have hjl : j < L.length := by have := HLn.out.2.2.1; omega
                  have hm2 : mm ≤ 2 := HLn.out.2.2.2
                  have HJ := (show Hid ((kdR L i)[m]? = some j) from hj)
                  have HKd := (show Hid (Kds (kdR L) L ∧ i < L.length) from ⟨HLn.out.2.1, HLn.out.2.2.1⟩)
                  obtain ⟨HX, hxj⟩ : ∃ b, wa[j]? = some b := ⟨_, List.getElem?_eq_getElem (by rw [HW4.out.s.lw]; exact hjl)⟩
                  have HXj := (show Hid (wa[j]? = some HX) from hxj)
                  obtain ⟨gK, rfl, xk⟩ := HW4.out.row hj
                  have xn := HW4.out.n0
                  have z0 : (0 : Int) ≤ (m : Int) := by omega
                  have z1 : (m : Int) < (mm : Int) := by omega
                  have z2 : (0 : Int) ≤ (j : Int) := by omega
                  have z3 : (j : Int) < (L.length : Int) := by omega
                  clear hj hjm hxj
                  by_cases h7 : n.op = 7
                  · have t7 : (n.op != 7) = false := by rw [h7]; rfl
                    by_cases hm0 : m = 0
                    · subst hm0
                      have HPk := (show Hid (pkB may L i n 0 = true) from by show _ = _; unfold pkB; simp)
                      clear h7
                      have HW5 := (show Hid (HfS w (wr.drew.setCell ⟨gT, j, none⟩ (.bool true)) (.slice (some ⟨b, o, none⟩) gs.length c) gs L may gM gB gO gT B (wa.set j true) out (some ⟨gK, 0, none⟩) hb i n) from (HW4.out.drew).bit j _)
                      have HK5 := (show Hid (HkI gs may L i n (0 + 1) (wa.set j true) out) from by show HkI _ _ _ _ _ _ _ _; have h := HKk.out.step HKd.out.1 HKd.out.2 HJ.out; rw [HPk.out] at h; exact h)
                      obtain ⟨gt2, ct2, et2, _, _, xt4, ft⟩ := own_get (HW4.out).s.t (j := j) (x := .bool HX) (by rw [List.getElem?_map, HXj.out]; rfl)
                      have egt : gT = gt2 := by injection et2 with e1; injection e1 with e1; injection e1
                      clear et2
                      subst egt
                      clear HW4 HKk HJ HPk HXj HKd
                      go_wp2_with (with_reducible refine wp_region_still_tail 21 (by kernel_rfl) (by kernel_rfl) ?_; simp only [List.take_succ_cons, List.take_zero, List.drop_succ_cons, List.drop_zero])
                      repeat (with_reducible refine wpStill_step (fun K hK => ?_); go_simp; with_reducible refine hK _ ?_; clear hK K)
                      refine wpStill_nil ?_
                      change wpList _ _ _ _ _ (World.drew wr)
                      go_wp2_with fail
                      go_roundw
                      case rel => exact ⟨0 + 1, wa.set j true, by omega, by go_num, HW5, HK5⟩
                      case measure => simp [intOf] <;> omega
                    · have tm : ((m : Int) == 0) = false := by rw [beq_eq_false_iff_ne]; omega
                      obtain ⟨j0, hj0⟩ : ∃ j, (kdR L i)[0]? = some j := ⟨_, List.getElem?_eq_getElem (by rw [HLn.out.1]; omega)⟩
                      have hj0l : j0 < L.length := by have := HLn.out.2.1.lt i j0 HLn.out.2.2.1 (List.mem_of_getElem? hj0); have := HLn.out.2.2.1; omega
                      obtain ⟨gK0, eK0, xk0⟩ := HW4.out.row hj0
                      have egk : gK = gK0 := by injection eK0 with e1; injection e1
                      subst egk
                      have xm0 := HW4.out.s.m j0 hj0l
                      have z4 : (0 : Int) ≤ (j0 : Int) := by omega
                      have z5 : (j0 : Int) < (L.length : Int) := by omega
                      have z6 : (0 : Int) < (mm : Int) := by omega
                      have z7 : 0 < mm := by omega
                      obtain ⟨mb, hmb⟩ : ∃ mb, mb = may j0 := ⟨_, rfl⟩
                      rw [← hmb] at xm0
                      have HPk := (show Hid (pkB may L i n m = mb) from by show _ = _; unfold pkB; rw [hj0, decide_eq_false hm0, decide_eq_false (fun q => q h7), hmb]; rfl)
                      clear h7 hm0 hj0 hmb eK0
                      have HW5 := (show Hid (HfS w (wr.drew.setCell ⟨gT, j, none⟩ (.bool mb)) (.slice (some ⟨b, o, none⟩) gs.length c) gs L may gM gB gO gT B (wa.set j mb) out (some ⟨gK, 0, none⟩) hb i n) from (HW4.out.drew).bit j _)
                      have HK5 := (show Hid (HkI gs may L i n (m + 1) (wa.set j mb) out) from by show HkI _ _ _ _ _ _ _ _; have h := HKk.out.step HKd.out.1 HKd.out.2 HJ.out; rw [HPk.out] at h; exact h)
                      obtain ⟨gt2, ct2, et2, _, _, xt4, ft⟩ := own_get (HW4.out).s.t (j := j) (x := .bool HX) (by rw [List.getElem?_map, HXj.out]; rfl)
                      have egt : gT = gt2 := by injection et2 with e1; injection e1 with e1; injection e1
                      clear et2
                      subst egt
                      clear HW4 HKk HJ HPk HXj HKd
                      go_wp2_with (with_reducible refine wp_region_still_tail 21 (by kernel_rfl) (by kernel_rfl) ?_; simp only [List.take_succ_cons, List.take_zero, List.drop_succ_cons, List.drop_zero])
                      repeat (with_reducible refine wpStill_step (fun K hK => ?_); go_simp; with_reducible refine hK _ ?_; clear hK K)
                      refine wpStill_nil ?_
                      change wpList _ _ _ _ _ (World.drew wr)
                      go_wp2_with fail
                      go_roundw
                      case rel => exact ⟨m + 1, wa.set j mb, by omega, by go_num, HW5, HK5⟩
                      case measure => simp [intOf] <;> omega
                  · have t7 : (n.op != 7) = true := by rw [bne, beq_eq_false_iff_ne.2 h7]; rfl
                    have HPk := (show Hid (pkB may L i n m = true) from by show _ = _; unfold pkB; rw [decide_eq_true h7]; rfl)
                    clear h7
                    have HW5 := (show Hid (HfS w (wr.drew.setCell ⟨gT, j, none⟩ (.bool true)) (.slice (some ⟨b, o, none⟩) gs.length c) gs L may gM gB gO gT B (wa.set j true) out (some ⟨gK, 0, none⟩) hb i n) from (HW4.out.drew).bit j _)
                    have HK5 := (show Hid (HkI gs may L i n (m + 1) (wa.set j true) out) from by show HkI _ _ _ _ _ _ _ _; have h := HKk.out.step HKd.out.1 HKd.out.2 HJ.out; rw [HPk.out] at h; exact h)
                    obtain ⟨gt2, ct2, et2, _, _, xt4, ft⟩ := own_get (HW4.out).s.t (j := j) (x := .bool HX) (by rw [List.getElem?_map, HXj.out]; rfl)
                    have egt : gT = gt2 := by injection et2 with e1; injection e1 with e1; injection e1
                    clear et2
                    subst egt
                    clear HW4 HKk HJ HPk HXj HKd
                    go_wp2_with (with_reducible refine wp_region_still_tail 21 (by kernel_rfl) (by kernel_rfl) ?_; simp only [List.take_succ_cons, List.take_zero, List.drop_succ_cons, List.drop_zero])
                    repeat (with_reducible refine wpStill_step (fun K hK => ?_); go_simp; with_reducible refine hK _ ?_; clear hK K)
                    refine wpStill_nil ?_
                    change wpList _ _ _ _ _ (World.drew wr)
                    go_wp2_with fail
                    go_roundw
                    case rel => exact ⟨m + 1, wa.set j true, by omega, by go_num, HW5, HK5⟩
                    case measure => simp [intOf] <;> omega
                · obtain rfl : m = mm := by omega
                  have HDn := (show Hid (HdI gs may L i wa out) from by
                    have h := HKk.out
                    rw [← HLn.out.1] at h
                    exact h.done HNn.out HWh.out HCut.out (by rw [HLn.out.1]; exact HLn.out.2.2.2))
                  have HS6 := (show Hid (HeS w wr (.slice (some ⟨b, o, none⟩) gs.length c) gs L may gM gB gO gT B wa out) from HW4.out.s)
                  clear HKk HW4 HLn HNn HWh HCut HKm HKs HLt
                  go_wp2_with fail
                  go_roundw
                  case rel => exact ⟨i, wa, out, by omega, by go_num, HS6, HDn⟩
                  case measure => simp [intOf] <;> omega
end Go.Proofs.YtbipjdgholdhcabGreat.N

namespace Go.Proofs.YtbipjdgholdhcabGreat.N
open Go.RowKit Go.Maps
open Go.Proofs.YtbipjdgholdhcabGreat.T

open U (nI own_get own_slice wpList_app1 below_grown TT Out info_split)
set_option maxRecDepth 100000 in
set_option maxHeartbeats 8000000 in
theorem listed_any (l : List Bool) (hl : l.length ≤ 200) {B4 : Nat} {v : Value} (w : World) (ho : w.ownsRow B4 4 1 v l.length (l.map Value.bool)) :
    Calls Tryz.prog 48 #[v] w fun e w' => (∃ u, e = .returned u ∧ w'.ownsRow w.heap.size 3 1 u (lsB l).length ((lsB l).map nI)) ∧ Below w.heap.size w w' := by
  obtain ⟨Av, cv, rfl⟩ := own_slice ho
  have HC := (show Hid (∀ (k : Nat) b, l[k]? = some b → ∃ g, Av = some ⟨g, 0, none⟩ ∧ g < w.heap.size ∧ w.cell? ⟨g, k, none⟩ = some (.bool b)) from fun k b hk => by
    obtain ⟨g, cp, e, _, lt, x, _⟩ := own_get ho (j := k) (x := .bool b) (by rw [List.getElem?_map, hk]; rfl)
    have e1 : Av = some ⟨g, 0, none⟩ := by injection e
    exact ⟨g, e1, lt, x⟩)
  have HS := (show Hid (LsS w w (.slice none 0 0) (lsB (l.take 0))) from ⟨Below.refl _ _, World.ownsRow_nil _ _ _ _⟩)
  clear ho
  go_enter Tryz.func48, Tryz.ntmps48
  go_wp2_with fail
  go_loopw [3, 4] (fun u t wr => ∃ (k m : Nat) (ls : List Nat) (A2 : Option Addr) (c2 : Nat), k ≤ l.length ∧ t = .int .i64 (k : Int) ∧ u = .slice A2 m c2 ∧ m ≤ k ∧ Hid (ls.length = m ∧ ls = lsB (l.take k)) ∧ Hid (LsS w wr (.slice A2 m c2) ls)) (fun _ t _ => l.length - (intOf t).toNat)
  case atStart => exact ⟨0, 0, lsB (l.take 0), none, 0, by omega, by go_num, rfl, by omega, ⟨rfl, rfl⟩, HS⟩
  case round =>
    obtain ⟨k, m, ls, A2, c2, hk, rfl, rfl, hm, HL, HW⟩ := hrel
    clear HS
    by_cases hlt : k < l.length
    · obtain ⟨b, hb⟩ : ∃ b, l[k]? = some b := ⟨_, List.getElem?_eq_getElem hlt⟩
      obtain ⟨g, rfl, ltg, xg⟩ := HC.out k b hb
      have xg' := (HW.out.b.cell (p := ⟨g, k, none⟩) ltg).trans xg
      have z0 : (0 : Int) ≤ (k : Int) := by omega
      have z1 : (k : Int) < (l.length : Int) := by omega
      have HT := (show Hid (lsB (l.take (k + 1)) = lsB (l.take k) ++ (if b then [k] else [])) from lsB_take hb)
      clear HC hb xg ltg
      cases b with
      | true =>
        have HL2 := (show Hid ((ls ++ [k]).length = m + 1 ∧ ls ++ [k] = lsB (l.take (k + 1))) from ⟨by rw [List.length_append, HL.out.1]; rfl, by rw [HT.out, ← HL.out.2]; rfl⟩)
        have HO := (show Hid (wr.ownsRow w.heap.size 3 1 (.slice A2 m c2) m (ls.map nI)) from by have h := HW.out.o; rw [HL.out.1] at h; exact h)
        have HBw := (show Hid (w.heap.size ≤ wr.heap.size) from HW.out.b.size)
        have HPu := (show Hid (∀ (u' : Value) (w5 : World), w5.ownsRow w.heap.size 3 1 u' (m + 1) (ls.map nI ++ [nI k]) → wr.grownBy w5 (Value.slice A2 m c2).ownBlock → LsS w w5 u' (ls ++ [k])) from fun u' w5 h1 h2 => HW.out.push (by rw [HL.out.1]; exact h1) h2)
        clear HT HL HW
        go_wp2_with (at_builtin; refine wpList_app1 rfl _ _ 29 rfl (.int .i64 0) 8 Tryz.underlying29 Tryz.info3 rfl w.heap.size m _ (ls.map nI) rfl rfl HO.out rfl (by omega) (by decide) HBw.out ?_; intro g3 cap3 w5 ho5 hg5 hat5 hl5; have HW5 := (show Hid (LsS w w5 (.slice (some ⟨g3, 0, none⟩) (m + 1) cap3) (ls ++ [k])) from HPu.out _ _ ho5 hg5); clear ho5 hg5 hat5 hl5 HPu HO HBw xg')
        go_roundw
        case rel => exact ⟨k + 1, m + 1, ls ++ [k], some ⟨g3, 0, none⟩, cap3, by omega, by go_num, rfl, by omega, HL2, HW5⟩
        case measure => simp [intOf]; omega
      | false =>
        have HL2 := (show Hid (ls.length = m ∧ ls = lsB (l.take (k + 1))) from ⟨HL.out.1, by rw [HT.out, ← HL.out.2]; exact (List.append_nil ls).symm⟩)
        clear HT HL
        go_wp2_with fail
        go_roundw
        case rel => exact ⟨k + 1, m, ls, A2, c2, by omega, by go_num, rfl, by omega, HL2, HW⟩
        case measure => simp [intOf]; omega
    · obtain rfl : k = l.length := by omega
      have HO := (show Hid (wr.ownsRow w.heap.size 3 1 (.slice A2 m c2) (lsB l).length ((lsB l).map nI)) from by
        show World.ownsRow _ _ _ _ _ _ _
        have h := HL.out.2
        rw [List.take_length] at h
        rw [← h]
        exact HW.out.o)
      have HB := (show Hid (Below w.heap.size w wr) from HW.out.b)
      clear HW HL HC
      go_wp2_with fail
      go_ret
      exact ⟨⟨_, rfl, HO.out⟩, HB.out⟩
end Go.Proofs.YtbipjdgholdhcabGreat.N

namespace Go.Proofs.YtbipjdgholdhcabGreat.N
open Go.RowKit Go.Maps
open Go.Proofs.YtbipjdgholdhcabGreat.T

open U (below_grown own_get own_slice)
theorem WyB.len {n : Nat} {c : Mx} {r : Nat} {l : List Nat} (h : WyB n c r l) : (l.length = 0 ∧ ¬ Rc n c r r) ∨ (0 < l.length ∧ ∃ m, Ds c r m r ∧ PtI c r m l) := by
  rcases h with ⟨h1, h2⟩ | ⟨m, h1, h2⟩
  · exact .inl ⟨by rw [h1]; rfl, h2⟩
  · exact .inr ⟨by rw [h2.n]; exact h1.1, m, h1, h2⟩
set_option maxRecDepth 100000 in
set_option maxHeartbeats 16000000 in
theorem cycle_any {n : Nat} {cx : Mx} (hc : ∀ i j, cx i j = true → i < n ∧ j < n) (hn : n ≤ 200) (A : Option Addr) (c : Nat) (w : World) (hp : RdL w A ((List.range n).map (hdl n cx))) :
    Calls Tryz.prog 37 #[.slice A n c] w fun e w' => (∃ v l, e = .returned v ∧ CyR n cx l ∧ w'.ownsRow w.heap.size 3 1 v l.length (l.map U.nI)) ∧ Below w.heap.size w w' := by
  have HRd := (show Hid (RdL w A ((List.range n).map (hdl n cx))) from hp)
  have HC := (show Hid ((∀ i j, cx i j = true → i < n ∧ j < n) ∧ n ≤ 200) from ⟨hc, hn⟩)
  have HS := (show Hid (Below w.heap.size w w ∧ ∀ q, q < 0 → ¬ Rc n cx q q) from ⟨Below.refl _ _, fun q h => absurd h (Nat.not_lt_zero _)⟩)
  clear hp hc
  go_enter Tryz.func37, Tryz.ntmps37
  go_wp2_with fail
  go_loopw [7] (fun t wr => ∃ k : Nat, k ≤ n ∧ t = .int .i64 (k : Int) ∧ Hid (Below w.heap.size w wr ∧ ∀ q, q < k → ¬ Rc n cx q q)) (fun t _ => n - (intOf t).toNat)
  case atStart => exact ⟨0, Nat.zero_le _, by go_num, HS⟩
  case round =>
    obtain ⟨k, hk, rfl, HW⟩ := hrel
    clear HS
    by_cases hlt : k < n
    · have HWb := (show Hid (∀ _ : Unit, Calls Tryz.prog 54 #[.slice A n c, .int .i64 (k : Int)] wr fun e w' => (∃ v l, e = .returned v ∧ WyB n cx k l ∧ w'.ownsRow wr.heap.size 3 1 v l.length (l.map U.nI)) ∧ Below wr.heap.size wr w') from fun _ => wayBack_any HC.out.1 HC.out.2 hlt A c wr (HRd.out.later HW.out.1))
      go_wp2_with fail
      refine (HWb.out ()).mono ?_
      rintro e w2 ⟨⟨v, l, rfl, hw, ho⟩, b2⟩
      obtain ⟨A2, c2, rfl⟩ := own_slice ho
      have HB2 := (show Hid (Below w.heap.size w w2) from HW.out.1.trans (b2.mono HW.out.1.size))
      rcases hw.len with ⟨h1, h2⟩ | ⟨h1, h2⟩
      · have HN := (show Hid (Below w.heap.size w w2 ∧ ∀ q, q < k + 1 → ¬ Rc n cx q q) from ⟨HB2.out, fun q hq => by
          by_cases e : q = k
          · rw [e]; exact h2
          · exact HW.out.2 q (by omega)⟩)
        have hlz : (.slice A2 l.length c2 : Value) = .slice A2 0 c2 := by rw [h1]
        rw [hlz]
        clear hw ho b2 h2 HB2 HW HWb h1 hlz
        go_wp2_with fail
        go_roundw
        case rel => exact ⟨k + 1, by omega, by go_num, HN⟩
        case measure => simp [intOf]; omega
      · have HFin := (show Hid (CyR n cx l ∧ w2.ownsRow w.heap.size 3 1 (.slice A2 l.length c2) l.length (l.map U.nI) ∧ Below w.heap.size w w2) from ⟨.inr (by obtain ⟨m, q1, q2⟩ := h2; exact ⟨k, m, q1, HW.out.2, q2⟩), U.own_base ho HW.out.1.size, HB2.out⟩)
        obtain ⟨ln, hln⟩ : ∃ ln, ln = l.length := ⟨_, rfl⟩
        have HLn := (show Hid (ln = l.length) from hln)
        rw [← hln] at h1 ⊢
        have hl0 : (ln : Int) > 0 := by omega
        have hl1 : 0 < ln := h1
        clear hw ho b2 h2 HB2 HW HWb hln
        go_wp2_with fail
        go_ret
        exact ⟨⟨_, l, rfl, HFin.out.1, by rw [HLn.out]; exact HFin.out.2.1⟩, HFin.out.2.2⟩
    · obtain rfl : k = n := by omega
      have HFin := (show Hid (CyR k cx [] ∧ Below w.heap.size w wr) from ⟨.inl ⟨rfl, fun r q => by
        by_cases hr : r < k
        · exact HW.out.2 r hr q
        · have := Rc.least (d := fun i j => i < k ∧ j < k) HC.out.1 (fun _ _ _ _ a b => ⟨a.1, b.2⟩) q
          omega⟩, HW.out.1⟩)
      clear HW HC HRd
      go_wp2_with fail
      go_ret
      exact ⟨⟨_, [], rfl, HFin.out.1, World.ownsRow_nil _ _ _ _⟩, HFin.out.2⟩
end Go.Proofs.YtbipjdgholdhcabGreat.N

namespace Go.Proofs.YtbipjdgholdhcabGreat.N
open Go.RowKit Go.Maps
open Go.Proofs.YtbipjdgholdhcabGreat.T

open U (below_grown own_get own_slice)
set_option maxRecDepth 100000 in
set_option maxHeartbeats 8000000 in
theorem repeats_any (n : Nd) (w : World) : Calls Tryz.prog 55 #[ndG n] w fun e w' => e = .returned (.bool (rpB n)) ∧ Below w.heap.size w w' := by
  obtain ⟨w1, hw1⟩ : ∃ w1, w1 = w.alloc (.cells #[.int .i64 n.op, .int .i64 n.nn, .string n.tx, .int .u64 n.s0, .int .u64 n.s1, .int .u64 n.s2, .int .u64 n.s3] 57) := ⟨_, rfl⟩
  have HE1 := (show Hid (w.alloc (.cells #[.int .i64 n.op, .int .i64 n.nn, .string n.tx, .int .u64 n.s0, .int .u64 n.s1, .int .u64 n.s2, .int .u64 n.s3] 57) = w1) from hw1.symm)
  have HN := (show Hid (NX w1 w.heap.size n) from by rw [hw1]; exact ⟨heap_alloc_new w _⟩)
  have HB := (show Hid (Below w.heap.size w w1) from by rw [hw1]; exact below_box _ _)
  have q0 : w1.cell? ⟨w.heap.size, 0, none⟩ = some (.int .i64 n.op) := HN.out.nb.c0
  have HR := (show Hid (rpB n = (n.op == 9 || (n.op == 10 || n.op == 15))) from rfl)
  clear hw1
  by_cases h9 : n.op = 9
  · have t9 : (n.op == 9) = true := by rw [h9]; rfl
    have e : rpB n = true := by rw [HR.out, t9]; rfl
    rw [e]
    clear h9 e
    go_enter Tryz.func55, Tryz.ntmps55
    go_wp2_with (rw [HE1.out])
    go_ret
    exact ⟨rfl, HB.out⟩
  by_cases h10 : n.op = 10
  · have t9 : (n.op == 9) = false := by rw [h10]; rfl
    have t10 : (n.op == 10) = true := by rw [h10]; rfl
    have e : rpB n = true := by rw [HR.out, t9, t10]; rfl
    rw [e]
    clear h9 h10 e
    go_enter Tryz.func55, Tryz.ntmps55
    go_wp2_with (rw [HE1.out])
    go_ret
    exact ⟨rfl, HB.out⟩
  by_cases h15 : n.op = 15
  · have t9 : (n.op == 9) = false := by rw [h15]; rfl
    have t10 : (n.op == 10) = false := by rw [h15]; rfl
    have t15 : (n.op == 15) = true := by rw [h15]; rfl
    have e : rpB n = true := by rw [HR.out, t9, t10, t15]; rfl
    rw [e]
    clear h9 h10 h15 e
    go_enter Tryz.func55, Tryz.ntmps55
    go_wp2_with (rw [HE1.out])
    go_ret
    exact ⟨rfl, HB.out⟩
  · have t9 : (n.op == 9) = false := by rw [beq_eq_false_iff_ne]; omega
    have t10 : (n.op == 10) = false := by rw [beq_eq_false_iff_ne]; omega
    have t15 : (n.op == 15) = false := by rw [beq_eq_false_iff_ne]; omega
    have e : rpB n = false := by rw [HR.out, t9, t10, t15]; rfl
    rw [e]
    clear h9 h10 h15 e
    go_enter Tryz.func55, Tryz.ntmps55
    go_wp2_with (rw [HE1.out])
    go_ret
    exact ⟨rfl, HB.out⟩

theorem Tryz.infoSp : (Tryz.prog.info? 31).map (fun i => (i.zero, i.size, i.bytes)) = some (some (.agg #[.int .i64 0, .int .i64 0]), 2, 16) := by kernel_rfl
/-- One more behind a row of spots. -/
theorem wpList_appS {ops : Array Oper} {rest : List Oper} {o : Oper} {a : Act} {Q : Exit → Act → World → Prop} {W : World} {p1 p2 : Nat} (hgd : o.guard = none) (s x : Operand)
    (ho : o.op = .call { callee := .builtin .append, args := #[s, x], argTypes := #[71, 71] })
    (base n : Nat) (v : Value) (l : List (Nat × Nat)) (hs : a.eval s = v) (hx : a.eval x = .slice (some ⟨W.heap.size, 0, none⟩) 1 1) (hown : W.ownsRow base 31 2 v n (spc l)) (hn : n ≤ 1000000) (hbase : base ≤ W.heap.size)
    (h : ∀ g cap w', w'.ownsRow base 31 2 (.slice (some ⟨g, 0, none⟩) (n + 1) cap) (n + 1) (spc (l ++ [(p1, p2)])) → W.grownBy w' v.ownBlock → wpList Tryz.prog ops Q rest (a.put o.dst (.slice (some ⟨g, 0, none⟩) (n + 1) cap)) w') :
    wpList Tryz.prog ops Q (o :: rest) a (W.alloc (.cells #[.int .i64 (p1 : Int), .int .i64 (p2 : Int)] 31)) := by
  obtain ⟨i0, hinf, hz0, hz1, hz2⟩ := info_parts Tryz.infoSp
  refine wpList_append_lies (W.alloc (.cells #[.int .i64 (p1 : Int), .int .i64 (p2 : Int)] 31)) hgd s x 71 ho base 31 i0 _ 2 16 Tryz.underlying71 hinf hz0 hz1 hz2 rfl (by decide) v n (spc l) hs (hown.alloc _) ⟨W.heap.size, 0, none⟩ 1 1 (spV (p1, p2)) hx rfl (World.news_of_block (cs := #[.int .i64 (p1 : Int), .int .i64 (p2 : Int)]) (t := 31) (fr := (0, 0)) (heap_alloc_new W _)) (sp_one _) (by decide) (by unfold maxLen; omega) (by omega) (by rw [World.size_alloc]; omega) (W.heap.size + 1) (by rw [World.size_alloc]) ?_
  intro g cap w' h2 h3 _ _
  refine h g cap w' ?_ (U.grow_alloc h3)
  rw [spc_app, spc_one]
  exact h2
theorem own_fs {W : World} {B n : Nat} {v : Value} {xs : List Value} (h : W.ownsRow B 31 2 v n xs) : ∃ A c, v = .slice A n c := by
  rcases h.2 with ⟨rfl, rfl⟩ | ⟨g, cap, cur, rfl, _⟩
  · exact ⟨_, _, rfl⟩
  · exact ⟨_, _, rfl⟩
/-- While loops are told. -/
structure LoS (w wr : World) (r m kv : Value) (N n : Nat) (l : List (Nat × Nat)) (v : Value) : Prop where
  b : Below w.heap.size w wr
  x : VX wr w.heap.size r m kv
  o : wr.ownsRow N 31 2 v n (spc l)
  l : n = l.length
  n : w.heap.size + 1 ≤ N ∧ N ≤ wr.heap.size
theorem LoS.later {w wr w2 : World} {r m kv : Value} {N n : Nat} {l : List (Nat × Nat)} {v : Value} (h : LoS w wr r m kv N n l v) (hb : Below wr.heap.size wr w2) : LoS w w2 r m kv N n l v :=
  ⟨h.b.trans (hb.mono h.b.size), h.x.below hb, U.own_below h.o hb, h.l, h.n.1, Nat.le_trans h.n.2 hb.size⟩
theorem LoS.push {w wr w2 : World} {r m kv : Value} {N n : Nat} {l : List (Nat × Nat)} {v v2 : Value} {p : Nat × Nat} (h : LoS w wr r m kv N n l v) (ho : w2.ownsRow N 31 2 v2 (n + 1) (spc (l ++ [p]))) (hg : wr.grownBy w2 v.ownBlock) : LoS w w2 r m kv N (n + 1) (l ++ [p]) v2 := by
  have hlow : ∀ q, v.ownBlock = some q → N ≤ q := fun q hq => (h.o.lt q hq).1
  have hn := h.n
  refine ⟨below_grown h.b hg (fun q e => by have := hlow q e; omega), h.x.same (hg.block _ h.x.lt (fun e => by have := hlow _ e.symm; omega)), ho, by rw [List.length_append, h.l]; rfl, hn.1, Nat.le_trans hn.2 hg.size⟩
/-- Besides: which parts of the rule may match nothing. -/
structure LpS (w wr : World) (r m kv : Value) (N n : Nat) (l : List (Nat × Nat)) (v : Value) (gN cN ln : Nat) (E : Nat → Bool) : Prop where
  s : LoS w wr r m kv N n l v
  o : wr.ownsRow w.heap.size 4 1 (.slice (some ⟨gN, 0, none⟩) ln cN) ln ((List.range ln).map fun j => Value.bool (E j))
theorem LpS.later {w wr w2 : World} {r m kv : Value} {N n : Nat} {l : List (Nat × Nat)} {v : Value} {gN cN ln : Nat} {E : Nat → Bool} (h : LpS w wr r m kv N n l v gN cN ln E) (hb : Below wr.heap.size wr w2) : LpS w w2 r m kv N n l v gN cN ln E := ⟨h.s.later hb, U.own_below h.o hb⟩
theorem LpS.push {w wr w2 : World} {r m kv : Value} {N n : Nat} {l : List (Nat × Nat)} {v v2 : Value} {gN cN ln : Nat} {E : Nat → Bool} {p : Nat × Nat} (h : LpS w wr r m kv N n l v gN cN ln E) (ho : w2.ownsRow N 31 2 v2 (n + 1) (spc (l ++ [p]))) (hg : wr.grownBy w2 v.ownBlock) : LpS w w2 r m kv N (n + 1) (l ++ [p]) v2 gN cN ln E :=
  ⟨h.s.push ho hg, U.own_kept h.o hg (fun k e => own_apart h.s.o h.o (by decide) e)⟩
theorem LpS.at' {w wr : World} {r m kv : Value} {N n : Nat} {l : List (Nat × Nat)} {v : Value} {gN cN ln : Nat} {E : Nat → Bool} (h : LpS w wr r m kv N n l v gN cN ln E) {j : Nat} (hj : j < ln) : wr.cell? ⟨gN, j, none⟩ = some (.bool (E j)) := by
  obtain ⟨g5, c5, e5, _, _, x5, _⟩ := own_get h.o (j := j) (x := .bool (E j)) (by rw [List.getElem?_map, List.getElem?_range hj]; rfl)
  injection e5 with e6 _ _
  obtain ⟨rfl, _⟩ := Addr.mk.inj (Option.some.inj e6)
  exact x5
set_option maxRecDepth 100000 in
set_option maxHeartbeats 32000000 in
theorem vloops_any {gs : GL} {now : List Em} (mb : Nat) (A Ak : Option Addr) (c ck : Nat) (w : World) (hv : VwO w gs A mb Ak now) :
    Calls Tryz.prog 38 #[.agg #[.slice A gs.length c, .map (some mb), .slice Ak gs.length ck]] w fun e w' => (∃ v, e = .returned v ∧ w'.ownsRow w.heap.size 31 2 v (lpG gs (nbE now) gs.length).length (spc (lpG gs (nbE now) gs.length))) ∧ Below w.heap.size w w' := by
  have hn2 := hv.R.n2
  obtain ⟨w1, hw1⟩ : ∃ w1, w1 = w.alloc (.cells #[.slice A gs.length c, .map (some mb), .slice Ak gs.length ck] 66) := ⟨_, rfl⟩
  have HE1 := (show Hid (w.alloc (.cells #[.slice A gs.length c, .map (some mb), .slice Ak gs.length ck] 66) = w1) from hw1.symm)
  have hb1 : Below w.heap.size w w1 := by rw [hw1]; exact below_box _ _
  have hs1 : w1.heap.size = w.heap.size + 1 := by rw [hw1, World.size_alloc]
  have hx1 : VX w1 w.heap.size (.slice A gs.length c) (.map (some mb)) (.slice Ak gs.length ck) := by rw [hw1]; exact VX.new w _ _ _
  have HS := (show Hid (LoS w w1 (.slice A gs.length c) (.map (some mb)) (.slice Ak gs.length ck) (w.heap.size + 1) 0 (lpG gs (nbE now) 0) (.slice none 0 0)) from ⟨hb1, hx1, World.ownsRow_nil _ _ _ _, rfl, Nat.le_refl _, by omega⟩)
  have HV := (show Hid (VwO w gs A mb Ak now) from hv)
  have HLe := (show Hid (∀ i, i ≤ gs.length → (lpG gs (nbE now) i).length ≤ 409600) from fun i hi => by
    have h := lpG_len (nb := nbE now) (fun g hg => (rt_facts hv.R hg).2.2.2.2) i
    have : i * 2048 ≤ 200 * 2048 := Nat.mul_le_mul_right _ (by omega)
    omega)
  have y0 : w1.cell? ⟨w.heap.size, 0, none⟩ = _ := hx1.c0
  clear hw1 hb1 hs1 hx1 hv
  go_enter Tryz.func38, Tryz.ntmps38
  go_wp2_with (rw [HE1.out])
  clear HE1 y0
  go_loopw [3, 12] (fun v t wr => ∃ (k n : Nat), k ≤ gs.length ∧ n ≤ 409600 ∧ t = .int .i64 (k : Int) ∧ Hid (LoS w wr (.slice A gs.length c) (.map (some mb)) (.slice Ak gs.length ck) (w.heap.size + 1) n (lpG gs (nbE now) k) v)) (fun _ t _ => gs.length - (intOf t).toNat)
  case atStart => exact ⟨0, 0, Nat.zero_le _, by omega, by go_num, HS⟩
  case round =>
    obtain ⟨k, n, hk, hn, rfl, HW⟩ := hrel
    clear HS
    by_cases hlt : k < gs.length
    · obtain ⟨⟨gn, L⟩, hg⟩ : ∃ g, gs[k]? = some g := ⟨_, List.getElem?_eq_getElem hlt⟩
      have hm := List.mem_of_getElem? hg
      obtain ⟨hrt, _, _, hpos, hlen⟩ := rt_facts HV.out.R hm
      have hrt : Rt L := hrt
      have hpos : 0 < L.length := hpos
      have hlen : L.length ≤ 2048 := hlen
      obtain ⟨b, o, A3, c3, rfl, lb, x0, x1, r2⟩ := HV.out.g.d k _ hg
      have hLn : L ≠ [] := by rintro rfl; simp at hpos
      obtain ⟨gp, op, rfl, lp, cl⟩ := r2 hLn
      have x0' := (HW.out.b.cell (p := ⟨b, o + k * 2, none⟩) lb).trans x0
      have x1' := (HW.out.b.cell (p := ⟨b, o + k * 2 + 1, none⟩) lb).trans x1
      have z0 : (0 : Int) ≤ (k : Int) := by omega
      have z1 : (k : Int) < (gs.length : Int) := by omega
      obtain ⟨w4, hw4⟩ : ∃ w4, w4 = wr.alloc (.cells #[.string gn, .slice (some ⟨gp, op, none⟩) L.length c3] 52) := ⟨_, rfl⟩
      have HE4 := (show Hid (wr.alloc (.cells #[.string gn, .slice (some ⟨gp, op, none⟩) L.length c3] 52) = w4) from hw4.symm)
      have hb4 : Below wr.heap.size wr w4 := by rw [hw4]; exact below_box _ _
      have HR4 := (show Hid (RB w4 wr.heap.size gn (.slice (some ⟨gp, op, none⟩) L.length c3)) from by rw [hw4]; exact ⟨heap_alloc_new wr _⟩)
      have HW4 := (show Hid (LoS w w4 (.slice (some ⟨b, o, none⟩) gs.length c) (.map (some mb)) (.slice Ak gs.length ck) (w.heap.size + 1) n (lpG gs (nbE now) k) u3) from HW.out.later hb4)
      have y0 := HW4.out.x.c0
      have y1 := HW4.out.x.c1
      have y2 := HW4.out.x.c2
      have HNu := (show Hid (∀ _ : Unit, Calls Tryz.prog 40 #[.agg #[.slice (some ⟨b, o, none⟩) gs.length c, .map (some mb), .slice Ak gs.length ck], .int .i64 (k : Int)] w4 fun e w' => (∃ v, e = .returned v ∧ w'.ownsRow w4.heap.size 4 1 v L.length ((List.range L.length).map fun j => Value.bool (nuR gs now L j))) ∧ Below w4.heap.size w4 w') from fun _ => nullable_any mb (some ⟨b, o, none⟩) Ak c ck hg w4 (HV.out.later HW4.out.b))
      have HCl := (show Hid (NdL w gp op L ∧ gp < w.heap.size) from ⟨cl, lp⟩)
      have HLk := (show Hid (∀ j, j ≤ L.length → (lpG gs (nbE now) k ++ lpK k L (nuR gs now L) j).length ≤ 409600) from fun j hj => by
        have h1 := lpG_len (nb := nbE now) (fun g hg => (rt_facts HV.out.R hg).2.2.2.2) k
        have h2 := lpK_len (i := k) (L := L) (nu := nuR gs now L) j
        have : k * 2048 ≤ 199 * 2048 := Nat.mul_le_mul_right _ (by omega)
        rw [List.length_append]
        omega)
      have HSuc := (show Hid (∀ (j : Nat) n, L[j]? = some n → lpG gs (nbE now) k ++ lpK k L (nuR gs now L) (j + 1) = if rpB n && nuR gs now L (j - 1) then (lpG gs (nbE now) k ++ lpK k L (nuR gs now L) j) ++ [(k, j)] else lpG gs (nbE now) k ++ lpK k L (nuR gs now L) j) from fun j n hn => by
        rw [lpK_succ hn]
        split
        · rw [List.append_assoc]
        · rfl)
      have HFin := (show Hid (lpG gs (nbE now) k ++ lpK k L (nuR gs now L) L.length = lpG gs (nbE now) (k + 1)) from (lpG_succ hg).symm)
      have HRt := (show Hid (Rt L) from hrt)
      clear hg hm hrt lb x0 x1 r2 hLn lp cl hw4 hb4 HW
      go_wp2_with (rw [HE4.out])
      refine (HNu.out ()).mono ?_
      rintro e w5 ⟨⟨v5, rfl, ho5⟩, b5⟩
      obtain ⟨gN, cN, rfl, _, _, _, _⟩ := own_get ho5 (j := 0) (x := .bool (nuR gs now L 0)) (by rw [List.getElem?_map, List.getElem?_range hpos]; rfl)
      have HW5 := (show Hid (LpS w w5 (.slice (some ⟨b, o, none⟩) gs.length c) (.map (some mb)) (.slice Ak gs.length ck) (w.heap.size + 1) n (lpG gs (nbE now) k ++ lpK k L (nuR gs now L) 0) u3 gN cN L.length (nuR gs now L)) from ⟨by have h := HW4.out.later b5; rw [show lpK k L (nuR gs now L) 0 = [] from rfl, List.append_nil]; exact h, U.own_base ho5 HW4.out.b.size⟩)
      have r1 := (HR4.out.later b5).c1
      clear ho5 b5 HNu HE4 HR4 HW4 y0 y1 y2 x0' x1' hpos
      go_wp2_with fail
      clear r1
      go_loopw [3, 23] (fun v t wr => ∃ (j n2 : Nat), j ≤ L.length ∧ n2 ≤ 409600 ∧ t = .int .i64 (j : Int) ∧ Hid (LpS w wr (.slice (some ⟨b, o, none⟩) gs.length c) (.map (some mb)) (.slice Ak gs.length ck) (w.heap.size + 1) n2 (lpG gs (nbE now) k ++ lpK k L (nuR gs now L) j) v gN cN L.length (nuR gs now L))) (fun _ t _ => L.length - (intOf t).toNat)
      case atStart => exact ⟨0, n, Nat.zero_le _, by omega, by go_num, HW5⟩
      case round =>
        obtain ⟨j, n2, hj, hn2', rfl, HX⟩ := hrel
        clear HW5
        by_cases hjl : j < L.length
        · obtain ⟨nd, hnd⟩ : ∃ nd, L[j]? = some nd := ⟨_, List.getElem?_eq_getElem hjl⟩
          obtain ⟨c0, c1, c2, c3', c4, c5, c6⟩ := (HCl.out.1.same (HX.out.s.b.block gp HCl.out.2)) j nd hnd
          have z2 : (0 : Int) ≤ (j : Int) := by omega
          have z3 : (j : Int) < (L.length : Int) := by omega
          have HSj := hid_of (HSuc.out j nd hnd)
          have HPj := (show Hid (rpB nd = true → 0 < j) from fun h => rp_pos HRt.out hnd h)
          obtain ⟨w7, hw7⟩ : ∃ w7, w7 = wr.alloc (ndO nd) := ⟨_, rfl⟩
          have HE7 := (show Hid (wr.alloc (.cells #[.int .i64 nd.op, .int .i64 nd.nn, .string nd.tx, .int .u64 nd.s0, .int .u64 nd.s1, .int .u64 nd.s2, .int .u64 nd.s3] 57) = w7) from hw7.symm)
          have HN7 := (show Hid (NX w7 wr.heap.size nd) from by rw [hw7]; exact ⟨heap_alloc_new wr _⟩)
          have hb7 : Below wr.heap.size wr w7 := by rw [hw7]; exact below_box _ _
          have HX7 := (show Hid (LpS w w7 (.slice (some ⟨b, o, none⟩) gs.length c) (.map (some mb)) (.slice Ak gs.length ck) (w.heap.size + 1) n2 (lpG gs (nbE now) k ++ lpK k L (nuR gs now L) j) u3 gN cN L.length (nuR gs now L)) from HX.out.later hb7)
          have q0 : w7.cell? ⟨wr.heap.size, 0, none⟩ = some (.int .i64 nd.op) := HN7.out.nb.c0
          have q1 : w7.cell? ⟨wr.heap.size, 1, none⟩ = some (.int .i64 nd.nn) := HN7.out.nb.c1
          have q2 : w7.cell? ⟨wr.heap.size, 2, none⟩ = some (.string nd.tx) := HN7.out.nb.c2
          have q3 : w7.cell? ⟨wr.heap.size, 3, none⟩ = some (.int .u64 nd.s0) := HN7.out.nb.c3
          have q4 : w7.cell? ⟨wr.heap.size, 4, none⟩ = some (.int .u64 nd.s1) := HN7.out.nb.c4
          have q5 : w7.cell? ⟨wr.heap.size, 5, none⟩ = some (.int .u64 nd.s2) := HN7.out.nb.c5
          have q6 : w7.cell? ⟨wr.heap.size, 6, none⟩ = some (.int .u64 nd.s3) := HN7.out.nb.c6
          have HRp := (show Hid (∀ _ : Unit, Calls Tryz.prog 55 #[ndG nd] w7 fun e w' => e = .returned (.bool (rpB nd)) ∧ Below w7.heap.size w7 w') from fun _ => repeats_any nd w7)
          clear hnd hw7 hb7 HX HN7
          go_wp2_with (rw [HE7.out])
          refine (HRp.out ()).mono ?_
          rintro e w8 ⟨rfl, b8⟩
          have HX8 := (show Hid (LpS w w8 (.slice (some ⟨b, o, none⟩) gs.length c) (.map (some mb)) (.slice Ak gs.length ck) (w.heap.size + 1) n2 (lpG gs (nbE now) k ++ lpK k L (nuR gs now L) j) u3 gN cN L.length (nuR gs now L)) from HX7.out.later b8)
          clear HRp HE7 HX7 b8 c0 c1 c2 c3' c4 c5 c6 q0 q1 q2 q3 q4 q5 q6
          cases hrp : rpB nd with
          | false =>
            have HN := (show Hid (LpS w w8 (.slice (some ⟨b, o, none⟩) gs.length c) (.map (some mb)) (.slice Ak gs.length ck) (w.heap.size + 1) n2 (lpG gs (nbE now) k ++ lpK k L (nuR gs now L) (j + 1)) u3 gN cN L.length (nuR gs now L)) from by rw [HSj.out, hrp, Bool.false_and, if_neg Bool.noConfusion]; exact HX8.out)
            clear HX8 HSj HPj hrp
            go_wp2_with fail
            go_roundw
            case rel => exact ⟨j + 1, n2, by omega, by omega, by go_num, HN⟩
            case measure => simp [intOf]; omega
          | true =>
            obtain ⟨j0, hj0⟩ : ∃ j0, j = j0 + 1 := ⟨j - 1, by have := HPj.out hrp; omega⟩
            have hsub : (j : Int) - 1 = (j0 : Int) := by omega
            have z4 : (0 : Int) ≤ (j0 : Int) := by omega
            have z5 : (j0 : Int) < (L.length : Int) := by omega
            have m0 := HX8.out.at' (j := j0) (by omega)
            cases hnu : nuR gs now L j0 with
            | false =>
              rw [hnu] at m0
              have HN := (show Hid (LpS w w8 (.slice (some ⟨b, o, none⟩) gs.length c) (.map (some mb)) (.slice Ak gs.length ck) (w.heap.size + 1) n2 (lpG gs (nbE now) k ++ lpK k L (nuR gs now L) (j + 1)) u3 gN cN L.length (nuR gs now L)) from by rw [HSj.out, hrp, Bool.true_and, show j - 1 = j0 from by omega, hnu, if_neg Bool.noConfusion]; exact HX8.out)
              have hj1 : j + 1 ≤ L.length := by omega
              have HJ := (show Hid (j = j0 + 1) from hj0)
              clear HX8 HSj HPj hrp hnu hj0
              go_wp2_with fail
              go_roundw
              case rel => exact ⟨j + 1, n2, by omega, by omega, by go_num, HN⟩
              case measure => simp [intOf]; omega
            | true =>
              rw [hnu] at m0
              obtain ⟨A2, c2, hA2⟩ := own_fs HX8.out.s.o
              have HO8 := (show Hid (w8.ownsRow (w.heap.size + 1) 31 2 u3 n2 (spc (lpG gs (nbE now) k ++ lpK k L (nuR gs now L) j))) from HX8.out.s.o)
              have HN8 := (show Hid (w.heap.size + 1 ≤ w8.heap.size) from HX8.out.s.n.2)
              have HPu := (show Hid (∀ (g9 cap9 : Nat) (w9 : World), w9.ownsRow (w.heap.size + 1) 31 2 (.slice (some ⟨g9, 0, none⟩) (n2 + 1) cap9) (n2 + 1) (spc ((lpG gs (nbE now) k ++ lpK k L (nuR gs now L) j) ++ [(k, j)])) → w8.grownBy w9 u3.ownBlock → Hid (LpS w w9 (.slice (some ⟨b, o, none⟩) gs.length c) (.map (some mb)) (.slice Ak gs.length ck) (w.heap.size + 1) (n2 + 1) (lpG gs (nbE now) k ++ lpK k L (nuR gs now L) (j + 1)) (.slice (some ⟨g9, 0, none⟩) (n2 + 1) cap9) gN cN L.length (nuR gs now L)) ∧ n2 + 1 ≤ 409600) from fun g9 cap9 w9 h1 h2 => by
                have e : lpG gs (nbE now) k ++ lpK k L (nuR gs now L) (j + 1) = (lpG gs (nbE now) k ++ lpK k L (nuR gs now L) j) ++ [(k, j)] := by rw [HSj.out, hrp, Bool.true_and, show j - 1 = j0 from by omega, hnu, if_pos rfl]
                have hl := HX8.out.s.l
                have hb := HLk.out (j + 1) (by omega)
                rw [e, List.length_append, ← hl] at hb
                refine ⟨?_, hb⟩
                show LpS _ _ _ _ _ _ _ _ _ _ _ _ _
                rw [e]
                exact HX8.out.push h1 h2)
              have hj1 : j + 1 ≤ L.length := by omega
              have HJ := (show Hid (j = j0 + 1) from hj0)
              subst hA2
              clear HX8 HSj HPj hrp hnu hj0
              go_wp2_with (at_builtin; refine wpList_appS rfl _ _ rfl (w.heap.size + 1) n2 _ _ rfl rfl HO8.out (by omega) HN8.out ?_; intro g9 cap9 w9 ho9 hg9; obtain ⟨HV9, hn9⟩ := HPu.out g9 cap9 w9 ho9 hg9; clear ho9 hg9 HPu HO8 HN8 m0)
              go_roundw
              case rel => exact ⟨j + 1, n2 + 1, by omega, hn9, by go_num, HV9⟩
              case measure => simp [intOf]; omega
        · obtain rfl : j = L.length := by omega
          have HN := (show Hid (LoS w wr (.slice (some ⟨b, o, none⟩) gs.length c) (.map (some mb)) (.slice Ak gs.length ck) (w.heap.size + 1) n2 (lpG gs (nbE now) (k + 1)) u3) from by rw [← HFin.out]; exact HX.out.s)
          clear HX HSuc HFin HRt HLk HCl
          go_wp2_with fail
          go_roundw
          case rel => exact ⟨k + 1, n2, by omega, by omega, by go_num, HN⟩
          case measure => simp [intOf]; omega
    · obtain rfl : k = gs.length := by omega
      have HO := (show Hid (wr.ownsRow w.heap.size 31 2 u3 (lpG gs (nbE now) gs.length).length (spc (lpG gs (nbE now) gs.length)) ∧ Below w.heap.size w wr) from ⟨by have h := own_base HW.out.o (Nat.le_succ w.heap.size); rw [HW.out.l] at h; exact h, HW.out.b⟩)
      clear HW HV HLe
      go_wp2_with fail
      go_ret
      exact ⟨⟨_, rfl, HO.out.1⟩, HO.out.2⟩
end Go.Proofs.YtbipjdgholdhcabGreat.N
