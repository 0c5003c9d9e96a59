/- DERIVED. Plain mathematics and walks, laid together (13). -/
import Derived.Test.YtbipjdgholdhcaaGreatFi12
namespace Go.Proofs.YtbipjdgholdhcaaGreat.N
open Go.RowKit Go.Maps
open Go.Proofs.YtbipjdgholdhcaaGreat.T

open U (own_get own_slice below_grown info_split)
set_option maxRecDepth 100000 in
set_option maxHeartbeats 128000000 in
/-- The document: the heads of a rule. -/
theorem headsD_any {gs : GL} (hR : RtG gs) (nb : List Bool) (hlo : nb.length = gs.length) {r : Nat} {gn : ByteArray} {L : List Nd} (hg : gs[r]? = some (gn, L)) (A : Option Addr) (c gI ci : Nat) (w : World) (hp : GI w A gs) (hr : RdB w gI nb) :
    Calls Tryz.prog 31 #[.agg #[.slice A gs.length c], .int .i64 (r : Int), .slice (some ⟨gI, 0, none⟩) gs.length ci] w fun e w' => (∃ (v : Value) (out : List Bool), e = .returned v ∧ out.length = gs.length ∧ (∀ (q : Nat), out[q]? = some true ↔ hbA (kdR L) (nuA (kdR L) (lkB gs nb) L) (fdG gs) L (L.length - 1) q = true) ∧ w'.ownsRow w.heap.size 4 1 v gs.length (out.map Value.bool)) ∧ Below w.heap.size w w' := by
  have hn := hR.n2
  have hm := List.mem_of_getElem? hg
  have hrl : r < gs.length := (List.getElem?_eq_some_iff.1 hg).1
  have hrt : Rt L := rt_of (hR.ck _ hm)
  have hpos : 0 < L.length := body_pos hR hm
  have hgl : L.length ≤ 2048 := by have := hrt.len; omega
  have hsz : ∀ n ∈ L, n.tx.size ≤ 140737488355328 := (hp.t _ hm).2.2
  have hfd : ∀ n ∈ L, n.op = 6 → ∃ i, fdG gs n.tx = some i := fun n q h6 => hR.dn.c _ hm n q h6
  have HP := (show Hid (GI w A gs) from hp)
  have hp2 := hp
  obtain ⟨b, o, A3, c3, rfl, lb, _, x1, r2⟩ := hp.d r _ hg
  obtain ⟨gp, op, rfl, lp, cl⟩ := r2 (by rintro rfl; simp at hpos)
  obtain ⟨A, hA⟩ : ∃ A : Option Addr, A = some ⟨b, o, none⟩ := ⟨_, rfl⟩
  obtain ⟨may, hmay⟩ : ∃ may, may = nuA (kdR L) (lkB gs nb) L := ⟨_, rfl⟩
  obtain ⟨w1, hw1⟩ : ∃ w1, w1 = w.alloc (.cells #[.slice (some ⟨b, o, none⟩) gs.length c] 24) := ⟨_, rfl⟩
  have HE1 := (show Hid (w.alloc (.cells #[.slice (some ⟨b, o, none⟩) gs.length c] 24) = w1) from hw1.symm)
  have hs1 : w1.heap.size = w.heap.size + 1 := by rw [hw1, World.size_alloc]
  have hg1 : GX w1 w.heap.size (.slice (some ⟨b, o, none⟩) gs.length c) := by rw [hw1]; exact GX.mk (heap_alloc_new w _)
  have hb1 : Below w.heap.size w w1 := by rw [hw1]; exact below_box _ _
  have q1 := hg1.cl
  have x1' := (hb1.cell (p := ⟨b, o + r * 2 + 1, none⟩) lb).trans x1
  have HMay := (show Hid (may = nuA (kdR L) (lkB gs nb) L) from hmay)
  have HPd := (show Hid (∀ _ : Unit, Calls Tryz.prog 43 #[.agg #[.slice (some ⟨b, o, none⟩) gs.length c], .slice (some ⟨gp, op, none⟩) L.length c3, .slice (some ⟨gI, 0, none⟩) gs.length ci] w1 fun e w' => (∃ gM cM, e = .returned (.slice (some ⟨gM, 0, none⟩) L.length cM) ∧ gM < w'.heap.size ∧ ∀ i, i < L.length → w'.cell? ⟨gM, i, none⟩ = some (.bool (may i))) ∧ Below w1.heap.size w1 w') from fun _ => by
    have h := nothing10_any hrt hsz hfd nb hlo (some ⟨b, o, none⟩) (some ⟨gp, op, none⟩) c c3 gI ci w1 (hp2.later hb1) (fun _ => ⟨gp, op, rfl, Nat.lt_of_lt_of_le lp hb1.size, cl.same (hb1.block gp lp)⟩) (hr.later hb1)
    refine h.mono ?_
    rintro e w' ⟨⟨v, rfl, ho⟩, bb⟩
    obtain ⟨gM, cM, rfl, _, l2, _, _⟩ := own_get ho (j := 0) (x := .bool (nuA (kdR L) (lkB gs nb) L 0)) (by rw [List.getElem?_map, List.getElem?_range hpos]; rfl)
    refine ⟨⟨gM, cM, rfl, l2, fun i hi => ?_⟩, bb⟩
    obtain ⟨g', c', e2, _, _, x, _⟩ := own_get ho (j := i) (x := .bool (nuA (kdR L) (lkB gs nb) L i)) (by rw [List.getElem?_map, List.getElem?_range hi]; rfl)
    have e1 : gM = g' := by injection e2 with e1; injection e1 with e1; injection e1
    subst e1
    rw [hmay]
    exact x)
  have HBg := (show Hid (∀ W, Below w1.heap.size w1 W → Calls Tryz.prog 50 #[.slice (some ⟨gp, op, none⟩) L.length c3] W fun e w' => (∃ gB cB, e = .returned (.slice (some ⟨gB, 0, none⟩) L.length cB) ∧ gB < w'.heap.size ∧ ∀ i, i < L.length → w'.cell? ⟨gB, i, none⟩ = some (.int .i64 (pt L i).1)) ∧ Below W.heap.size W w') from fun W hW => by
    have hbW := hb1.trans (hW.mono hb1.size)
    have h := begins9_any L (some ⟨gp, op, none⟩) c3 hrt hsz W (fun _ => ⟨gp, op, rfl, Nat.lt_of_lt_of_le lp hbW.size, cl.same (hbW.block gp lp)⟩)
    refine h.mono ?_
    rintro e w' ⟨⟨v, rfl, ho⟩, bb⟩
    obtain ⟨gB, cB, rfl, _, l2, _, _⟩ := own_get ho (j := 0) (x := .int .i64 (pt L 0).1) (bgc_get hpos)
    refine ⟨⟨gB, cB, rfl, l2, fun i hi => ?_⟩, bb⟩
    obtain ⟨g', c', e2, _, _, x, _⟩ := own_get ho (j := i) (x := .int .i64 (pt L i).1) (bgc_get hi)
    have e1 : gB = g' := by injection e2 with e1; injection e1 with e1; injection e1
    subst e1
    exact x)
  have HMk := (show Hid (∀ (W : World) (B m : Nat), m ≤ 2048 → B ≤ W.heap.size → ∃ w2, (Instr.makeSlice 76 (.int .i64 (m : Int)) (.int .i64 (m : Int))).run Tryz.prog W = .ok (.slice (some ⟨W.heap.size, 0, none⟩) m m) w2 ∧ w2.ownsRow B 4 1 (.slice (some ⟨W.heap.size, 0, none⟩) m m) m ((List.replicate m false).map Value.bool) ∧ W.grownBy w2 none) from fun W B m h1 h2 => by
    obtain ⟨i0, hinf, hz0, hz1, hz2⟩ := info_split Tryz.info4
    obtain ⟨w2, hmk, ho, hg⟩ := run_make_full (P := Tryz.prog) W B 76 4 i0 (.bool false) 1 Tryz.underlying76 hinf hz0 hz1 .i64 .i64 m (by rw [hz2]; omega) (by unfold maxLen; omega) h2
    refine ⟨w2, hmk, ?_, hg⟩
    have e : (madeCells (Value.cells (.bool false)) (m * 1)).toList = List.replicate m (Value.bool false) := by rw [Nat.mul_one]; exact toList_madeCells_one _ _
    rw [e] at ho
    rw [List.map_replicate]
    exact ho)
  have HRt := (show Hid (Rt L ∧ Kds (kdR L) L ∧ (∀ n ∈ L, alE n = 0) ∧ 0 < L.length ∧ L.length ≤ 2048 ∧ gs.length ≤ 200) from ⟨hrt, kds_R hrt, fun n q => by
    obtain ⟨k, hk⟩ := List.getElem?_of_mem q
    exact (er_ok hk (hrt.each k (List.getElem?_eq_some_iff.1 hk).1)).al, hpos, hgl, hn⟩)
  have HCl := (show Hid (NdL w gp op L ∧ gp < w.heap.size) from ⟨cl, lp⟩)
  have HFd := (show Hid (∀ n ∈ L, n.op = 6 → ∃ i, fdG gs n.tx = some i) from hfd)
  have HNu := (show Hid (∀ (W : World) (s : ByteArray), Below w.heap.size w W → Calls Tryz.prog 51 #[.agg #[.slice (some ⟨b, o, none⟩) gs.length c], .string s] W fun e w' => e = .returned (.int .i64 (fdN gs s)) ∧ Below W.heap.size W w') from fun W s hW => number_any gs _ c s W (HP.out.later hW))
  have HX1 := (show Hid (GX w1 w.heap.size (.slice (some ⟨b, o, none⟩) gs.length c) ∧ Below w.heap.size w w1 ∧ w1.heap.size = w.heap.size + 1) from ⟨hg1, hb1, hs1⟩)
  have hjl0 : ∃ jl : Nat, L.length = jl + 1 := ⟨L.length - 1, by omega⟩
  obtain ⟨jl, hjl⟩ := hjl0
  have hsub : (L.length : Int) - 1 = (jl : Int) := by omega
  have hjl2 : L.length - 1 = jl := by omega
  have z0 : (0 : Int) ≤ (r : Int) := by omega
  have z1 : (r : Int) < (gs.length : Int) := by omega
  have z2 : (0 : Int) ≤ (jl : Int) := by omega
  have z3 : (jl : Int) < (L.length : Int) := by omega
  have HJl := (show Hid (L.length - 1 = jl) from hjl2)
  clear hjl hjl2 hpos
  clear hg hm hrl hrt hsz hfd hp2 hp lb x1 r2 lp cl hA hmay hw1 hs1 hg1 hb1 hr hlo hR HP
  go_enter Tryz.func31, Tryz.ntmps31
  go_wp2_with (rw [HE1.out])
  refine (HPd.out ()).mono ?_
  rintro e w2 ⟨⟨gM, cM, rfl, lM, hM⟩, b2⟩
  have HMc := (show Hid (gM < w2.heap.size ∧ (∀ i, i < L.length → w2.cell? ⟨gM, i, none⟩ = some (.bool (may i))) ∧ Below w1.heap.size w1 w2) from ⟨lM, hM, b2⟩)
  clear HPd lM hM b2 HE1 q1 x1'
  go_wp2_with fail
  refine (HBg.out w2 HMc.out.2.2).mono ?_
  rintro e w3 ⟨⟨gB, cB, rfl, lB, hB⟩, b3⟩
  obtain ⟨w4, hmk4, ho4, hg4⟩ := HMk.out w3 w3.heap.size gs.length (by have := HRt.out.2.2.2.2.2; omega) (Nat.le_refl _)
  have hs4 : w3.heap.size < w4.heap.size := (ho4.lt _ rfl).2
  obtain ⟨w5, hmk5, ho5, hg5⟩ := HMk.out w4 w3.heap.size L.length HRt.out.2.2.2.2.1 (Nat.le_of_lt hs4)
  have b34 : Below w3.heap.size w3 w4 := below_grown (Below.refl _ _) hg4 (fun k e => by cases e)
  have b45 : Below w4.heap.size w4 w5 := below_grown (Below.refl _ _) hg5 (fun k e => by cases e)
  have b35 := b34.trans (b45.mono b34.size)
  have HS5 := (show Hid (HeS w w5 (.slice (some ⟨b, o, none⟩) gs.length c) gs L may gM gB w3.heap.size w4.heap.size w3.heap.size (List.replicate L.length false) (List.replicate gs.length false)) from by
    obtain ⟨lM, hM, b2⟩ := HMc.out
    obtain ⟨hg1, hb1, hs1⟩ := HX1.out
    have b13 := b2.trans (b3.mono b2.size)
    refine ⟨(hb1.trans (b13.mono hb1.size)).trans (b35.mono (hb1.trans (b13.mono hb1.size)).size), (hg1.below b13).below b35, fun i hi => ?_, fun i hi => ?_, U.own_below ho4 b45, ho5, List.length_replicate, List.length_replicate, Nat.lt_of_lt_of_le lM b3.size, lB, Nat.ne_of_lt hs4, by have := b13.size; omega, b35.size⟩
    · exact (b35.cell (p := ⟨gM, i, none⟩) (Nat.lt_of_lt_of_le lM b3.size)).trans ((b3.cell (p := ⟨gM, i, none⟩) lM).trans (hM i hi))
    · exact (b35.cell (p := ⟨gB, i, none⟩) lB).trans (hB i hi))
  have q5 := HS5.out.x.cl
  have q3 := (show w3.cell? ⟨w.heap.size, 0, none⟩ = some (.slice (some ⟨b, o, none⟩) gs.length c) from by
    obtain ⟨lM, hM, b2⟩ := HMc.out
    exact ((HX1.out.1.below b2).below b3).cl)
  have f5 := ho5.frozenAt jl
  have c5 := (show w5.cell? ⟨w4.heap.size, jl, none⟩ = some (.bool false) from by
    obtain ⟨g5, cc5, e5, _, _, c5, _⟩ := own_get ho5 (j := jl) (x := .bool false) (by rw [List.getElem?_map, List.getElem?_replicate, if_pos (by omega)]; rfl)
    have eg : w4.heap.size = g5 := by injection e5 with e1; injection e1 with e1; injection e1
    rw [eg]
    exact c5)
  have HS := (show Hid (HeS w (w5.setCell ⟨w4.heap.size, jl, none⟩ (.bool true)) (.slice (some ⟨b, o, none⟩) gs.length c) gs L may gM gB w3.heap.size w4.heap.size w3.heap.size ((List.replicate L.length false).set jl true) (List.replicate gs.length false)) from HS5.out.want jl true)
  have HD0 := (show Hid (HdI gs may L L.length ((List.replicate L.length false).set jl true) (List.replicate gs.length false)) from by
    have h := HdI.start (gs := gs) (may := may) HRt.out.2.1 HRt.out.2.2.2.1
    rw [HJl.out] at h
    exact h)
  clear HJl HMc HX1 HBg HMk lB hB b3 ho4 ho5 hg4 hg5 b34 b45 b35 HS5 hs4
  go_wp2_with fail
  clear hmk4 hmk5 q3 q5 f5 c5
  generalize w3.heap.size = gO at *
  generalize w4.heap.size = gT at *
  obtain ⟨B, hB⟩ : ∃ B, B = gO := ⟨_, rfl⟩
  have HS := (show Hid (HeS w (w5.setCell ⟨gT, jl, none⟩ (.bool true)) (.slice (some ⟨b, o, none⟩) gs.length c) gs L may gM gB gO gT B ((List.replicate L.length false).set jl true) (List.replicate gs.length false)) from by rw [hB]; exact HS)
  clear hB
  go_loopw [12] (fun t wr => ∃ (k : Nat) (want out : List Bool), k ≤ L.length ∧ t = .int .i64 ((k : Int) - 1) ∧ Hid (HeS w wr (.slice (some ⟨b, o, none⟩) gs.length c) gs L may gM gB gO gT B want out) ∧ Hid (HdI gs may L k want out)) (fun t _ => (intOf t + 1).toNat)
  case atStart => exact ⟨L.length, _, _, Nat.le_refl _, by rw [hsub], HS, HD0⟩
  case round =>
    obtain ⟨k, want, out, hk, rfl, HW, HD⟩ := hrel
    clear HS HD0
    by_cases hk0 : k = 0
    · subst hk0
      have HFn := (show Hid (∀ (q : Nat), out[q]? = some true ↔ hbA (kdR L) (nuA (kdR L) (lkB gs nb) L) (fdG gs) L (L.length - 1) q = true) from fun q => by
        have h := HD.out.fin HRt.out.2.1 HRt.out.2.2.1 HRt.out.2.2.2.1 q
        rw [HMay.out] at h
        exact h)
      have HO := (show Hid (wr.ownsRow w.heap.size 4 1 (.slice (some ⟨gO, 0, none⟩) gs.length gs.length) gs.length (out.map Value.bool) ∧ out.length = gs.length ∧ Below w.heap.size w wr) from ⟨T.own_base HW.out.o (by have := HW.out.n.2.2.2.1; omega), HW.out.lo, HW.out.b⟩)
      rw [show ((0 : Nat) : Int) - 1 = -1 from rfl]
      clear HW HD HNu HFd HCl HRt HMay
      go_wp2_with fail
      go_ret
      exact ⟨⟨_, out, rfl, HO.out.2.1, HFn.out, HO.out.1⟩, HO.out.2.2⟩
    · obtain ⟨i, rfl⟩ : ∃ i, k = i + 1 := ⟨k - 1, by omega⟩
      rw [show ((i + 1 : Nat) : Int) - 1 = (i : Int) from by omega]
      have hil : i < L.length := by omega
      obtain ⟨n, hn⟩ : ∃ n, L[i]? = some n := ⟨_, List.getElem?_eq_getElem hil⟩
      have HNn := (show Hid (L[i]? = some n) from hn)
      obtain ⟨hop, _⟩ := al_facts (HRt.out.2.2.1 n (List.mem_of_getElem? hn))
      obtain ⟨d0, d1, d2, d3, d4, d5, d6⟩ := (HCl.out.1.same (HW.out.b.block gp HCl.out.2)) i n hn
      obtain ⟨w2, hw2⟩ : ∃ w2, w2 = wr.alloc (ndO n) := ⟨_, rfl⟩
      have HE2 := (show Hid (wr.alloc (.cells #[.int .i64 n.op, .int .i64 n.nn, .string n.tx, .int .u64 n.s0, .int .u64 n.s1, .int .u64 n.s2, .int .u64 n.s3] 50) = w2) from hw2.symm)
      have HN2 := (show Hid (NX w2 wr.heap.size n) from by rw [hw2]; exact ⟨heap_alloc_new wr _⟩)
      have hb2 : Below wr.heap.size wr w2 := by rw [hw2]; exact below_box _ _
      have HW2 := (show Hid (HeS w w2 (.slice (some ⟨b, o, none⟩) gs.length c) gs L may gM gB gO gT B want out) from HW.out.later hb2)
      obtain ⟨hb, hhb⟩ : ∃ hb, hb = wr.heap.size := ⟨_, rfl⟩
      have HHb := (show Hid (hb ≠ gT) from by have := (HW.out.t.lt gT rfl).2; show _ ≠ _; omega)
      have HHo := (show Hid (hb ≠ gO) from by have := (HW.out.o.lt gO rfl).2; show _ ≠ _; omega)
      have n0 : w2.cell? ⟨wr.heap.size, 0, none⟩ = some (.int .i64 n.op) := HN2.out.nb.c0
      have n1 : w2.cell? ⟨wr.heap.size, 1, none⟩ = some (.int .i64 n.nn) := HN2.out.nb.c1
      have n2 : w2.cell? ⟨wr.heap.size, 2, none⟩ = some (.string n.tx) := HN2.out.nb.c2
      have HNb0 := (show Hid (hb < w2.heap.size ∧ w2.cell? ⟨hb, 0, none⟩ = some (.int .i64 n.op)) from by rw [hhb]; exact ⟨HN2.out.lt, n0⟩)
      have q2 := HW2.out.x.cl
      obtain ⟨wb, hwb⟩ : ∃ wb, want[i]? = some wb := ⟨_, List.getElem?_eq_getElem (by rw [HW2.out.lw]; exact hil)⟩
      have HWi := (show Hid (wb = true ↔ Wh may L i) from by
        have h := HD.out.here HRt.out.2.1
        rw [hwb] at h
        rw [← h]
        exact ⟨fun e => by rw [e], fun e => Option.some.inj e⟩)
      obtain ⟨gt2, ct2, et2, _, _, xw, _⟩ := own_get HW2.out.t (j := i) (x := .bool wb) (by rw [List.getElem?_map, hwb]; rfl)
      have egt : gT = gt2 := by injection et2 with e1; injection e1 with e1; injection e1
      clear et2
      subst egt
      have y0 : (0 : Int) ≤ (i : Int) := by omega
      have y1 : (i : Int) < (L.length : Int) := by omega
      obtain ⟨mm, hmm⟩ : ∃ mm, mm = arN n.op := ⟨_, rfl⟩
      have HKm := (show Hid (mm = arN n.op) from hmm)
      have HKs := (show Hid (Kds (kdR L) L) from HRt.out.2.1)
      have HLt := (show Hid (i < L.length) from hil)
      have HKi := (show Hid (∀ (W : World) (wa ou : List Bool), HeS w W (.slice (some ⟨b, o, none⟩) gs.length c) gs L may gM gB gO gT B wa ou → Calls Tryz.prog 52 #[.slice (some ⟨gp, op, none⟩) L.length c3, .slice (some ⟨gB, 0, none⟩) L.length cB, .int .i64 (i : Int)] W fun e w' => (∃ A4 c4, e = .returned (.slice A4 mm c4) ∧ ∀ (t j : Nat), (kdR L i)[t]? = some j → ∃ gK, A4 = some ⟨gK, 0, none⟩ ∧ W.heap.size ≤ gK ∧ gK < w'.heap.size ∧ w'.cell? ⟨gK, t, none⟩ = some (.int .i64 (j : Int))) ∧ Below W.heap.size W w') from fun W wa ou hW => by
        have h := kids_any L gp op c3 gB cB i HRt.out.2.2.2.2.1 HLt.out (fun i hi => HRt.out.1.each i hi) W (HCl.out.1.same (hW.b.block gp HCl.out.2)) (Nat.lt_of_lt_of_le HCl.out.2 hW.b.size) hW.r
        have e : lastc ((run L i).take (arN (T.opAt L i))).reverse = (kdR L i).map fun j : Nat => Value.int .i64 (j : Int) := by
          unfold lastc kdR
          rw [List.map_map]
          rfl
        rw [e, op_of HNn.out, ← HKm.out] at h
        refine h.mono ?_
        rintro e w' ⟨⟨v, rfl, ho⟩, bb⟩
        obtain ⟨A4, c4, rfl⟩ := own_slice ho
        refine ⟨⟨A4, c4, rfl, fun t j hj => ?_⟩, bb⟩
        obtain ⟨gK, cK, eK, l1, l2, xK, _⟩ := own_get ho (j := t) (x := .int .i64 (j : Int)) (by rw [List.getElem?_map, hj]; rfl)
        injection eK with eK1 _ _
        exact ⟨gK, eK1, l1, l2, xK⟩)
      clear hn hw2 hb2 HW HN2 hwb hmm hk0 hil
      have HHe := (show Hid (hb = wr.heap.size) from hhb)
      clear hhb
      cases wb with
      | false =>
        have HD2 := (show Hid (HdI gs may L i want out) from HD.out.skip (fun p q => by have := HWi.out.2 q; cases this) (fun p q => by have := HWi.out.2 q; cases this))
        clear HD HKi HNu HFd HWi HNn HKm HKs HLt HNb0 HHb HHo HCl HRt HMay
        go_wp2_with (rw [HE2.out])
        go_roundw
        case rel => exact ⟨i, want, out, by omega, by go_num, HW2, HD2⟩
        case measure => simp [intOf] <;> omega
      | true =>
        have HWi := (show Hid (Wh may L i) from HWi.out.1 rfl)
        clear HCl HRt HMay
        by_cases c14 : n.op = 14
        · by_cases cz : n.nn = 0
          · have t14 : (n.op == 14) = true := by rw [c14]; rfl
            have tz : (n.nn == 0) = true := by rw [cz]; rfl
            have hc : (n.op = 14 ∨ n.op = 16) ∧ n.nn = 0 := ⟨.inl c14, cz⟩
            have HC := (show Hid ((n.op = 14 ∨ n.op = 16) ∧ n.nn = 0) from hc)
            have H6 := (show Hid (n.op ≠ 6) from by show _ ≠ _; omega)
            have H7 := (show Hid (n.op ≠ 7) from by show _ ≠ _; omega)
            clear hc c14 cz
            have HD2 := (show Hid (HdI gs may L i want out) from HD.out.skip (fun p _ => by unfold stB; rw [HNn.out]; simp [HC.out]) (fun q _ => by unfold clB; rw [HNn.out]; simp; intro e; have := HC.out.1; omega))
            clear HD HKi HNu HFd HWi HNn HC HKm HKs HLt HNb0 HHb HHo
            go_wp2_with (rw [HE2.out])
            go_roundw
            case rel => exact ⟨i, want, out, by omega, by go_num, HW2, HD2⟩
            case measure => simp [intOf] <;> omega
          · have t14 : (n.op == 14) = true := by rw [c14]; rfl
            have tz : (n.nn == 0) = false := by rw [beq_eq_false_iff_ne]; exact cz
            have hc : ¬((n.op = 14 ∨ n.op = 16) ∧ n.nn = 0) := fun q => cz q.2
            have HC := (show Hid (¬((n.op = 14 ∨ n.op = 16) ∧ n.nn = 0)) from hc)
            have H6 := (show Hid (n.op ≠ 6) from by show _ ≠ _; omega)
            have H7 := (show Hid (n.op ≠ 7) from by show _ ≠ _; omega)
            clear hc c14 cz
            have HCut := (show Hid (¬((n.op = 14 ∨ n.op = 16) ∧ n.nn = 0)) from HC.out)
            have HWh := (show Hid (Wh may L i) from HWi.out)
            have t6 : (n.op == 6) = false := by rw [beq_eq_false_iff_ne]; exact H6.out
            have HK0 := (show Hid (HkI gs may L i n 0 want out) from HkI.quiet HD.out HNn.out H6.out)
            have HNb := HNb0
            have h7 : n.op ≠ 7 := H7.out
            clear HNu HFd HWi HD HC H6 H7
            go_wp2_with (rw [HE2.out])
            clear HE2 n1 n2 xw
            refine (HKi.out _ want out HW2.out).mono ?_
            rintro e w4 ⟨⟨A4, c4, rfl, hk4⟩, b4⟩
            have HF0 := (show Hid (HfS w w4 (.slice (some ⟨b, o, none⟩) gs.length c) gs L may gM gB gO gT B want out A4 hb i n) from ⟨HW2.out.later b4, fun t j hj => by
              obtain ⟨gK, e1, e2, e3, e4⟩ := hk4 t j hj
              refine ⟨gK, e1, e3, fun e => ?_, e4⟩
              have := (HW2.out.t.lt gT rfl).2
              omega, (b4.cell (p := ⟨hb, 0, none⟩) HNb.out.1).trans HNb.out.2, Nat.lt_of_lt_of_le HNb.out.1 b4.size, HHb.out⟩)
            clear hk4 b4
            rw [← HHe.out]
            clear HHe
            clear HW2 HNb HNb0 HKi n0
            go_wp2_with fail
            have HLn := (show Hid ((kdR L i).length = mm ∧ Kds (kdR L) L ∧ i < L.length ∧ mm ≤ 2) from ⟨by rw [HKs.out.n i n HNn.out, ← HKm.out], HKs.out, HLt.out, by rw [HKm.out]; exact arN_le _⟩)
            go_loopw [15] (fun t wr => ∃ (m : Nat) (wa : List Bool), m ≤ mm ∧ t = .int .i64 (m : Int) ∧ Hid (HfS w wr (.slice (some ⟨b, o, none⟩) gs.length c) gs L may gM gB gO gT B wa out A4 hb i n) ∧ Hid (HkI gs may L i n m wa out)) (fun t _ => mm - (intOf t).toNat)
            case atStart => exact ⟨0, want, by omega, by go_num, HF0, HK0⟩
            case round =>
              obtain ⟨m, wa, hmm, rfl, HW4, HKk⟩ := hrel
              clear HF0 HK0
              by_cases hlm : m < mm
              · obtain ⟨j, hj⟩ : ∃ j, (kdR L i)[m]? = some j := ⟨_, List.getElem?_eq_getElem (by rw [HLn.out.1]; exact hlm)⟩
                have hjm := List.mem_of_getElem? hj
                have hji := HLn.out.2.1.lt i j HLn.out.2.2.1 hjm
                have hjl : j < L.length := by have := HLn.out.2.2.1; omega
                have hm2 : mm ≤ 2 := HLn.out.2.2.2
                have HJ := (show Hid ((kdR L i)[m]? = some j) from hj)
                have HKd := (show Hid (Kds (kdR L) L ∧ i < L.length) from ⟨HLn.out.2.1, HLn.out.2.2.1⟩)
                obtain ⟨HX, hxj⟩ : ∃ b, wa[j]? = some b := ⟨_, List.getElem?_eq_getElem (by rw [HW4.out.s.lw]; exact hjl)⟩
                have HXj := (show Hid (wa[j]? = some HX) from hxj)
                obtain ⟨gK, rfl, xk⟩ := HW4.out.row hj
                have xn := HW4.out.n0
                have z0 : (0 : Int) ≤ (m : Int) := by omega
                have z1 : (m : Int) < (mm : Int) := by omega
                have z2 : (0 : Int) ≤ (j : Int) := by omega
                have z3 : (j : Int) < (L.length : Int) := by omega
                clear hj hjm hxj
                have t7 : (n.op != 7) = true := by rw [bne, beq_eq_false_iff_ne.2 h7]; rfl
                have HPk := (show Hid (pkB may L i n m = true) from by show _ = _; unfold pkB; rw [decide_eq_true h7]; rfl)
                clear h7
                have HW5 := (show Hid (HfS w (wr.drew.setCell ⟨gT, j, none⟩ (.bool true)) (.slice (some ⟨b, o, none⟩) gs.length c) gs L may gM gB gO gT B (wa.set j true) out (some ⟨gK, 0, none⟩) hb i n) from (HW4.out.drew).bit j _)
                have HK5 := (show Hid (HkI gs may L i n (m + 1) (wa.set j true) out) from by show HkI _ _ _ _ _ _ _ _; have h := HKk.out.step HKd.out.1 HKd.out.2 HJ.out; rw [HPk.out] at h; exact h)
                obtain ⟨gt2, ct2, et2, _, _, xt4, ft⟩ := own_get (HW4.out).s.t (j := j) (x := .bool HX) (by rw [List.getElem?_map, HXj.out]; rfl)
                have egt : gT = gt2 := by injection et2 with e1; injection e1 with e1; injection e1
                clear et2
                subst egt
                clear HW4 HKk HJ HPk HXj HKd
                go_wp2_with (with_reducible refine wp_region_still_tail 21 (by kernel_rfl) (by kernel_rfl) ?_; simp only [List.take_succ_cons, List.take_zero, List.drop_succ_cons, List.drop_zero])
                repeat (with_reducible refine wpStill_step (fun K hK => ?_); go_simp; with_reducible refine hK _ ?_; clear hK K)
                refine wpStill_nil ?_
                change wpList _ _ _ _ _ (World.drew wr)
                go_wp2_with fail
                go_roundw
                case rel => exact ⟨m + 1, wa.set j true, by omega, by go_num, HW5, HK5⟩
                case measure => simp [intOf] <;> omega
              · obtain rfl : m = mm := by omega
                have HDn := (show Hid (HdI gs may L i wa out) from by
                  have h := HKk.out
                  rw [← HLn.out.1] at h
                  exact h.done HNn.out HWh.out HCut.out (by rw [HLn.out.1]; exact HLn.out.2.2.2))
                have HS6 := (show Hid (HeS w wr (.slice (some ⟨b, o, none⟩) gs.length c) gs L may gM gB gO gT B wa out) from HW4.out.s)
                clear HKk HW4 HLn HNn HWh HCut HKm HKs HLt
                go_wp2_with fail
                go_roundw
                case rel => exact ⟨i, wa, out, by omega, by go_num, HS6, HDn⟩
                case measure => simp [intOf] <;> omega
        · by_cases c16 : n.op = 16
          · by_cases cz : n.nn = 0
            · have t14 : (n.op == 14) = false := by rw [beq_eq_false_iff_ne]; exact c14
              have t16 : (n.op == 16) = true := by rw [c16]; rfl
              have tz : (n.nn == 0) = true := by rw [cz]; rfl
              have hc : (n.op = 14 ∨ n.op = 16) ∧ n.nn = 0 := ⟨.inr c16, cz⟩
              have HC := (show Hid ((n.op = 14 ∨ n.op = 16) ∧ n.nn = 0) from hc)
              have H6 := (show Hid (n.op ≠ 6) from by show _ ≠ _; omega)
              have H7 := (show Hid (n.op ≠ 7) from by show _ ≠ _; omega)
              clear hc c14 c16 cz
              have HD2 := (show Hid (HdI gs may L i want out) from HD.out.skip (fun p _ => by unfold stB; rw [HNn.out]; simp [HC.out]) (fun q _ => by unfold clB; rw [HNn.out]; simp; intro e; have := HC.out.1; omega))
              clear HD HKi HNu HFd HWi HNn HC HKm HKs HLt HNb0 HHb HHo
              go_wp2_with (rw [HE2.out])
              go_roundw
              case rel => exact ⟨i, want, out, by omega, by go_num, HW2, HD2⟩
              case measure => simp [intOf] <;> omega
            · have t14 : (n.op == 14) = false := by rw [beq_eq_false_iff_ne]; exact c14
              have t16 : (n.op == 16) = true := by rw [c16]; rfl
              have tz : (n.nn == 0) = false := by rw [beq_eq_false_iff_ne]; exact cz
              have hc : ¬((n.op = 14 ∨ n.op = 16) ∧ n.nn = 0) := fun q => cz q.2
              have HC := (show Hid (¬((n.op = 14 ∨ n.op = 16) ∧ n.nn = 0)) from hc)
              have H6 := (show Hid (n.op ≠ 6) from by show _ ≠ _; omega)
              have H7 := (show Hid (n.op ≠ 7) from by show _ ≠ _; omega)
              clear hc c14 c16 cz
              have HCut := (show Hid (¬((n.op = 14 ∨ n.op = 16) ∧ n.nn = 0)) from HC.out)
              have HWh := (show Hid (Wh may L i) from HWi.out)
              have t6 : (n.op == 6) = false := by rw [beq_eq_false_iff_ne]; exact H6.out
              have HK0 := (show Hid (HkI gs may L i n 0 want out) from HkI.quiet HD.out HNn.out H6.out)
              have HNb := HNb0
              have h7 : n.op ≠ 7 := H7.out
              clear HNu HFd HWi HD HC H6 H7
              go_wp2_with (rw [HE2.out])
              clear HE2 n1 n2 xw
              refine (HKi.out _ want out HW2.out).mono ?_
              rintro e w4 ⟨⟨A4, c4, rfl, hk4⟩, b4⟩
              have HF0 := (show Hid (HfS w w4 (.slice (some ⟨b, o, none⟩) gs.length c) gs L may gM gB gO gT B want out A4 hb i n) from ⟨HW2.out.later b4, fun t j hj => by
                obtain ⟨gK, e1, e2, e3, e4⟩ := hk4 t j hj
                refine ⟨gK, e1, e3, fun e => ?_, e4⟩
                have := (HW2.out.t.lt gT rfl).2
                omega, (b4.cell (p := ⟨hb, 0, none⟩) HNb.out.1).trans HNb.out.2, Nat.lt_of_lt_of_le HNb.out.1 b4.size, HHb.out⟩)
              clear hk4 b4
              rw [← HHe.out]
              clear HHe
              clear HW2 HNb HNb0 HKi n0
              go_wp2_with fail
              have HLn := (show Hid ((kdR L i).length = mm ∧ Kds (kdR L) L ∧ i < L.length ∧ mm ≤ 2) from ⟨by rw [HKs.out.n i n HNn.out, ← HKm.out], HKs.out, HLt.out, by rw [HKm.out]; exact arN_le _⟩)
              go_loopw [15] (fun t wr => ∃ (m : Nat) (wa : List Bool), m ≤ mm ∧ t = .int .i64 (m : Int) ∧ Hid (HfS w wr (.slice (some ⟨b, o, none⟩) gs.length c) gs L may gM gB gO gT B wa out A4 hb i n) ∧ Hid (HkI gs may L i n m wa out)) (fun t _ => mm - (intOf t).toNat)
              case atStart => exact ⟨0, want, by omega, by go_num, HF0, HK0⟩
              case round =>
                obtain ⟨m, wa, hmm, rfl, HW4, HKk⟩ := hrel
                clear HF0 HK0
                by_cases hlm : m < mm
                · obtain ⟨j, hj⟩ : ∃ j, (kdR L i)[m]? = some j := ⟨_, List.getElem?_eq_getElem (by rw [HLn.out.1]; exact hlm)⟩
                  have hjm := List.mem_of_getElem? hj
                  have hji := HLn.out.2.1.lt i j HLn.out.2.2.1 hjm
                  have hjl : j < L.length := by have := HLn.out.2.2.1; omega
                  have hm2 : mm ≤ 2 := HLn.out.2.2.2
                  have HJ := (show Hid ((kdR L i)[m]? = some j) from hj)
                  have HKd := (show Hid (Kds (kdR L) L ∧ i < L.length) from ⟨HLn.out.2.1, HLn.out.2.2.1⟩)
                  obtain ⟨HX, hxj⟩ : ∃ b, wa[j]? = some b := ⟨_, List.getElem?_eq_getElem (by rw [HW4.out.s.lw]; exact hjl)⟩
                  have HXj := (show Hid (wa[j]? = some HX) from hxj)
                  obtain ⟨gK, rfl, xk⟩ := HW4.out.row hj
                  have xn := HW4.out.n0
                  have z0 : (0 : Int) ≤ (m : Int) := by omega
                  have z1 : (m : Int) < (mm : Int) := by omega
                  have z2 : (0 : Int) ≤ (j : Int) := by omega
                  have z3 : (j : Int) < (L.length : Int) := by omega
                  clear hj hjm hxj
                  have t7 : (n.op != 7) = true := by rw [bne, beq_eq_false_iff_ne.2 h7]; rfl
                  have HPk := (show Hid (pkB may L i n m = true) from by show _ = _; unfold pkB; rw [decide_eq_true h7]; rfl)
                  clear h7
                  have HW5 := (show Hid (HfS w (wr.drew.setCell ⟨gT, j, none⟩ (.bool true)) (.slice (some ⟨b, o, none⟩) gs.length c) gs L may gM gB gO gT B (wa.set j true) out (some ⟨gK, 0, none⟩) hb i n) from (HW4.out.drew).bit j _)
                  have HK5 := (show Hid (HkI gs may L i n (m + 1) (wa.set j true) out) from by show HkI _ _ _ _ _ _ _ _; have h := HKk.out.step HKd.out.1 HKd.out.2 HJ.out; rw [HPk.out] at h; exact h)
                  obtain ⟨gt2, ct2, et2, _, _, xt4, ft⟩ := own_get (HW4.out).s.t (j := j) (x := .bool HX) (by rw [List.getElem?_map, HXj.out]; rfl)
                  have egt : gT = gt2 := by injection et2 with e1; injection e1 with e1; injection e1
                  clear et2
                  subst egt
                  clear HW4 HKk HJ HPk HXj HKd
                  go_wp2_with (with_reducible refine wp_region_still_tail 21 (by kernel_rfl) (by kernel_rfl) ?_; simp only [List.take_succ_cons, List.take_zero, List.drop_succ_cons, List.drop_zero])
                  repeat (with_reducible refine wpStill_step (fun K hK => ?_); go_simp; with_reducible refine hK _ ?_; clear hK K)
                  refine wpStill_nil ?_
                  change wpList _ _ _ _ _ (World.drew wr)
                  go_wp2_with fail
                  go_roundw
                  case rel => exact ⟨m + 1, wa.set j true, by omega, by go_num, HW5, HK5⟩
                  case measure => simp [intOf] <;> omega
                · obtain rfl : m = mm := by omega
                  have HDn := (show Hid (HdI gs may L i wa out) from by
                    have h := HKk.out
                    rw [← HLn.out.1] at h
                    exact h.done HNn.out HWh.out HCut.out (by rw [HLn.out.1]; exact HLn.out.2.2.2))
                  have HS6 := (show Hid (HeS w wr (.slice (some ⟨b, o, none⟩) gs.length c) gs L may gM gB gO gT B wa out) from HW4.out.s)
                  clear HKk HW4 HLn HNn HWh HCut HKm HKs HLt
                  go_wp2_with fail
                  go_roundw
                  case rel => exact ⟨i, wa, out, by omega, by go_num, HS6, HDn⟩
                  case measure => simp [intOf] <;> omega
          · have t14 : (n.op == 14) = false := by rw [beq_eq_false_iff_ne]; exact c14
            have t16 : (n.op == 16) = false := by rw [beq_eq_false_iff_ne]; exact c16
            have hc : ¬((n.op = 14 ∨ n.op = 16) ∧ n.nn = 0) := fun q => q.1.elim c14 c16
            by_cases h6 : n.op = 6
            · have HC := (show Hid (¬((n.op = 14 ∨ n.op = 16) ∧ n.nn = 0)) from hc)
              clear hc
              have HCut := (show Hid (¬((n.op = 14 ∨ n.op = 16) ∧ n.nn = 0)) from HC.out)
              have HWh := (show Hid (Wh may L i) from HWi.out)
              obtain ⟨jc, hjc⟩ := HFd.out n (List.mem_of_getElem? HNn.out) h6
              have hjl := fdG_lt hjc
              have t6 : (n.op == 6) = true := by rw [h6]; rfl
              have HNu2 := (show Hid (∀ _ : Unit, Calls Tryz.prog 51 #[.agg #[.slice (some ⟨b, o, none⟩) gs.length c], .string n.tx] w2 fun e w' => e = .returned (.int .i64 (jc : Int)) ∧ Below w2.heap.size w2 w') from fun _ => by
                have h := HNu.out w2 n.tx HW2.out.b
                rw [fdN_some hjc] at h
                exact h)
              have HK0 := (show Hid (HkI gs may L i n 0 want (out.set jc true)) from HkI.call HD.out HNn.out h6 HWh.out hjc hjl)
              have HMm := (show Hid (mm = 0) from by show _ = _; rw [HKm.out]; exact arN_0 hop (.inl (by omega)))
              obtain ⟨ob, hob⟩ : ∃ ob, out[jc]? = some ob := ⟨_, List.getElem?_eq_getElem (by rw [HW2.out.lo]; exact hjl)⟩
              have HOb := (show Hid (out[jc]? = some ob) from hob)
              have u0 : (0 : Int) ≤ (jc : Int) := by omega
              have u1 : (jc : Int) < (gs.length : Int) := by omega
              clear hjc HNu HFd HWi HD HC hob h6 c14 c16
              go_wp2_with (rw [HE2.out])
              refine (HNu2.out ()).mono ?_
              rintro e w3 ⟨rfl, b3⟩
              have HW3 := (show Hid (HeS w w3 (.slice (some ⟨b, o, none⟩) gs.length c) gs L may gM gB gO gT B want out) from HW2.out.later b3)
              have HW3b := (show Hid (HeS w (w3.setCell ⟨gO, jc, none⟩ (.bool true)) (.slice (some ⟨b, o, none⟩) gs.length c) gs L may gM gB gO gT B want (out.set jc true)) from HW3.out.outs jc true)
              obtain ⟨go2, co2, eo2, _, _, xo3, fo⟩ := own_get HW3.out.o (j := jc) (x := .bool ob) (by rw [List.getElem?_map, HOb.out]; rfl)
              have ego : gO = go2 := by injection eo2 with e1; injection e1 with e1; injection e1
              clear eo2
              subst ego
              have HNb := (show Hid (hb < (w3.setCell ⟨gO, jc, none⟩ (.bool true)).heap.size ∧ (w3.setCell ⟨gO, jc, none⟩ (.bool true)).cell? ⟨hb, 0, none⟩ = some (.int .i64 n.op)) from by
                obtain ⟨s1, s2⟩ := HW3.out.o.stored jc (.bool true)
                have q := (b3.cell (p := ⟨hb, 0, none⟩) HNb0.out.1).trans HNb0.out.2
                have lq : hb < w3.heap.size := Nat.lt_of_lt_of_le HNb0.out.1 b3.size
                refine ⟨Nat.lt_of_lt_of_le lq s2.size, ?_⟩
                rw [World.cell?_of_block (a := ⟨hb, 0, none⟩) (s2.block hb lq (fun e => by have := HHo.out; cases e; exact this rfl))]
                exact q)
              clear b3 HW3 HW2 HOb HNb0
              go_wp2_with fail
              clear HNu2 HE2 n0 n1 n2 xw xo3 fo
              refine (HKi.out _ want (out.set jc true) HW3b.out).mono ?_
              rintro e w4 ⟨⟨A4, c4, rfl, hk4⟩, b4⟩
              have HF0 := (show Hid (HfS w w4 (.slice (some ⟨b, o, none⟩) gs.length c) gs L may gM gB gO gT B want (out.set jc true) A4 hb i n) from ⟨HW3b.out.later b4, fun t j hj => by
                obtain ⟨gK, e1, e2, e3, e4⟩ := hk4 t j hj
                refine ⟨gK, e1, e3, fun e => ?_, e4⟩
                have := (HW3b.out.t.lt gT rfl).2
                omega, (b4.cell (p := ⟨hb, 0, none⟩) HNb.out.1).trans HNb.out.2, Nat.lt_of_lt_of_le HNb.out.1 b4.size, HHb.out⟩)
              clear hk4 b4
              rw [← HHe.out]
              clear HHe
              clear HW3b HNb HKi
              go_wp2_with fail
              have HLn := (show Hid ((kdR L i).length = mm ∧ Kds (kdR L) L ∧ i < L.length ∧ mm ≤ 2) from ⟨by rw [HKs.out.n i n HNn.out, ← HKm.out], HKs.out, HLt.out, by rw [HKm.out]; exact arN_le _⟩)
              go_loopw [15] (fun t wr => ∃ (m : Nat) (wa : List Bool), m ≤ mm ∧ t = .int .i64 (m : Int) ∧ Hid (HfS w wr (.slice (some ⟨b, o, none⟩) gs.length c) gs L may gM gB gO gT B wa (out.set jc true) A4 hb i n) ∧ Hid (HkI gs may L i n m wa (out.set jc true))) (fun t _ => mm - (intOf t).toNat)
              case atStart => exact ⟨0, want, by omega, by go_num, HF0, HK0⟩
              case round =>
                obtain ⟨m, wa, hmm, rfl, HW4, HKk⟩ := hrel
                clear HF0 HK0
                by_cases hlm : m < mm
                · exact absurd hlm (by rw [HMm.out]; omega)
                · obtain rfl : m = mm := by omega
                  have HDn := (show Hid (HdI gs may L i wa (out.set jc true)) from by
                    have h := HKk.out
                    rw [← HLn.out.1] at h
                    exact h.done HNn.out HWh.out HCut.out (by rw [HLn.out.1]; exact HLn.out.2.2.2))
                  have HS6 := (show Hid (HeS w wr (.slice (some ⟨b, o, none⟩) gs.length c) gs L may gM gB gO gT B wa (out.set jc true)) from HW4.out.s)
                  clear HKk HW4 HLn HNn HWh HCut HKm HKs HLt
                  go_wp2_with fail
                  go_roundw
                  case rel => exact ⟨i, wa, (out.set jc true), by omega, by go_num, HS6, HDn⟩
                  case measure => simp [intOf] <;> omega
            · have HC := (show Hid (¬((n.op = 14 ∨ n.op = 16) ∧ n.nn = 0)) from hc)
              have H6 := (show Hid (n.op ≠ 6) from h6)
              clear hc h6 c14 c16
              have HCut := (show Hid (¬((n.op = 14 ∨ n.op = 16) ∧ n.nn = 0)) from HC.out)
              have HWh := (show Hid (Wh may L i) from HWi.out)
              have t6 : (n.op == 6) = false := by rw [beq_eq_false_iff_ne]; exact H6.out
              have HK0 := (show Hid (HkI gs may L i n 0 want out) from HkI.quiet HD.out HNn.out H6.out)
              have HNb := HNb0
              clear HNu HFd HWi HD HC H6
              go_wp2_with (rw [HE2.out])
              clear HE2 n1 n2 xw
              refine (HKi.out _ want out HW2.out).mono ?_
              rintro e w4 ⟨⟨A4, c4, rfl, hk4⟩, b4⟩
              have HF0 := (show Hid (HfS w w4 (.slice (some ⟨b, o, none⟩) gs.length c) gs L may gM gB gO gT B want out A4 hb i n) from ⟨HW2.out.later b4, fun t j hj => by
                obtain ⟨gK, e1, e2, e3, e4⟩ := hk4 t j hj
                refine ⟨gK, e1, e3, fun e => ?_, e4⟩
                have := (HW2.out.t.lt gT rfl).2
                omega, (b4.cell (p := ⟨hb, 0, none⟩) HNb.out.1).trans HNb.out.2, Nat.lt_of_lt_of_le HNb.out.1 b4.size, HHb.out⟩)
              clear hk4 b4
              rw [← HHe.out]
              clear HHe
              clear HW2 HNb HNb0 HKi n0
              go_wp2_with fail
              have HLn := (show Hid ((kdR L i).length = mm ∧ Kds (kdR L) L ∧ i < L.length ∧ mm ≤ 2) from ⟨by rw [HKs.out.n i n HNn.out, ← HKm.out], HKs.out, HLt.out, by rw [HKm.out]; exact arN_le _⟩)
              go_loopw [15] (fun t wr => ∃ (m : Nat) (wa : List Bool), m ≤ mm ∧ t = .int .i64 (m : Int) ∧ Hid (HfS w wr (.slice (some ⟨b, o, none⟩) gs.length c) gs L may gM gB gO gT B wa out A4 hb i n) ∧ Hid (HkI gs may L i n m wa out)) (fun t _ => mm - (intOf t).toNat)
              case atStart => exact ⟨0, want, by omega, by go_num, HF0, HK0⟩
              case round =>
                obtain ⟨m, wa, hmm, rfl, HW4, HKk⟩ := hrel
                clear HF0 HK0
                by_cases hlm : m < mm
                · obtain ⟨j, hj⟩ : ∃ j, (kdR L i)[m]? = some j := ⟨_, List.getElem?_eq_getElem (by rw [HLn.out.1]; exact hlm)⟩
                  have hjm := List.mem_of_getElem? hj
                  have hji := HLn.out.2.1.lt i j HLn.out.2.2.1 hjm
                  have hjl : j < L.length := by have := HLn.out.2.2.1; omega
                  have hm2 : mm ≤ 2 := HLn.out.2.2.2
                  have HJ := (show Hid ((kdR L i)[m]? = some j) from hj)
                  have HKd := (show Hid (Kds (kdR L) L ∧ i < L.length) from ⟨HLn.out.2.1, HLn.out.2.2.1⟩)
                  obtain ⟨HX, hxj⟩ : ∃ b, wa[j]? = some b := ⟨_, List.getElem?_eq_getElem (by rw [HW4.out.s.lw]; exact hjl)⟩
                  have HXj := (show Hid (wa[j]? = some HX) from hxj)
                  obtain ⟨gK, rfl, xk⟩ := HW4.out.row hj
                  have xn := HW4.out.n0
                  have z0 : (0 : Int) ≤ (m : Int) := by omega
                  have z1 : (m : Int) < (mm : Int) := by omega
                  have z2 : (0 : Int) ≤ (j : Int) := by omega
                  have z3 : (j : Int) < (L.length : Int) := by omega
                  clear hj hjm hxj
                  by_cases h7 : n.op = 7
                  · have t7 : (n.op != 7) = false := by rw [h7]; rfl
                    by_cases hm0 : m = 0
                    · subst hm0
                      have HPk := (show Hid (pkB may L i n 0 = true) from by show _ = _; unfold pkB; simp)
                      clear h7
                      have HW5 := (show Hid (HfS w (wr.drew.setCell ⟨gT, j, none⟩ (.bool true)) (.slice (some ⟨b, o, none⟩) gs.length c) gs L may gM gB gO gT B (wa.set j true) out (some ⟨gK, 0, none⟩) hb i n) from (HW4.out.drew).bit j _)
                      have HK5 := (show Hid (HkI gs may L i n (0 + 1) (wa.set j true) out) from by show HkI _ _ _ _ _ _ _ _; have h := HKk.out.step HKd.out.1 HKd.out.2 HJ.out; rw [HPk.out] at h; exact h)
                      obtain ⟨gt2, ct2, et2, _, _, xt4, ft⟩ := own_get (HW4.out).s.t (j := j) (x := .bool HX) (by rw [List.getElem?_map, HXj.out]; rfl)
                      have egt : gT = gt2 := by injection et2 with e1; injection e1 with e1; injection e1
                      clear et2
                      subst egt
                      clear HW4 HKk HJ HPk HXj HKd
                      go_wp2_with (with_reducible refine wp_region_still_tail 21 (by kernel_rfl) (by kernel_rfl) ?_; simp only [List.take_succ_cons, List.take_zero, List.drop_succ_cons, List.drop_zero])
                      repeat (with_reducible refine wpStill_step (fun K hK => ?_); go_simp; with_reducible refine hK _ ?_; clear hK K)
                      refine wpStill_nil ?_
                      change wpList _ _ _ _ _ (World.drew wr)
                      go_wp2_with fail
                      go_roundw
                      case rel => exact ⟨0 + 1, wa.set j true, by omega, by go_num, HW5, HK5⟩
                      case measure => simp [intOf] <;> omega
                    · have tm : ((m : Int) == 0) = false := by rw [beq_eq_false_iff_ne]; omega
                      obtain ⟨j0, hj0⟩ : ∃ j, (kdR L i)[0]? = some j := ⟨_, List.getElem?_eq_getElem (by rw [HLn.out.1]; omega)⟩
                      have hj0l : j0 < L.length := by have := HLn.out.2.1.lt i j0 HLn.out.2.2.1 (List.mem_of_getElem? hj0); have := HLn.out.2.2.1; omega
                      obtain ⟨gK0, eK0, xk0⟩ := HW4.out.row hj0
                      have egk : gK = gK0 := by injection eK0 with e1; injection e1
                      subst egk
                      have xm0 := HW4.out.s.m j0 hj0l
                      have z4 : (0 : Int) ≤ (j0 : Int) := by omega
                      have z5 : (j0 : Int) < (L.length : Int) := by omega
                      have z6 : (0 : Int) < (mm : Int) := by omega
                      have z7 : 0 < mm := by omega
                      obtain ⟨mb, hmb⟩ : ∃ mb, mb = may j0 := ⟨_, rfl⟩
                      rw [← hmb] at xm0
                      have HPk := (show Hid (pkB may L i n m = mb) from by show _ = _; unfold pkB; rw [hj0, decide_eq_false hm0, decide_eq_false (fun q => q h7), hmb]; rfl)
                      clear h7 hm0 hj0 hmb eK0
                      have HW5 := (show Hid (HfS w (wr.drew.setCell ⟨gT, j, none⟩ (.bool mb)) (.slice (some ⟨b, o, none⟩) gs.length c) gs L may gM gB gO gT B (wa.set j mb) out (some ⟨gK, 0, none⟩) hb i n) from (HW4.out.drew).bit j _)
                      have HK5 := (show Hid (HkI gs may L i n (m + 1) (wa.set j mb) out) from by show HkI _ _ _ _ _ _ _ _; have h := HKk.out.step HKd.out.1 HKd.out.2 HJ.out; rw [HPk.out] at h; exact h)
                      obtain ⟨gt2, ct2, et2, _, _, xt4, ft⟩ := own_get (HW4.out).s.t (j := j) (x := .bool HX) (by rw [List.getElem?_map, HXj.out]; rfl)
                      have egt : gT = gt2 := by injection et2 with e1; injection e1 with e1; injection e1
                      clear et2
                      subst egt
                      clear HW4 HKk HJ HPk HXj HKd
                      go_wp2_with (with_reducible refine wp_region_still_tail 21 (by kernel_rfl) (by kernel_rfl) ?_; simp only [List.take_succ_cons, List.take_zero, List.drop_succ_cons, List.drop_zero])
                      repeat (with_reducible refine wpStill_step (fun K hK => ?_); go_simp; with_reducible refine hK _ ?_; clear hK K)
                      refine wpStill_nil ?_
                      change wpList _ _ _ _ _ (World.drew wr)
                      go_wp2_with fail
                      go_roundw
                      case rel => exact ⟨m + 1, wa.set j mb, by omega, by go_num, HW5, HK5⟩
                      case measure => simp [intOf] <;> omega
                  · have t7 : (n.op != 7) = true := by rw [bne, beq_eq_false_iff_ne.2 h7]; rfl
                    have HPk := (show Hid (pkB may L i n m = true) from by show _ = _; unfold pkB; rw [decide_eq_true h7]; rfl)
                    clear h7
                    have HW5 := (show Hid (HfS w (wr.drew.setCell ⟨gT, j, none⟩ (.bool true)) (.slice (some ⟨b, o, none⟩) gs.length c) gs L may gM gB gO gT B (wa.set j true) out (some ⟨gK, 0, none⟩) hb i n) from (HW4.out.drew).bit j _)
                    have HK5 := (show Hid (HkI gs may L i n (m + 1) (wa.set j true) out) from by show HkI _ _ _ _ _ _ _ _; have h := HKk.out.step HKd.out.1 HKd.out.2 HJ.out; rw [HPk.out] at h; exact h)
                    obtain ⟨gt2, ct2, et2, _, _, xt4, ft⟩ := own_get (HW4.out).s.t (j := j) (x := .bool HX) (by rw [List.getElem?_map, HXj.out]; rfl)
                    have egt : gT = gt2 := by injection et2 with e1; injection e1 with e1; injection e1
                    clear et2
                    subst egt
                    clear HW4 HKk HJ HPk HXj HKd
                    go_wp2_with (with_reducible refine wp_region_still_tail 21 (by kernel_rfl) (by kernel_rfl) ?_; simp only [List.take_succ_cons, List.take_zero, List.drop_succ_cons, List.drop_zero])
                    repeat (with_reducible refine wpStill_step (fun K hK => ?_); go_simp; with_reducible refine hK _ ?_; clear hK K)
                    refine wpStill_nil ?_
                    change wpList _ _ _ _ _ (World.drew wr)
                    go_wp2_with fail
                    go_roundw
                    case rel => exact ⟨m + 1, wa.set j true, by omega, by go_num, HW5, HK5⟩
                    case measure => simp [intOf] <;> omega
                · obtain rfl : m = mm := by omega
                  have HDn := (show Hid (HdI gs may L i wa out) from by
                    have h := HKk.out
                    rw [← HLn.out.1] at h
                    exact h.done HNn.out HWh.out HCut.out (by rw [HLn.out.1]; exact HLn.out.2.2.2))
                  have HS6 := (show Hid (HeS w wr (.slice (some ⟨b, o, none⟩) gs.length c) gs L may gM gB gO gT B wa out) from HW4.out.s)
                  clear HKk HW4 HLn HNn HWh HCut HKm HKs HLt
                  go_wp2_with fail
                  go_roundw
                  case rel => exact ⟨i, wa, out, by omega, by go_num, HS6, HDn⟩
                  case measure => simp [intOf] <;> omega
end Go.Proofs.YtbipjdgholdhcaaGreat.N

namespace Go.Proofs.YtbipjdgholdhcaaGreat.N
open Go.RowKit Go.Maps
open Go.Proofs.YtbipjdgholdhcaaGreat.T
/-- What Rules answers. -/
def RuR (gs : GL) (now : List Em) : Prop := ((ckG gs).2 = 0 → KnF gs now ∧ now.length = gs.length ∧ OkN gs now) ∧ ((ckG gs).2 ≠ 0 → now = [])
set_option maxRecDepth 100000 in
set_option maxHeartbeats 8000000 in
theorem rulesP_any (gs : GL) (A : Option Addr) (c : Nat) (w : World) (hp : GI w A gs) :
    Calls Tryz.prog 45 #[.agg #[.slice A gs.length c]] w fun e w' => (∃ v now, e = .returned (.tuple #[v, .int .i64 (ckG gs).2]) ∧ RuR gs now ∧ w'.ownsRow w.heap.size 112 4 v now.length (emc now)) ∧ Below w.heap.size w w' := by
  obtain ⟨w1, hw1⟩ : ∃ w1, w1 = w.alloc (.cells #[.slice A gs.length c] 24) := ⟨_, rfl⟩
  have HE1 := (show Hid (w.alloc (.cells #[.slice A gs.length c] 24) = w1) from hw1.symm)
  have HB1 := (show Hid (Below w.heap.size w w1) from by rw [hw1]; exact below_box _ _)
  have HG1 := (show Hid (GX w1 w.heap.size (.slice A gs.length c)) from by rw [hw1]; exact GX.mk (heap_alloc_new w _))
  have q1 := HG1.out.cl
  have HN := hid_of (knownOf_any gs A c w1 (hp.later HB1.out))
  clear hw1 hp HG1
  go_enter Tryz.func45, Tryz.ntmps45
  go_wp2_with (rw [HE1.out])
  refine Calls.mono HN.out ?_
  rintro e w2 ⟨⟨m, v, rfl, h1, h2⟩, b2⟩
  have HB2 := (show Hid (Below w.heap.size w w2) from HB1.out.trans (b2.mono HB1.out.size))
  have hs1 := HB1.out.size
  clear HN HE1 q1 b2
  by_cases hz : (ckG gs).2 = 0
  · obtain ⟨mb, Ar, cr, now, rfl, rfl, _, _, hF, hl, hok, ho⟩ := h2 hz
    have tz : ((ckG gs).2 != 0) = false := by rw [hz]; rfl
    have HO := (show Hid (w2.ownsRow w.heap.size 112 4 (.slice Ar gs.length cr) gs.length (emc now)) from T.own_base ho hs1)
    have HR := (show Hid (RuR gs now ∧ now.length = gs.length ∧ (ckG gs).2 = 0) from ⟨⟨fun _ => ⟨hF, hl, hok⟩, fun q => absurd hz q⟩, hl, hz⟩)
    clear h1 h2 ho hF hl hok hz hs1
    obtain ⟨w3, hw3⟩ : ∃ w3, w3 = w2.alloc (.cells #[.map (some mb), .slice Ar gs.length cr] 107) := ⟨_, rfl⟩
    have HE3 := (show Hid (w2.alloc (.cells #[.map (some mb), .slice Ar gs.length cr] 107) = w3) from hw3.symm)
    have k1 : w3.cell? ⟨w2.heap.size, 1, none⟩ = some (.slice Ar gs.length cr) := by rw [hw3]; exact (KX.new w2 _ _).c1
    have HB3 := (show Hid (Below w2.heap.size w2 w3) from by rw [hw3]; exact below_box _ _)
    clear hw3
    generalize hcd : (ckG gs).2 = cd at tz
    have HCD := (show Hid ((ckG gs).2 = cd) from hcd)
    clear hcd
    go_wp2_with (rw [HE3.out])
    refine bodyPost_ret (v := .tuple #[.slice Ar gs.length cr, .int .i64 0]) (by simp [results, Tryz.results45, go_sem]) rfl ⟨⟨_, now, by rw [HR.out.2.2], HR.out.1, by rw [HR.out.2.1]; exact T.own_below HO.out HB3.out⟩, HB2.out.trans (HB3.out.mono HB2.out.size)⟩
  · obtain ⟨rfl, rfl⟩ := h1 hz
    have tz : ((ckG gs).2 != 0) = true := by rw [bne, beq_eq_false_iff_ne.2 hz]; rfl
    have HR := (show Hid (RuR gs [] ∧ (ckG gs).2 ≠ 0) from ⟨⟨fun q => absurd q hz, fun _ => rfl⟩, hz⟩)
    clear h1 h2 hz hs1
    have HB3 := (show Hid (Below w2.heap.size w2 (w2.alloc (.cells #[.map none, .slice none 0 0] 107))) from below_box _ _)
    generalize hcd : (ckG gs).2 = cd at tz
    have HCD := (show Hid ((ckG gs).2 = cd) from hcd)
    clear hcd
    go_wp2_with fail
    refine bodyPost_ret (v := .tuple #[.slice none 0 0, .int .i64 cd]) (by simp [results, Tryz.results45, go_sem]) rfl ⟨⟨_, [], by rw [HCD.out], HR.out.1, World.ownsRow_nil _ _ _ _⟩, HB2.out.trans (HB3.out.mono HB2.out.size)⟩
/-- A box of a list. -/
structure LX (W : World) (b : Nat) (v : Value) : Prop where
  heap : W.heap[b]? = some (.cells #[v] 69 (0, 0))
theorem LX.lt {W : World} {b : Nat} {v : Value} (x : LX W b v) : b < W.heap.size := (Array.getElem?_eq_some_iff.1 x.heap).1
theorem LX.c0 {W : World} {b : Nat} {v : Value} (x : LX W b v) : W.cell? ⟨b, 0, none⟩ = some v := by rw [cell_of_row W b 0 _ 69 (0, 0) x.heap]; rfl
theorem LX.fz {W : World} {b : Nat} {v : Value} (x : LX W b v) : W.frozen? ⟨b, 0, none⟩ = false := frozen_of_row W b 0 _ 69 x.heap
theorem LX.same {W W' : World} {b : Nat} {v : Value} (x : LX W b v) (hb : W'.heap[b]? = W.heap[b]?) : LX W' b v := ⟨hb.trans x.heap⟩
theorem LX.below {W W' : World} {b : Nat} {v : Value} (x : LX W b v) (hb : Below W.heap.size W W') : LX W' b v := x.same (hb.block b x.lt)
theorem LX.set {W : World} {b : Nat} {v : Value} (x : LX W b v) (u : Value) : LX (W.setCell ⟨b, 0, none⟩ u) b u := ⟨by rw [heap_setCell_same W b 0 _ 69 _ x.heap]; rfl⟩
set_option maxRecDepth 100000 in
set_option maxHeartbeats 16000000 in
/-- One node, and its part put behind the others. -/
theorem part1_any {gs : GL} {now : List Em} {L : List Nd} (hpt : PtR gs now L) {k : Nat} {n : Nd} (hn : L[k]? = some n) (B : Nat) (Ar A : Option Addr) (cr c kb lb Bb : Nat) (v : Value) (l : List Em) (w : World) (hk : KnI w gs B Ar now) (hkx : KX w kb (.map (some B)) (.slice Ar now.length cr)) (hlx : LX w lb v) (hll : l.length = k) (ho : w.ownsRow Bb 112 4 v k (emc l)) (hlb : lb < Bb) (hBb : Bb ≤ w.heap.size) (hp : RdE w A (emS (EE (lkE gs now) L) ((run L k).take (arN n.op)))) :
    Calls Tryz.prog 81 #[ndG n, .slice A (arN n.op) c, .pointer (some ⟨kb, 0, none⟩), .pointer (some ⟨lb, 0, none⟩)] w fun e w' => e = .returned (emG (EE (lkE gs now) L k)) ∧ ∃ v', LX w' lb v' ∧ w'.ownsRow Bb 112 4 v' (k + 1) (emc (l ++ [EE (lkE gs now) L k])) ∧ (∀ b, v'.ownBlock = some b → v.ownBlock = some b ∨ w.heap.size ≤ b) ∧ Kp (fun b => b = lb ∨ v.ownBlock = some b) w w' := by
  have hkl : k ≤ 2048 := by have h1 := (List.getElem?_eq_some_iff.1 hn).1; have h2 := hpt.rt.len; omega
  obtain ⟨A3, c3, rfl⟩ := own_fm ho
  obtain ⟨w1, hw1⟩ : ∃ w1, w1 = (w.alloc (.cells #[.int .i64 n.op, .int .i64 n.nn, .string n.tx, .int .u64 n.s0, .int .u64 n.s1, .int .u64 n.s2, .int .u64 n.s3] 50)).alloc (.cells #[.bool false, .bool false, .int .i64 0, .int .i64 0] 112) := ⟨_, rfl⟩
  have HE1 := (show Hid ((w.alloc (.cells #[.int .i64 n.op, .int .i64 n.nn, .string n.tx, .int .u64 n.s0, .int .u64 n.s1, .int .u64 n.s2, .int .u64 n.s3] 50)).alloc (.cells #[.bool false, .bool false, .int .i64 0, .int .i64 0] 112) = w1) from hw1.symm)
  have HS1 := (show Hid (Below w.heap.size w w1 ∧ NX w1 w.heap.size n ∧ EX w1 (w.heap.size + 1) e0) from by
    have s1 := World.size_alloc w (ndO n)
    refine ⟨by rw [hw1]; exact ((Below.refl _ _).alloc (Nat.le_refl _) _).alloc (by rw [World.size_alloc]; omega) _, by rw [hw1]; exact nx_below ⟨heap_alloc_new w _⟩ (below_box _ _), ?_⟩
    have h := EX.new (w.alloc (ndO n)) e0
    rw [s1] at h
    rw [hw1]; exact h)
  have hx1 := hkx.below HS1.out.1
  have k0 := hx1.c0
  have k1 := hx1.c1
  obtain ⟨d0, d1, d2, d3, d4, d5, d6⟩ := HS1.out.2.1.nb
  simp only [Nat.zero_add] at d0 d1 d2 d3 d4 d5 d6
  obtain ⟨⟨en, ec, el, em⟩, hE⟩ : ∃ e, e = EE (lkE gs now) L k := ⟨_, rfl⟩
  have HC := (show Hid (Calls Tryz.prog 82 #[.agg #[.map (some B), .slice Ar now.length cr], ndG n, .slice A (arN n.op) c] w1 fun e w' => e = .returned (.agg #[.bool en, .bool ec, .int .i64 el, .int .i64 em]) ∧ Below w1.heap.size w1 w') from by
    have t := hpt.node hn B Ar A cr c w1 (hk.later HS1.out.1) (hp.later HS1.out.1)
    rw [← hE] at t
    exact t)
  have HLx := (show Hid (LX w lb (.slice A3 k c3)) from hlx)
  have HO := (show Hid (w.ownsRow Bb 112 4 (.slice A3 k c3) k (emc l)) from ho)
  have HBb := (show Hid (lb < Bb ∧ Bb ≤ w.heap.size) from ⟨hlb, hBb⟩)
  have hlw := hlx.lt
  rw [← hE]
  have HEE := (show Hid (⟨en, ec, el, em⟩ = EE (lkE gs now) L k) from hE)
  clear hw1 hpt hk hkx hlx ho hp hE hx1 hlb hBb hn
  go_enter Tryz.func81, Tryz.ntmps81
  go_wp2_with (rw [HE1.out])
  refine HC.out.mono ?_
  rintro e w2 ⟨rfl, b2⟩
  have HB2 := (show Hid (Below w.heap.size w w2 ∧ EX w2 (w.heap.size + 1) e0) from ⟨HS1.out.1.trans (b2.mono HS1.out.1.size), HS1.out.2.2.below b2⟩)
  clear HC HE1 k0 k1 d0 d1 d2 d3 d4 d5 d6 HS1 b2
  obtain ⟨w3, hw3⟩ : ∃ w3, w3 = w2.alloc (.cells #[.bool en, .bool ec, .int .i64 el, .int .i64 em] 112) := ⟨_, rfl⟩
  obtain ⟨kk, hkk⟩ : ∃ kk, kk = w2.heap.size := ⟨_, rfl⟩
  have HE3 := (show Hid (w2.alloc (.cells #[.bool en, .bool ec, .int .i64 el, .int .i64 em] 112) = w3) from hw3.symm)
  have HKk := (show Hid (w2.heap.size = kk) from hkk.symm)
  have hb23 : Below w2.heap.size w2 w3 := by rw [hw3]; exact below_box _ _
  have HX3 := (show Hid (EX w3 kk ⟨en, ec, el, em⟩) from by rw [hw3, hkk]; exact EX.new w2 ⟨en, ec, el, em⟩)
  have HB3 := (show Hid (Below w.heap.size w w3 ∧ EX w3 (w.heap.size + 1) e0 ∧ w.heap.size + 1 < kk) from ⟨HB2.out.1.trans (hb23.mono HB2.out.1.size), HB2.out.2.below hb23, by rw [hkk]; exact HB2.out.2.lt⟩)
  have HO3 := (show Hid (w3.ownsRow Bb 112 4 (.slice A3 k c3) k (emc l)) from T.own_below HO.out HB3.out.1)
  have HL3 := (show Hid (LX w3 lb (.slice A3 k c3)) from HLx.out.below HB3.out.1)
  have l0 := HL3.out.c0
  have x0 : w3.cell? ⟨kk, 0, none⟩ = some (.bool en) := HX3.out.eb.c0
  have x1 : w3.cell? ⟨kk, 1, none⟩ = some (.bool ec) := HX3.out.eb.c1
  have x2 : w3.cell? ⟨kk, 2, none⟩ = some (.int .i64 el) := HX3.out.eb.c2
  have x3 : w3.cell? ⟨kk, 3, none⟩ = some (.int .i64 em) := HX3.out.eb.c3
  have HPu := (show Hid (∀ (w6 : World) (g6 cap6 : Nat), w6.ownsRow Bb 112 4 (.slice (some ⟨g6, 0, none⟩) (k + 1) cap6) (k + 1) (emc (l ++ [⟨en, ec, el, em⟩])) → w3.grownBy w6 (Value.slice A3 k c3).ownBlock → ((Value.slice A3 k c3).ownBlock = some g6 ∨ g6 = w3.heap.size + 1) → LX w6 lb (.slice A3 k c3) ∧ ∀ w7, w7 = w6.setCell ⟨lb, 0, none⟩ (.slice (some ⟨g6, 0, none⟩) (k + 1) cap6) → EX w7 kk ⟨en, ec, el, em⟩ ∧ EX w7 (w.heap.size + 1) e0 ∧ (∃ v', LX (st4 w7 (w.heap.size + 1) ⟨en, ec, el, em⟩) lb v' ∧ (st4 w7 (w.heap.size + 1) ⟨en, ec, el, em⟩).ownsRow Bb 112 4 v' (k + 1) (emc (l ++ [⟨en, ec, el, em⟩])) ∧ (∀ b, v'.ownBlock = some b → (Value.slice A3 k c3).ownBlock = some b ∨ w.heap.size ≤ b) ∧ Kp (fun b => b = lb ∨ (Value.slice A3 k c3).ownBlock = some b) w (st4 w7 (w.heap.size + 1) ⟨en, ec, el, em⟩))) from fun w6 g6 cap6 h1 h2 h3 => by
    have hlow : ∀ q, (Value.slice A3 k c3).ownBlock = some q → Bb ≤ q ∧ q < w.heap.size := fun q hq => HO.out.lt q hq
    have hbb := HBb.out
    have hkk2 := HB3.out.2.2
    have hlt3 := HX3.out.lt
    have key6 : ∀ j, j < w3.heap.size → (∀ q, (Value.slice A3 k c3).ownBlock = some q → q ≠ j) → w6.heap[j]? = w3.heap[j]? := fun j hj hq => h2.block j hj (fun e => hq j e.symm rfl)
    have hL6 : LX w6 lb (.slice A3 k c3) := HL3.out.same (key6 lb HL3.out.lt (fun q hq => by have := hlow q hq; omega))
    refine ⟨hL6, fun w7 hw7 => ?_⟩
    have key7 : ∀ j, j ≠ lb → w7.heap[j]? = w6.heap[j]? := fun j hj => by rw [hw7]; exact heap_setCell_other _ _ _ _ hj
    have hX7 : EX w7 kk ⟨en, ec, el, em⟩ := HX3.out.same ((key7 kk (by omega)).trans (key6 kk hlt3 (fun q hq => by have := hlow q hq; omega)))
    have hZ7 : EX w7 (w.heap.size + 1) e0 := HB3.out.2.1.same ((key7 _ (by omega)).trans (key6 _ HB3.out.2.1.lt (fun q hq => by have := hlow q hq; omega)))
    have key8 : ∀ j, j ≠ w.heap.size + 1 → (st4 w7 (w.heap.size + 1) ⟨en, ec, el, em⟩).heap[j]? = w7.heap[j]? := fun j hj => st4_other hj _
    have hL7 : LX w7 lb (.slice (some ⟨g6, 0, none⟩) (k + 1) cap6) := by rw [hw7]; exact hL6.set _
    have ho7 : w7.ownsRow Bb 112 4 (.slice (some ⟨g6, 0, none⟩) (k + 1) cap6) (k + 1) (emc (l ++ [⟨en, ec, el, em⟩])) := by rw [hw7]; exact ownsRow_setCell_below h1 (a := ⟨lb, 0, none⟩) hbb.1 _
    have hg6 : g6 ≠ w.heap.size + 1 := by
      rcases h3 with q | q
      · have := hlow g6 q; omega
      · omega
    have hs8 : (st4 w7 (w.heap.size + 1) ⟨en, ec, el, em⟩).heap.size = w6.heap.size := by unfold st4; rw [World.size_setCell, World.size_setCell, World.size_setCell, World.size_setCell, hw7, World.size_setCell]
    refine ⟨hX7, hZ7, _, hL7.same (key8 lb (by omega)), own_same ho7 (fun q hq => key8 q (by have e : g6 = q := Option.some.inj hq; omega)), fun b hb => ?_, ⟨?_, ?_, ?_, ?_, fun b hb hnb => ?_⟩⟩
    · have e : g6 = b := Option.some.inj hb
      subst e
      rcases h3 with q | q
      · exact .inl q
      · exact .inr (by omega)
    · rw [hw7]; exact h2.os.trans HB3.out.1.os
    · rw [hw7]; exact h2.tape.trans HB3.out.1.tape
    · rw [hw7]; exact h2.output.trans HB3.out.1.output
    · rw [hs8]; exact Nat.le_trans HB3.out.1.size h2.size
    · rw [key8 b (by omega), key7 b (fun e => hnb (.inl e)), key6 b (by omega) (fun q hq e => hnb (.inr (by rw [← e]; exact hq)))]
      exact HB3.out.1.block b hb)
  have HSz := (show Hid (Bb ≤ w3.heap.size) from Nat.le_trans HBb.out.2 HB3.out.1.size)
  clear hw3 hkk hb23 HX3 HL3 HB2 HB3 HO HLx HBb
  go_wp2_with (first
    | rw [HE3.out, HKk.out]
    | rw [HE7.out]
    | (at_builtin
       refine wpList_appE w3.heap.size rfl rfl _ _ rfl Bb k _ l rfl rfl HO3.out (by omega) HSz.out ?_
       intro g6 cap6 w6 ho6 hg6 hat6 hl6
       have HF6 := (show Hid _ from HPu.out w6 g6 cap6 ho6 hg6 hat6)
       have m0 := HF6.out.1.c0
       have mf := HF6.out.1.fz
       obtain ⟨w7, hw7⟩ : ∃ w7, w7 = w6.setCell ⟨lb, 0, none⟩ (.slice (some ⟨g6, 0, none⟩) (k + 1) cap6) := ⟨_, rfl⟩
       have HE7 := (show Hid (w6.setCell ⟨lb, 0, none⟩ (.slice (some ⟨g6, 0, none⟩) (k + 1) cap6) = w7) from hw7.symm)
       have HF7 := (show Hid _ from HF6.out.2 w7 hw7)
       have y0 : w7.cell? ⟨kk, 0, none⟩ = some (.bool en) := HF7.out.1.eb.c0
       have y1 : w7.cell? ⟨kk, 1, none⟩ = some (.bool ec) := HF7.out.1.eb.c1
       have y2 : w7.cell? ⟨kk, 2, none⟩ = some (.int .i64 el) := HF7.out.1.eb.c2
       have y3 : w7.cell? ⟨kk, 3, none⟩ = some (.int .i64 em) := HF7.out.1.eb.c3
       have z0 : w7.cell? ⟨w.heap.size + 1, 0, none⟩ = some (.bool false) := HF7.out.2.1.eb.c0
       have z1 : w7.cell? ⟨w.heap.size + 1, 1, none⟩ = some (.bool false) := HF7.out.2.1.eb.c1
       have z2 : w7.cell? ⟨w.heap.size + 1, 2, none⟩ = some (.int .i64 0) := HF7.out.2.1.eb.c2
       have z3 : w7.cell? ⟨w.heap.size + 1, 3, none⟩ = some (.int .i64 0) := HF7.out.2.1.eb.c3
       have f0 := HF7.out.2.1.fz 0
       have f1 := HF7.out.2.1.fz 1
       have f2 := HF7.out.2.1.fz 2
       have f3 := HF7.out.2.1.fz 3
       clear ho6 hg6 hat6 hl6 HPu HO3 HSz hw7 HF6 x0 x1 x2 x3 l0))
  refine ret_ex (s := 6) (k := w.heap.size + 1) (by rfl) (by rfl) (by rfl) (HF7.out.2.1.all ⟨en, ec, el, em⟩) ?_
  exact ⟨rfl, HF7.out.2.2⟩
end Go.Proofs.YtbipjdgholdhcaaGreat.N

namespace Go.Proofs.YtbipjdgholdhcaaGreat.N
open Go.RowKit Go.Maps
open Go.Proofs.YtbipjdgholdhcaaGreat.T
/-- While the parts of a pattern are told. -/
def JP (gs : GL) (now : List Em) (Bm : Nat) (Ar : Option Addr) (cr kb lb : Nat) (E : Nat → Em) (k : Nat) (X : Nat → Prop) (w : World) : Prop := ∃ v, (∀ b, X b ↔ (b = lb ∨ v.ownBlock = some b)) ∧ LX w lb v ∧ w.ownsRow (lb + 1) 112 4 v k (emc ((List.range k).map E)) ∧ KX w kb (.map (some Bm)) (.slice Ar now.length cr) ∧ KnI w gs Bm Ar now
theorem see_pt {gs : GL} {now : List Em} {L : List Nd} (h : PtR gs now L) (Bm : Nat) (Ar : Option Addr) (cr kb lb Bc B : Nat) (h1 : kb < lb) (h2 : Bm < lb) (h3 : ∀ g o, Ar = some ⟨g, o, none⟩ → g < lb) (h4 : lb < B) (h5 : Bc ≤ lb) : See9 L 81 #[] #[.pointer (some ⟨kb, 0, none⟩), .pointer (some ⟨lb, 0, none⟩)] (EE (lkE gs now) L) Bc B (JP gs now Bm Ar cr kb lb (EE (lkE gs now) L)) where
  kept := fun k X w w' hj hz hb => by
    obtain ⟨v, hX, hL, ho, hk, hn⟩ := hj
    exact ⟨v, hX, hL.same (hb _ (.inr ((hX _).2 (.inl rfl)))), own_same ho (fun q hq => hb q (.inr ((hX _).2 (.inr hq)))), hk.same (hb _ (.inl (by omega))), hn.same hz (hb _ (.inl (by omega))) (fun g o e => hb _ (.inl (by have := h3 g o e; omega)))⟩
  far := fun k X w hj b hb => by
    obtain ⟨v, hX, hL, ho, hk, hn⟩ := hj
    rcases (hX b).1 hb with rfl | q
    · exact ⟨h5, hL.lt⟩
    · have := ho.lt b q
      exact ⟨by omega, this.2⟩
  call := fun k X w A c n hj hB hn hp hA => by
    obtain ⟨v, hX, hL, ho, hk, hkn⟩ := hj
    have hlow : ∀ q, v.ownBlock = some q → lb + 1 ≤ q := fun q hq => (ho.lt q hq).1
    refine (part1_any h hn Bm Ar A cr c kb lb (lb + 1) v _ w hkn hk hL (by rw [List.length_map, List.length_range]) ho (Nat.lt_succ_self _) hL.lt hp).mono ?_
    rintro e w' ⟨rfl, v', hL', ho', hb', hkp⟩
    have same : ∀ b, b < lb → w'.heap[b]? = w.heap[b]? := fun b hb => hkp.block b (Nat.lt_trans hb hL.lt) (fun q => by
      rcases q with q | q
      · omega
      · have := hlow b q; omega)
    refine ⟨rfl, fun b => b = lb ∨ v'.ownBlock = some b, ⟨v', fun b => Iff.rfl, hL', by rw [List.range_succ, List.map_append]; exact ho', hk.same (same _ h1), hkn.same hkp.size (same _ h2) (fun g o e => same _ (h3 g o e))⟩, ⟨hkp.os, hkp.tape, hkp.output, hkp.size, fun b hb hnX => hkp.block b hb (fun q => hnX ((hX b).2 q))⟩, fun b q => ?_⟩
    rcases q with q | q
    · exact .inl ((hX b).2 (.inl q))
    · rcases hb' b q with q | q
      · exact .inl ((hX b).2 (.inr q))
      · exact .inr q
theorem enters_pt1 (args : Array Value) (w : World) : (callFunc 81 args).run Tryz.prog w = .ok (.enter 81 args) w := enters_of Tryz.func81 (by kernel_rfl) rfl args w
set_option maxRecDepth 100000 in
set_option maxHeartbeats 8000000 in
/-- All parts of a pattern. -/
theorem parts_any {gs : GL} {now : List Em} {L : List Nd} (h : PtR gs now L) (B : Nat) (Ar Ap : Option Addr) (cr cp : Nat) (w : World) (hk : KnI w gs B Ar now) (hn : now ≠ []) (hL : RdN w Ap L) :
    Calls Tryz.prog 73 #[.agg #[.map (some B), .slice Ar now.length cr], .slice Ap L.length cp] w fun e w' => (∃ v, e = .returned v ∧ w'.ownsRow w.heap.size 112 4 v L.length (emc ((List.range L.length).map (EE (lkE gs now) L)))) ∧ Below w.heap.size w w' := by
  obtain ⟨w1, hw1⟩ : ∃ w1, w1 = (w.alloc (.cells #[.map (some B), .slice Ar now.length cr] 107)).alloc (.cells #[.slice none 0 0] 69) := ⟨_, rfl⟩
  have HE1 := (show Hid ((w.alloc (.cells #[.map (some B), .slice Ar now.length cr] 107)).alloc (.cells #[.slice none 0 0] 69) = w1) from hw1.symm)
  have s1 := World.size_alloc w (.cells #[.map (some B), .slice Ar now.length cr] 107)
  have s2 : w1.heap.size = w.heap.size + 2 := by rw [hw1, World.size_alloc, s1]
  have hb1 : Below w.heap.size w w1 := by rw [hw1]; exact ((Below.refl _ _).alloc (Nat.le_refl _) _).alloc (by omega) _
  have hk1 : KX w1 w.heap.size (.map (some B)) (.slice Ar now.length cr) := by rw [hw1]; exact (KX.new w _ _).below (below_box _ _)
  have hl1 : LX w1 (w.heap.size + 1) (.slice none 0 0) := by
    have q : LX ((w.alloc (.cells #[.map (some B), .slice Ar now.length cr] 107)).alloc (.cells #[.slice none 0 0] 69)) (w.alloc (.cells #[.map (some B), .slice Ar now.length cr] 107)).heap.size (.slice none 0 0) := ⟨heap_alloc_new _ _⟩
    rw [s1, ← hw1] at q; exact q
  have HT := hid_of (through9_any L 81 #[] #[.pointer (some ⟨w.heap.size, 0, none⟩), .pointer (some ⟨w.heap.size + 1, 0, none⟩)] (EE (lkE gs now) L) (JP gs now B Ar cr w.heap.size (w.heap.size + 1) (EE (lkE gs now) L)) Ap cp w.heap.size h.rt w1 hb1.size (hL.below hb1 (Nat.le_refl _)) (fun a ha => by
      have hne : L ≠ [] := by rintro rfl; have := h.rt.one; simp [run] at this
      obtain ⟨g, o, e, lt, _⟩ := hL hne
      rw [e] at ha
      obtain rfl := Option.some.inj ha
      exact lt) enters_pt1 (see_pt h B Ar cr w.heap.size (w.heap.size + 1) w.heap.size w1.heap.size (by omega) (by have := hk.m.lt; omega) (fun g o e => by have := rde_lt hk.r hn g o e; omega) (by omega) (by omega)) (fun b => b = w.heap.size + 1 ∨ (Value.slice none 0 0).ownBlock = some b) ⟨_, fun b => Iff.rfl, hl1, World.ownsRow_nil _ _ _ _, hk1, hk.later hb1⟩ (fun b q => by
      rcases q with q | q
      · omega
      · simp [Value.ownBlock] at q))
  have HB1 := (show Hid (Below w.heap.size w w1) from hb1)
  obtain ⟨⟨en, ec, el, em⟩, hE⟩ : ∃ e, e = EE (lkE gs now) L (L.length - 1) := ⟨_, rfl⟩
  rw [← hE] at HT
  simp only [emG] at HT
  clear hw1 h hk hn hL s1 s2 hb1 hk1 hl1
  go_enter Tryz.func73, Tryz.ntmps73
  go_wp2_with (rw [HE1.out])
  refine Calls.mono HT.out ?_
  rintro e w2 ⟨rfl, b2, X, v, _, hL2, ho2, _, _⟩
  obtain ⟨A2, c2, rfl⟩ := own_fm ho2
  have l0 := hL2.c0
  have HO := (show Hid (w2.ownsRow w.heap.size 112 4 (.slice A2 L.length c2) L.length (emc ((List.range L.length).map (EE (lkE gs now) L)))) from T.own_base ho2 (by omega))
  have HB2 := (show Hid (Below w.heap.size w w2) from HB1.out.trans b2)
  clear HT HE1 b2 hL2 ho2 hE HB1
  go_wp2_with fail
  go_ret
  exact ⟨⟨_, rfl, HO.out⟩, HB2.out⟩
end Go.Proofs.YtbipjdgholdhcaaGreat.N

namespace Go.Proofs.YtbipjdgholdhcaaGreat.N
open Go.RowKit Go.Maps
open Go.Proofs.YtbipjdgholdhcaaGreat.T
/-- What Parts answers. -/
def PaR (gs : GL) (r : Int) (l : List Em) (cd : Int) : Prop := ((ckG gs).2 ≠ 0 → cd = (ckG gs).2 ∧ l = []) ∧ ((ckG gs).2 = 0 → (r < 0 ∨ (gs.length : Int) ≤ r → cd = 1 ∧ l = []) ∧ ∀ (k : Nat) g, r = k → gs[k]? = some g → cd = 0 ∧ ∃ now, KnF gs now ∧ l = (List.range g.2.length).map (EE (lkE gs now) g.2))
theorem below_dr (w : World) : Below w.heap.size w w.drew := ⟨rfl, rfl, rfl, Nat.le_refl _, fun _ _ => rfl⟩
theorem enters_pts (args : Array Value) (w : World) : (callFunc 73 args).run Tryz.prog w = .ok (.enter 73 args) w := enters_of Tryz.func73 (by kernel_rfl) rfl args w
set_option maxRecDepth 100000 in
set_option maxHeartbeats 8000000 in
theorem partsP_any (gs : GL) (A : Option Addr) (c : Nat) (r : Int) (w : World) (hp : GI w A gs) :
    Calls Tryz.prog 60 #[.agg #[.slice A gs.length c], .int .i64 r] w fun e w' => (∃ v l cd, e = .returned (.tuple #[v, .int .i64 cd]) ∧ PaR gs r l cd ∧ w'.ownsRow w.heap.size 112 4 v l.length (emc l)) ∧ Below w.heap.size w w' := by
  obtain ⟨w1, hw1⟩ : ∃ w1, w1 = w.alloc (.cells #[.slice A gs.length c] 24) := ⟨_, rfl⟩
  have HE1 := (show Hid (w.alloc (.cells #[.slice A gs.length c] 24) = w1) from hw1.symm)
  have HB1 := (show Hid (Below w.heap.size w w1) from by rw [hw1]; exact below_box _ _)
  have HG1 := (show Hid (GX w1 w.heap.size (.slice A gs.length c)) from by rw [hw1]; exact GX.mk (heap_alloc_new w _))
  have q1 := HG1.out.cl
  have HN := hid_of (knownOf_any gs A c w1 (hp.later HB1.out))
  have HP := (show Hid (GI w A gs) from hp)
  clear hw1 hp
  go_enter Tryz.func60, Tryz.ntmps60
  go_wp2_with (rw [HE1.out])
  refine Calls.mono HN.out ?_
  rintro e w2 ⟨⟨m, v, rfl, h1, h2⟩, b2⟩
  have HB2 := (show Hid (Below w.heap.size w w2) from HB1.out.trans (b2.mono HB1.out.size))
  have HG2 := (show Hid (GX w2 w.heap.size (.slice A gs.length c)) from HG1.out.below b2)
  have hs1 := HB1.out.size
  clear HN HE1 q1 b2 HG1
  by_cases hz : (ckG gs).2 = 0
  · obtain ⟨mb, Ar, cr, now, rfl, rfl, _, hm2, hF, hl, hok, ho⟩ := h2 hz
    have tz : ((ckG gs).2 != 0) = false := by rw [hz]; rfl
    have hR := ckG_ok.1 hz
    have hn200 := hR.n2
    obtain ⟨w3, hw3⟩ : ∃ w3, w3 = w2.alloc (.cells #[.map (some mb), .slice Ar gs.length cr] 107) := ⟨_, rfl⟩
    have HE3 := (show Hid (w2.alloc (.cells #[.map (some mb), .slice Ar gs.length cr] 107) = w3) from hw3.symm)
    have hb3 : Below w2.heap.size w2 w3 := by rw [hw3]; exact below_box _ _
    have k0 : w3.cell? ⟨w2.heap.size, 0, none⟩ = some (.map (some mb)) := by rw [hw3]; exact (KX.new w2 _ _).c0
    have k1 : w3.cell? ⟨w2.heap.size, 1, none⟩ = some (.slice Ar gs.length cr) := by rw [hw3]; exact (KX.new w2 _ _).c1
    have HB3 := (show Hid (Below w.heap.size w w3) from HB2.out.trans (hb3.mono HB2.out.size))
    have q3 := (HG2.out.below hb3).cl
    have HKn := (show Hid (KnI w3 gs mb Ar now) from ⟨hm2.later hb3, own_rd (T.own_below ho hb3) hl, hl⟩)
    have HR := (show Hid (RtG gs ∧ KnF gs now ∧ now.length = gs.length ∧ OkN gs now ∧ (ckG gs).2 = 0) from ⟨hR, hF, hl, hok, hz⟩)
    clear h1 h2 ho hF hl hok hz hs1 hm2 hR hw3 hb3 HG2
    generalize hcd : (ckG gs).2 = cd at tz ⊢
    clear hcd
    by_cases h0 : r < 0
    · have HA := (show Hid (PaR gs r [] 1) from ⟨fun q => absurd HR.out.2.2.2.2 q, fun _ => ⟨fun _ => ⟨rfl, rfl⟩, fun k g e _ => absurd e (by omega)⟩⟩)
      clear HKn HR HP
      go_wp2_with (rw [HE3.out])
      refine bodyPost_ret (v := .tuple #[.slice none 0 0, .int .i64 1]) (by simp [results, Tryz.results60, go_sem]) rfl ⟨⟨_, [], 1, rfl, HA.out, World.ownsRow_nil _ _ _ _⟩, HB3.out⟩
    by_cases hg : (gs.length : Int) ≤ r
    · have HA := (show Hid (PaR gs r [] 1) from ⟨fun q => absurd HR.out.2.2.2.2 q, fun _ => ⟨fun _ => ⟨rfl, rfl⟩, fun k g e he => absurd (List.getElem?_eq_some_iff.1 he).1 (by omega)⟩⟩)
      have hg2 : r ≥ (gs.length : Int) := hg
      clear HKn HR HP
      go_wp2_with (rw [HE3.out])
      refine bodyPost_ret (v := .tuple #[.slice none 0 0, .int .i64 1]) (by simp [results, Tryz.results60, go_sem]) rfl ⟨⟨_, [], 1, rfl, HA.out, World.ownsRow_nil _ _ _ _⟩, HB3.out⟩
    obtain ⟨k, rfl⟩ : ∃ k : Nat, r = k := ⟨r.toNat, by omega⟩
    have hk : k < gs.length := by omega
    obtain ⟨g, hgk⟩ : ∃ g, gs[k]? = some g := ⟨_, List.getElem?_eq_getElem hk⟩
    have hmem := List.mem_of_getElem? hgk
    obtain ⟨b, o, A2, c2, rfl, lb, x0, x1, r2⟩ := HP.out.d k g hgk
    have x0' := (HB3.out.cell (p := ⟨b, o + k * 2, none⟩) lb).trans x0
    have x1' := (HB3.out.cell (p := ⟨b, o + k * 2 + 1, none⟩) lb).trans x1
    have z0 : (0 : Int) ≤ (k : Int) := by omega
    have z1 : (k : Int) < (gs.length : Int) := by omega
    have hg3 : ¬ (k : Int) ≥ (gs.length : Int) := by omega
    have HC := (show Hid (∀ _ : Unit, Calls Tryz.prog 73 #[.agg #[.map (some mb), .slice Ar gs.length cr], .slice A2 g.2.length c2] w3.drew fun e w' => (∃ v, e = .returned v ∧ w'.ownsRow w3.heap.size 112 4 v g.2.length (emc ((List.range g.2.length).map (EE (lkE gs now) g.2)))) ∧ Below w3.heap.size w3 w') from fun _ => by
      have hne : now ≠ [] := by rintro rfl; have h1 := HR.out.2.2.1; have h2 := HR.out.1.n1; rw [← h1] at h2; exact absurd h2 (by decide)
      have t := parts_any (ptR_of HR.out.1 HP.out HR.out.2.2.2.1 hmem) mb Ar A2 cr c2 w3.drew (HKn.out.later (below_dr w3)) hne ((r2.below HB3.out (Nat.le_refl _)).below (below_dr w3) (Nat.le_refl _))
      rw [HR.out.2.2.1] at t
      refine t.mono ?_
      rintro e w' ⟨h1, h2⟩
      exact ⟨h1, ⟨h2.os, h2.tape, h2.output, h2.size, h2.block⟩⟩)
    have HA := (show Hid (PaR gs k ((List.range g.2.length).map (EE (lkE gs now) g.2)) 0) from ⟨fun q => absurd HR.out.2.2.2.2 q, fun _ => ⟨fun q => by omega, fun k2 g2 e he => by
      have e2 : k = k2 := by omega
      subst e2
      rw [hgk] at he
      obtain rfl := Option.some.inj he
      exact ⟨rfl, now, HR.out.2.1, rfl⟩⟩⟩)
    have HSz := (show Hid (w.heap.size ≤ w3.heap.size) from HB3.out.size)
    clear hgk hmem x0 x1 r2 HKn HR HP hg hk
    go_wp2_with (rw [HE3.out])
    go_region_law (refine step_call2 enters_pts rfl _ _ _ _ (by rfl) (.agg #[.map (some mb), .slice Ar gs.length cr]) (.slice A2 g.2.length c2) (by rfl) (by rfl) ?_; with_reducible refine (HC.out ()).mono ?_; rintro e w4 ⟨⟨v4, rfl, ho4⟩, b4⟩; refine ⟨_, rfl, ?_⟩)
    all_goals
      have HO4 := hid_of ho4
      have HB4 := hid_of b4
      clear ho4 b4
      go_wp2_with fail
      refine bodyPost_ret (v := .tuple #[v4, .int .i64 0]) (by simp [results, Tryz.results60, go_sem]) rfl ⟨⟨_, _, 0, rfl, HA.out, by rw [List.length_map, List.length_range]; exact T.own_base HO4.out HSz.out⟩, HB3.out.trans (HB4.out.mono HSz.out)⟩
  · obtain ⟨rfl, rfl⟩ := h1 hz
    have tz : ((ckG gs).2 != 0) = true := by rw [bne, beq_eq_false_iff_ne.2 hz]; rfl
    have HR := (show Hid (PaR gs r [] (ckG gs).2) from ⟨fun _ => ⟨rfl, rfl⟩, fun q => absurd q hz⟩)
    clear h1 h2 hz hs1 HG2 HP
    have HB3 := (show Hid (Below w2.heap.size w2 (w2.alloc (.cells #[.map none, .slice none 0 0] 107))) from below_box _ _)
    generalize hcd : (ckG gs).2 = cd at tz HR ⊢
    clear hcd
    go_wp2_with fail
    refine bodyPost_ret (v := .tuple #[.slice none 0 0, .int .i64 cd]) (by simp [results, Tryz.results60, go_sem]) rfl ⟨⟨_, [], cd, rfl, HR.out, World.ownsRow_nil _ _ _ _⟩, HB2.out.trans (HB3.out.mono HB2.out.size)⟩
end Go.Proofs.YtbipjdgholdhcaaGreat.N
