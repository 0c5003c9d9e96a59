/- DERIVED. Plain mathematics and walks, laid together (11). -/
import Derived.Test.YtbipjdgholdhcabGreatFr10
namespace Go.Proofs.YtbipjdgholdhcabGreat.N
open Go.RowKit Go.Maps
open Go.Proofs.YtbipjdgholdhcabGreat.T
structure BgS (w wr : World) (u : Value) (mb kb : Nat) (gt : GL) (v : Value) (l : List Em) : Prop where
  b : Below w.heap.size w wr
  g : GX wr w.heap.size u
  r : KX wr (w.heap.size + 1) (.map none) (.slice none 0 0)
  k : KX wr kb (.map (some mb)) v
  m : NmM wr mb gt
  e1 : mb = w.heap.size + 2
  e2 : kb = w.heap.size + 3
  o : wr.ownsRow (w.heap.size + 4) 110 4 v l.length (emc l)
theorem BgS.later {w wr w2 : World} {u v : Value} {mb kb : Nat} {gt : GL} {l : List Em} (h : BgS w wr u mb kb gt v l) (hb : Below wr.heap.size wr w2) : BgS w w2 u mb kb gt v l := ⟨h.b.trans (hb.mono h.b.size), h.g.below hb, h.r.below hb, h.k.below hb, h.m.later hb, h.e1, h.e2, T.own_below h.o hb⟩
theorem BgS.put {w wX w1 : World} {u v : Value} {mb kb k : Nat} {gt : GL} {g : ByteArray × List Nd} {l : List Em} {D : DataW Unit} (h : BgS w wX u mb kb gt v l) (hg : wX.grownBy w1 (some mb)) (ho : w1.ownsMap Tryz.prog 9 (plainElem Tryz.prog 3) mb (k + 1) (D.put (.string g.1.data.toList) (.lit (.int .i64 k)))) (hD : NmD D gt) (hf : fdG gt g.1 = none) (hk : gt.length = k) : BgS w w1 u mb kb (gt ++ [g]) v l := by
  have hm : Maps.IsMap D := by
    obtain ⟨es, clock, _, _, _, e⟩ := ho
    cases D with
    | map es => exact ⟨es, rfl⟩
    | _ => cases e
  have e1 := h.e1
  have e2 := h.e2
  have key : ∀ j, j < wX.heap.size → j ≠ mb → w1.heap[j]? = wX.heap[j]? := fun j hj hn => hg.block j hj (fun e => by injection e with e; exact hn e)
  refine ⟨h.b.grown hg h.b.size (fun j hj => by cases hj; omega), h.g.same (key _ h.g.lt (by omega)), h.r.same (key _ h.r.lt (by omega)), h.k.same (key _ h.k.lt (by omega)), ⟨⟨D.put (.string g.1.data.toList) (.lit (.int .i64 k)), ?_, ?_⟩⟩, e1, e2, own_same h.o fun q hq => key q (h.o.lt q hq).2 (by have := (h.o.lt q hq).1; omega)⟩
  · rw [List.length_append, List.length_singleton, hk]; exact ho
  · have := NmD.put hm hD g hf
    rw [hk] at this
    exact this
theorem BgS.other {w w3 w4 : World} {u v : Value} {mb kb : Nat} {gt : GL} {l : List Em} (h : BgS w w4 u mb kb gt v l) (h3 : BgS w w3 u mb kb gt v l) (j : Nat) (x : Value) : BgS w (w4.setCell ⟨w3.heap.size, j, none⟩ x) u mb kb gt v l := by
  have key : ∀ i, i ≠ w3.heap.size → (w4.setCell ⟨w3.heap.size, j, none⟩ x).heap[i]? = w4.heap[i]? := fun i hi => heap_setCell_other _ _ _ _ hi
  have l1 := h3.g.lt
  have l2 := h3.r.lt
  have l3 := h3.k.lt
  have l4 := h3.m.lt
  exact ⟨h.b.setCell (p := ⟨w3.heap.size, j, none⟩) (by show w.heap.size ≤ w3.heap.size; omega) _, h.g.same (key _ (by omega)), h.r.same (key _ (by omega)), h.k.same (key _ (by omega)), h.m.same (key _ (by omega)), h.e1, h.e2, own_same h.o fun q hq => key q (by have := (h3.o.lt q hq).2; omega)⟩
theorem BgS.grown {w wr w6 : World} {u v : Value} {mb kb : Nat} {gt : GL} {l : List Em} (h : BgS w wr u mb kb gt v l) (hg : wr.grownBy w6 v.ownBlock) : KX w6 kb (.map (some mb)) v :=
  h.k.same (hg.block _ h.k.lt (fun e => by have := (h.o.lt _ e.symm).1; have := h.e2; omega))
theorem BgS.push {w wr w6 : World} {u v v' : Value} {mb kb : Nat} {gt : GL} {l : List Em} {e : Em} (h : BgS w wr u mb kb gt v l) (ho : w6.ownsRow (w.heap.size + 4) 110 4 v' (l.length + 1) (emc (l ++ [e]))) (hg : wr.grownBy w6 v.ownBlock) : BgS w (w6.setCell ⟨kb, 1, none⟩ v') u mb kb gt v' (l ++ [e]) := by
  have hlow : ∀ q, v.ownBlock = some q → w.heap.size + 4 ≤ q := fun q hq => (h.o.lt q hq).1
  have e1 := h.e1
  have e2 := h.e2
  have key : ∀ j, j < wr.heap.size → j ≠ kb → j < w.heap.size + 4 → (w6.setCell ⟨kb, 1, none⟩ v').heap[j]? = wr.heap[j]? := fun j hj hn hl => (heap_setCell_other _ _ _ _ hn).trans (hg.block j hj (fun e => by have := hlow _ e.symm; omega))
  refine ⟨(h.b.grown hg h.b.size (fun q e => by have := hlow q e; omega)).setCell (p := ⟨kb, 1, none⟩) (by show w.heap.size ≤ kb; omega) _, h.g.same (key _ h.g.lt (by omega) (by omega)), h.r.same (key _ h.r.lt (by omega) (by omega)), (h.grown hg).set1 v', h.m.same (key _ h.m.lt (by omega) (by omega)), e1, e2, ?_⟩
  rw [List.length_append]
  exact ownsRow_setCell_below ho (a := ⟨kb, 1, none⟩) (by show kb < w.heap.size + 4; omega) v'
theorem ret_kx {s : Nat} {fn : Func} {R : Ending → World → Prop} {act : Act} {W : World} {k : Nat} {m v : Value} (hF : fn.results = #[.cell s 105]) (hd : act.defers = []) (h6 : act.tmps.getD s undef = .pointer (some ⟨k, 0, none⟩)) (hT : KX W k m v) (hR : R (.returned (.agg #[m, v])) W) : bodyPost Tryz.prog fn R .ret act W := by
  have c0 : W.cell? ⟨k, 0, none⟩ = _ := hT.c0
  have c1 : W.cell? ⟨k, 1, none⟩ = _ := hT.c1
  refine bodyPost_ret (v := .agg #[m, v]) ?_ hd hR
  simp only [Array.getD_eq_getD_getElem?] at h6
  simp [results, hF, go_sem, h6, c0, c1]
theorem ret_kx2 {s t : Nat} {fn : Func} {R : Ending → World → Prop} {act : Act} {W : World} {k : Nat} {m v x : Value} (hF : fn.results = #[.cell s 105, .tmp t]) (hd : act.defers = []) (h6 : act.tmps.getD s undef = .pointer (some ⟨k, 0, none⟩)) (h7 : act.tmps.getD t undef = x) (hT : KX W k m v) (hR : R (.returned (.tuple #[.agg #[m, v], x])) W) : bodyPost Tryz.prog fn R .ret act W := by
  have c0 : W.cell? ⟨k, 0, none⟩ = _ := hT.c0
  have c1 : W.cell? ⟨k, 1, none⟩ = _ := hT.c1
  refine bodyPost_ret (v := .tuple #[.agg #[m, v], x]) ?_ hd hR
  simp only [Array.getD_eq_getD_getElem?] at h6 h7
  simp [results, hF, go_sem, h6, h7, c0, c1]
theorem BgS.start (w : World) (u : Value) (w1 w2 : World) (h1 : w1 = (w.alloc (.cells #[u] 24)).alloc (.cells #[.map none, .slice none 0 0] 105)) (h2 : w2 = (w1.alloc (.map #[] 0)).alloc (.cells #[.map (some w1.heap.size), .slice none 0 0] 105)) : BgS w w2 u w1.heap.size (w1.heap.size + 1) [] (.slice none 0 0) [] := by
  have s1 := World.size_alloc w (.cells #[u] 24)
  have s2 : w1.heap.size = w.heap.size + 2 := by rw [h1, World.size_alloc, s1]
  have s3 := World.size_alloc w1 (.map #[] 0)
  have b1 : Below w.heap.size w w1 := by rw [h1]; exact ((Below.refl _ _).alloc (Nat.le_refl _) _).alloc (by omega) _
  have b2 : Below w1.heap.size w1 w2 := by rw [h2]; exact ((Below.refl _ _).alloc (Nat.le_refl _) _).alloc (by omega) _
  have g1 : GX w1 w.heap.size u := by rw [h1]; exact (GX.mk (heap_alloc_new w _)).below (below_box _ _)
  have k1 : KX w1 (w.heap.size + 1) (.map none) (.slice none 0 0) := by
    have h := KX.new (w.alloc (.cells #[u] 24)) (.map none) (.slice none 0 0)
    rw [s1, ← h1] at h; exact h
  refine ⟨b1.trans (b2.mono b1.size), g1.below b2, k1.below b2, ?_, ?_, s2, by omega, World.ownsRow_nil _ _ _ _⟩
  · have h := KX.new (w1.alloc (.map #[] 0)) (.map (some w1.heap.size)) (.slice none 0 0)
    rw [s3, ← h2] at h; exact h
  · rw [h2]; exact (NmM.nil w1).later (below_box _ _)
set_option maxRecDepth 100000 in
set_option maxHeartbeats 16000000 in
/-- What is known ahead of all rounds. -/
theorem begun_any {gs : GL} (hR : RtG gs) {ag : List Bool} (hag : ag.length = gs.length) (gA : Nat) (A : Option Addr) (c ca : Nat) (w : World) (hp : GI w A gs) (hb : RdB w gA ag) :
    Calls Tryz.prog 71 #[.agg #[.slice A gs.length c], .slice (some ⟨gA, 0, none⟩) gs.length ca] w fun e w' => (∃ mb v, e = .returned (.agg #[.map (some mb), v]) ∧ w.heap.size ≤ mb ∧ NmM w' mb gs ∧ w'.ownsRow w.heap.size 110 4 v gs.length (emc (pgS gs (bdA ag)))) ∧ Below w.heap.size w w' := by
  have hn200 := hR.n2
  obtain ⟨px, hpx⟩ : ∃ px, px = pgS gs (bdA ag) := ⟨_, rfl⟩
  have HX := (show Hid (px.length = gs.length) from by show px.length = _; rw [hpx]; exact pgS_len _ _)
  have HGt := (show Hid (∀ (k : Nat), k < gs.length → ∃ g b, gs[k]? = some g ∧ ag[k]? = some b ∧ g.1.size ≤ 140737488355328 ∧ fdG (gs.take k) g.1 = none ∧ px[k]? = some (if b then eB else eP)) from fun k hk => by
    have hg : gs[k]? = some gs[k] := List.getElem?_eq_getElem hk
    have ha : ag[k]? = some ag[k] := List.getElem?_eq_getElem (by omega)
    have hm := List.mem_of_getElem? hg
    refine ⟨_, _, hg, ha, (hp.t _ hm).1, ?_, ?_⟩
    · cases q : fdG (gs.take k) (gs[k]).1 with
      | none => rfl
      | some i =>
        obtain ⟨h, h1, h2, _⟩ := fdG_some q
        rw [List.getElem?_take] at h1
        by_cases hik : i < k
        · rw [if_pos hik] at h1
          have := hR.dn.d i k h _ h1 hg h2
          omega
        · rw [if_neg hik] at h1; cases h1
    · rw [hpx]
      unfold pgS
      rw [List.getElem?_map, List.getElem?_range hk]
      have e : bdA ag k = !ag[k] := by unfold bdA; rw [ha]; rfl
      show some (if bdA ag k = true then eP else eB) = _
      rw [e]
      cases ag[k] <;> rfl)
  have HP := (show Hid (GrD w A gs) from hp.d)
  have HB := (show Hid (RdB w gA ag) from hb)
  obtain ⟨w1, hw1⟩ : ∃ w1, w1 = (w.alloc (.cells #[.slice A gs.length c] 24)).alloc (.cells #[.map none, .slice none 0 0] 105) := ⟨_, rfl⟩
  have HE1 := (show Hid ((w.alloc (.cells #[.slice A gs.length c] 24)).alloc (.cells #[.map none, .slice none 0 0] 105) = w1) from hw1.symm)
  obtain ⟨mb, hmb⟩ : ∃ mb, mb = w1.heap.size := ⟨_, rfl⟩
  have HMb := (show Hid (w1.heap.size = mb) from hmb.symm)
  obtain ⟨w2, hw2⟩ : ∃ w2, w2 = (w1.alloc (.map #[] 0)).alloc (.cells #[.map (some w1.heap.size), .slice none 0 0] 105) := ⟨_, rfl⟩
  have HE2 := (show Hid ((w1.alloc (.map #[] 0)).alloc (.cells #[.map (some w1.heap.size), .slice none 0 0] 105) = w2) from hw2.symm)
  have HS := (show Hid (BgS w w2 (.slice A gs.length c) mb (mb + 1) [] (.slice none 0 0) []) from by rw [hmb]; exact BgS.start w _ w1 w2 hw1 hw2)
  have q1 := HS.out.g.cl
  have hmm := @run_makeMap Tryz.prog
  rw [← hpx]
  clear hw1 hw2 hp hb hR hag hpx hmb
  go_enter Tryz.func71, Tryz.ntmps71
  go_wp2_with (first | rw [HE1.out] | rw [HE2.out, HMb.out])
  clear HE1 HE2 q1 hmm
  go_loopw [14] (fun t wr => ∃ (k : Nat) (A3 : Option Addr) (c3 : Nat), k ≤ gs.length ∧ t = .int .i64 (k : Int) ∧ Hid (BgS w wr (.slice A gs.length c) mb (mb + 1) (gs.take k) (.slice A3 k c3) (px.take k))) (fun t _ => gs.length - (intOf t).toNat)
  case atStart => exact ⟨0, none, 0, Nat.zero_le _, by go_num, HS⟩
  case round =>
    obtain ⟨k, A3, c3, hk, rfl, HW⟩ := hrel
    clear HS
    by_cases hlt : k < gs.length
    · obtain ⟨g, ba, hg, ha, hsz, hfd, hxk⟩ := HGt.out k hlt
      obtain ⟨b, o, A2, c2, rfl, lb, x0, x1, r2⟩ := HP.out k g hg
      have x0' := (HW.out.b.cell (p := ⟨b, o + k * 2, none⟩) lb).trans x0
      have x1' := (HW.out.b.cell (p := ⟨b, o + k * 2 + 1, none⟩) lb).trans x1
      clear x0 x1 r2
      have z0 : (0 : Int) ≤ (k : Int) := by omega
      have z1 : (k : Int) < (gs.length : Int) := by omega
      obtain ⟨w2, hw2⟩ : ∃ w2, w2 = wr.alloc (.cells #[.string g.1, .slice A2 g.2.length c2] 52) := ⟨_, rfl⟩
      have HE2 := (show Hid (wr.alloc (.cells #[.string g.1, .slice A2 g.2.length c2] 52) = w2) from hw2.symm)
      have hb2 : Below wr.heap.size wr w2 := by rw [hw2]; exact below_box _ _
      have HR2 := (show Hid (RB w2 wr.heap.size g.1 (.slice A2 g.2.length c2)) from by rw [hw2]; exact ⟨heap_alloc_new wr _⟩)
      have HW2 := (show Hid (BgS w w2 (.slice (some ⟨b, o, none⟩) gs.length c) mb (mb + 1) (gs.take k) (.slice A3 k c3) (px.take k)) from HW.out.later hb2)
      have k0 := HW2.out.k.c0
      have k1 := HW2.out.k.c1
      have y0 := HR2.out.c0
      obtain ⟨D, hown, hD⟩ := HW2.out.m.ex
      have hlk : (gs.take k).length = k := by rw [List.length_take]; omega
      rw [hlk] at hown
      have HOm := (show Hid (w2.ownsMap Tryz.prog 9 (plainElem Tryz.prog 3) mb k D) from hown)
      have HPut := (show Hid (∀ w3, w2.grownBy w3 (some mb) → w3.ownsMap Tryz.prog 9 (plainElem Tryz.prog 3) mb (k + 1) (D.put (.string g.1.data.toList) (.lit (.int .i64 k))) → BgS w w3 (.slice (some ⟨b, o, none⟩) gs.length c) mb (mb + 1) (gs.take (k + 1)) (.slice A3 k c3) (px.take k)) from fun w3 h1 h2 => by
        rw [show gs.take (k + 1) = gs.take k ++ [g] from by rw [List.take_add_one, hg]; rfl]
        exact HW2.out.put h1 h2 hD hfd hlk)
      have hkey := key_of hsz
      have HXk := (show Hid (px[k]? = some (if ba then eB else eP)) from hxk)
      have HAg := (show Hid (ag[k]? = some ba) from ha)
      have HLp := (show Hid ((px.take k).length = k) from by show _ = _; rw [List.length_take, HX.out]; omega)
      clear hw2 hb2 hg ha hxk hD hown hfd hlk HW HW2 HGt HP HR2 hsz
      cases ba with
      | false =>
        have HXe := (show Hid (px.take (k + 1) = px.take k ++ [⟨false, false, -1, 0⟩] ∧ (px.take k).length = k) from ⟨by rw [List.take_add_one, HXk.out]; rfl, HLp.out⟩)
        have HPu := (show Hid (∀ (W w6 : World) (g6 cap6 : Nat), BgS w W (.slice (some ⟨b, o, none⟩) gs.length c) mb (mb + 1) (gs.take (k + 1)) (.slice A3 k c3) (px.take k) → w6.ownsRow (w.heap.size + 4) 110 4 (.slice (some ⟨g6, 0, none⟩) (k + 1) cap6) (k + 1) (emc (px.take k ++ [⟨false, false, -1, 0⟩])) → W.grownBy w6 (Value.slice A3 k c3).ownBlock → KX w6 (mb + 1) (.map (some mb)) (.slice A3 k c3) ∧ BgS w (w6.setCell ⟨mb + 1, 1, none⟩ (.slice (some ⟨g6, 0, none⟩) (k + 1) cap6)) (.slice (some ⟨b, o, none⟩) gs.length c) mb (mb + 1) (gs.take (k + 1)) (.slice (some ⟨g6, 0, none⟩) (k + 1) cap6) (px.take (k + 1))) from fun W w6 g6 cap6 h1 h2 h3 => by
          refine ⟨h1.grown h3, ?_⟩
          have h := h1.push (e := ⟨false, false, -1, 0⟩) (v' := .slice (some ⟨g6, 0, none⟩) (k + 1) cap6) (w6 := w6) (by rw [HXe.out.2]; exact h2) h3
          rw [HXe.out.1]
          exact h)
        have HOw := (show Hid (∀ W, BgS w W (.slice (some ⟨b, o, none⟩) gs.length c) mb (mb + 1) (gs.take (k + 1)) (.slice A3 k c3) (px.take k) → W.ownsRow (w.heap.size + 4) 110 4 (.slice A3 k c3) k (emc (px.take k)) ∧ w.heap.size + 4 ≤ W.heap.size) from fun W h => ⟨by have h2 := h.o; rw [HXe.out.2] at h2; exact h2, by have h2 := h.k.lt; have e1 := h.e1; omega⟩)
        clear HXe HLp HXk
        go_wp2_with (first
          | rw [HE2.out]
          | rw [HE4.out]
          | (at_mapUpdate
             refine wpList_mapUpdate_own _ rfl _ _ _ 63 rfl 9 3 keyed Tryz.underlying63 _ mb k D rfl HOm.out (by unfold maxLen; omega) _ _ (.string g.1.data.toList) rfl rfl hkey _ [] (plainElem_int Tryz.underlying3 (WalkArith.wf_i64 (by omega))) ?_
             intro w3 hown3 hgrow3
             have HS3 := (show Hid (BgS w w3 (.slice (some ⟨b, o, none⟩) gs.length c) mb (mb + 1) (gs.take (k + 1)) (.slice A3 k c3) (px.take k)) from HPut.out w3 hgrow3 hown3)
             clear hown3 hgrow3 HPut HOm hkey k0 k1 y0 HE2
             obtain ⟨w4, hw4⟩ : ∃ w4, w4 = w3.alloc (.cells #[.bool false, .bool false, .int .i64 (-1), .int .i64 0] 110) := ⟨_, rfl⟩
             have HE4 := (show Hid (w3.alloc (.cells #[.bool false, .bool false, .int .i64 (-1), .int .i64 0] 110) = w4) from hw4.symm)
             have HX4 := (show Hid (EX w4 w3.heap.size ⟨false, false, -1, 0⟩) from by rw [hw4]; exact EX.new w3 ⟨false, false, -1, 0⟩)
             have HS4 := (show Hid (BgS w w4 (.slice (some ⟨b, o, none⟩) gs.length c) mb (mb + 1) (gs.take (k + 1)) (.slice A3 k c3) (px.take k)) from HS3.out.later (by rw [hw4]; exact below_box _ _))
             have a0 : w4.cell? ⟨gA, k, none⟩ = some (.bool false) := HB.out.later HS4.out.b k _ HAg.out
             have v0 : w4.cell? ⟨w3.heap.size, 0, none⟩ = some (.bool false) := HX4.out.eb.c0
             have v1 : w4.cell? ⟨w3.heap.size, 1, none⟩ = some (.bool false) := HX4.out.eb.c1
             have v2 : w4.cell? ⟨w3.heap.size, 2, none⟩ = some (.int .i64 (-1)) := HX4.out.eb.c2
             have v3 : w4.cell? ⟨w3.heap.size, 3, none⟩ = some (.int .i64 0) := HX4.out.eb.c3
             have f3 := HX4.out.fz 3
             have n1 := HS4.out.k.c1
             clear hw4
             )
          | (at_builtin
             refine wpList_appE w4.heap.size rfl rfl _ _ rfl (w.heap.size + 4) k _ (px.take k) rfl rfl (HOw.out _ HS4.out).1 (by omega) (HOw.out _ HS4.out).2 ?_
             intro g6 cap6 w6 ho6 hg6 hat6 hl6
             have HF6 := (show Hid _ from HPu.out w4 w6 g6 cap6 HS4.out ho6 hg6)
             have m1 := HF6.out.1.c1
             have mf := HF6.out.1.fz 1
             clear ho6 hg6 hat6 hl6 HPu HOw v0 v1 v2 v3 f3 a0 n1))
        go_roundw
        case rel => exact ⟨k + 1, some ⟨g6, 0, none⟩, cap6, by omega, by go_num, HF6.out.2⟩
        case measure => simp [intOf]; omega
      | true =>
        have HXe := (show Hid (px.take (k + 1) = px.take k ++ [⟨false, false, -1, -1⟩] ∧ (px.take k).length = k) from ⟨by rw [List.take_add_one, HXk.out]; rfl, HLp.out⟩)
        have HPu := (show Hid (∀ (W w6 : World) (g6 cap6 : Nat), BgS w W (.slice (some ⟨b, o, none⟩) gs.length c) mb (mb + 1) (gs.take (k + 1)) (.slice A3 k c3) (px.take k) → w6.ownsRow (w.heap.size + 4) 110 4 (.slice (some ⟨g6, 0, none⟩) (k + 1) cap6) (k + 1) (emc (px.take k ++ [⟨false, false, -1, -1⟩])) → W.grownBy w6 (Value.slice A3 k c3).ownBlock → KX w6 (mb + 1) (.map (some mb)) (.slice A3 k c3) ∧ BgS w (w6.setCell ⟨mb + 1, 1, none⟩ (.slice (some ⟨g6, 0, none⟩) (k + 1) cap6)) (.slice (some ⟨b, o, none⟩) gs.length c) mb (mb + 1) (gs.take (k + 1)) (.slice (some ⟨g6, 0, none⟩) (k + 1) cap6) (px.take (k + 1))) from fun W w6 g6 cap6 h1 h2 h3 => by
          refine ⟨h1.grown h3, ?_⟩
          have h := h1.push (e := ⟨false, false, -1, -1⟩) (v' := .slice (some ⟨g6, 0, none⟩) (k + 1) cap6) (w6 := w6) (by rw [HXe.out.2]; exact h2) h3
          rw [HXe.out.1]
          exact h)
        have HOw := (show Hid (∀ W, BgS w W (.slice (some ⟨b, o, none⟩) gs.length c) mb (mb + 1) (gs.take (k + 1)) (.slice A3 k c3) (px.take k) → W.ownsRow (w.heap.size + 4) 110 4 (.slice A3 k c3) k (emc (px.take k)) ∧ w.heap.size + 4 ≤ W.heap.size) from fun W h => ⟨by have h2 := h.o; rw [HXe.out.2] at h2; exact h2, by have h2 := h.k.lt; have e1 := h.e1; omega⟩)
        clear HXe HLp HXk
        go_wp2_with (first
          | rw [HE2.out]
          | rw [HE4.out]
          | rw [HE5.out]
          | (at_mapUpdate
             refine wpList_mapUpdate_own _ rfl _ _ _ 63 rfl 9 3 keyed Tryz.underlying63 _ mb k D rfl HOm.out (by unfold maxLen; omega) _ _ (.string g.1.data.toList) rfl rfl hkey _ [] (plainElem_int Tryz.underlying3 (WalkArith.wf_i64 (by omega))) ?_
             intro w3 hown3 hgrow3
             have HS3 := (show Hid (BgS w w3 (.slice (some ⟨b, o, none⟩) gs.length c) mb (mb + 1) (gs.take (k + 1)) (.slice A3 k c3) (px.take k)) from HPut.out w3 hgrow3 hown3)
             clear hown3 hgrow3 HPut HOm hkey k0 k1 y0 HE2
             obtain ⟨w4, hw4⟩ : ∃ w4, w4 = w3.alloc (.cells #[.bool false, .bool false, .int .i64 (-1), .int .i64 0] 110) := ⟨_, rfl⟩
             have HE4 := (show Hid (w3.alloc (.cells #[.bool false, .bool false, .int .i64 (-1), .int .i64 0] 110) = w4) from hw4.symm)
             have HX4 := (show Hid (EX w4 w3.heap.size ⟨false, false, -1, 0⟩) from by rw [hw4]; exact EX.new w3 ⟨false, false, -1, 0⟩)
             have HS4 := (show Hid (BgS w w4 (.slice (some ⟨b, o, none⟩) gs.length c) mb (mb + 1) (gs.take (k + 1)) (.slice A3 k c3) (px.take k)) from HS3.out.later (by rw [hw4]; exact below_box _ _))
             have a0 : w4.cell? ⟨gA, k, none⟩ = some (.bool true) := HB.out.later HS4.out.b k _ HAg.out
             have v0 : w4.cell? ⟨w3.heap.size, 0, none⟩ = some (.bool false) := HX4.out.eb.c0
             have v1 : w4.cell? ⟨w3.heap.size, 1, none⟩ = some (.bool false) := HX4.out.eb.c1
             have v2 : w4.cell? ⟨w3.heap.size, 2, none⟩ = some (.int .i64 (-1)) := HX4.out.eb.c2
             have v3 : w4.cell? ⟨w3.heap.size, 3, none⟩ = some (.int .i64 0) := HX4.out.eb.c3
             have f3 := HX4.out.fz 3
             have n1 := HS4.out.k.c1
             clear hw4
             obtain ⟨w5, hw5⟩ : ∃ w5, w5 = w4.setCell ⟨w3.heap.size, 3, none⟩ (.int .i64 (-1)) := ⟨_, rfl⟩
             have HE5 := (show Hid (w4.setCell ⟨w3.heap.size, 3, none⟩ (.int .i64 (-1)) = w5) from hw5.symm)
             have HX5 := (show Hid (EX w5 w3.heap.size ⟨false, false, -1, -1⟩) from by rw [hw5]; exact HX4.out.set3 (-1))
             have HS5 := (show Hid (BgS w w5 (.slice (some ⟨b, o, none⟩) gs.length c) mb (mb + 1) (gs.take (k + 1)) (.slice A3 k c3) (px.take k)) from by rw [hw5]; exact HS4.out.other HS3.out _ _)
             have u0 : w5.cell? ⟨w3.heap.size, 0, none⟩ = some (.bool false) := HX5.out.eb.c0
             have u1 : w5.cell? ⟨w3.heap.size, 1, none⟩ = some (.bool false) := HX5.out.eb.c1
             have u2 : w5.cell? ⟨w3.heap.size, 2, none⟩ = some (.int .i64 (-1)) := HX5.out.eb.c2
             have u3 : w5.cell? ⟨w3.heap.size, 3, none⟩ = some (.int .i64 (-1)) := HX5.out.eb.c3
             have n5 := HS5.out.k.c1
             clear hw5
             )
          | (at_builtin
             refine wpList_appE w5.heap.size rfl rfl _ _ rfl (w.heap.size + 4) k _ (px.take k) rfl rfl (HOw.out _ HS5.out).1 (by omega) (HOw.out _ HS5.out).2 ?_
             intro g6 cap6 w6 ho6 hg6 hat6 hl6
             have HF6 := (show Hid _ from HPu.out w5 w6 g6 cap6 HS5.out ho6 hg6)
             have m1 := HF6.out.1.c1
             have mf := HF6.out.1.fz 1
             clear ho6 hg6 hat6 hl6 HPu HOw v0 v1 v2 v3 f3 a0 n1))
        go_roundw
        case rel => exact ⟨k + 1, some ⟨g6, 0, none⟩, cap6, by omega, by go_num, HF6.out.2⟩
        case measure => simp [intOf]; omega
    · obtain rfl : k = gs.length := by omega
      have HF := (show Hid (BgS w wr (.slice A gs.length c) mb (mb + 1) gs (.slice A3 gs.length c3) px) from by
        have h := HW.out
        rw [List.take_length, ← HX.out, List.take_length, HX.out] at h
        exact h)
      have k0 := HF.out.k.c0
      have k1 := HF.out.k.c1
      have r0 := HF.out.r.c0
      have r1 := HF.out.r.c1
      have f0 := HF.out.r.fz 0
      have f1 := HF.out.r.fz 1
      have HZ := (show Hid (∀ W, W = (wr.setCell ⟨w.heap.size + 1, 0, none⟩ (.map (some mb))).setCell ⟨w.heap.size + 1, 1, none⟩ (.slice A3 gs.length c3) → KX W (w.heap.size + 1) (.map (some mb)) (.slice A3 gs.length c3) ∧ w.heap.size ≤ mb ∧ NmM W mb gs ∧ W.ownsRow w.heap.size 110 4 (.slice A3 gs.length c3) gs.length (emc px) ∧ Below w.heap.size w W) from fun W hW => by
        have h := HF.out
        have e1 := h.e1
        have key : ∀ j, j ≠ w.heap.size + 1 → W.heap[j]? = wr.heap[j]? := fun j hj => by rw [hW]; exact (heap_setCell_other _ _ _ _ hj).trans (heap_setCell_other _ _ _ _ hj)
        refine ⟨by rw [hW]; exact (h.r.set0 _).set1 _, by omega, h.m.same (key _ (by omega)), ?_, by rw [hW]; exact (h.b.setCell (p := ⟨w.heap.size + 1, 0, none⟩) (by show w.heap.size ≤ w.heap.size + 1; omega) _).setCell (p := ⟨w.heap.size + 1, 1, none⟩) (by show w.heap.size ≤ w.heap.size + 1; omega) _⟩
        have ho := own_same (W' := W) h.o fun q hq => key q (by have := (h.o.lt q hq).1; omega)
        rw [HX.out] at ho
        exact T.own_base ho (by omega))
      clear HW HGt HP HB HF
      go_wp2_with fail
      have HQ := (show Hid _ from HZ.out _ rfl)
      refine ret_kx (s := 4) (k := w.heap.size + 1) (by rfl) (by rfl) (by rfl) HQ.out.1 ?_
      exact ⟨⟨mb, _, rfl, HQ.out.2.1, HQ.out.2.2.1, HQ.out.2.2.2.1⟩, HQ.out.2.2.2.2⟩
end Go.Proofs.YtbipjdgholdhcabGreat.N

namespace Go.Proofs.YtbipjdgholdhcabGreat.N
open Go.RowKit Go.Maps
open Go.Proofs.YtbipjdgholdhcabGreat.T

open U (own_get)
/-- What is known in the end. -/
def KnF (gs : GL) (now : List Em) : Prop := ∃ (R : Mx) (bd : Nat → Bool) (m : Nat), IsR gs.length (cG gs) R ∧ (∀ i, bd i = !(R i i)) ∧ now = pgE gs kdR bd m ∧ pgE gs kdR bd (m + 1) = pgE gs kdR bd m
theorem gk_R {gs : GL} (hR : RtG gs) : GK gs kdR := ⟨hR, fun g hg => kds_R (rt_of (hR.ck g hg))⟩
theorem bd_R {gs : GL} {l : List Bool} (hz : (ckG gs).2 = 0) (h : AgR gs l) : ∃ R, IsR gs.length (cG gs) R ∧ ∀ i, bdA l i = !(R i i) := by
  classical
  obtain ⟨h1, h2⟩ := h.1 hz
  refine ⟨fun i j => decide (i < gs.length ∧ Rc gs.length (cG gs) i j), ?_, fun i => ?_⟩
  · exact ⟨fun i j => cG_lt, fun i j hi hj => ⟨fun q => (of_decide_eq_true q).2, fun q => decide_eq_true ⟨hi, q⟩⟩⟩
  · unfold bdA
    have h3 := h2 i
    show _ = !decide (i < gs.length ∧ Rc gs.length (cG gs) i i)
    by_cases q : i < gs.length ∧ Rc gs.length (cG gs) i i
    · rw [h3.2 q, decide_eq_true q]; rfl
    · rw [decide_eq_false q]
      cases e : l[i]? with
      | none => rfl
      | some b =>
        cases b with
        | false => rfl
        | true => exact absurd (h3.1 e) q
structure KoS (w wr : World) (u : Value) (kb mb gA : Nat) (gs : GL) (ag : List Bool) (Ar : Option Addr) (cr : Nat) (now : List Em) : Prop where
  b : Below w.heap.size w wr
  g : GX wr w.heap.size u
  r : KX wr (w.heap.size + 1) (.map none) (.slice none 0 0)
  k : KX wr kb (.map (some mb)) (.slice Ar gs.length cr)
  m : NmM wr mb gs
  a : RdB wr gA ag
  l : now.length = gs.length
  o : wr.ownsRow (w.heap.size + 2) 110 4 (.slice Ar gs.length cr) gs.length (emc now)
  e1 : w.heap.size + 2 ≤ mb
  e2 : mb < kb
  e3 : gA < kb
theorem KoS.later {w wr w2 : World} {u : Value} {kb mb gA : Nat} {gs : GL} {ag : List Bool} {Ar : Option Addr} {cr : Nat} {now : List Em} (h : KoS w wr u kb mb gA gs ag Ar cr now) (hb : Below wr.heap.size wr w2) : KoS w w2 u kb mb gA gs ag Ar cr now :=
  ⟨h.b.trans (hb.mono h.b.size), h.g.below hb, h.r.below hb, h.k.below hb, h.m.later hb, h.a.later hb, h.l, T.own_below h.o hb, h.e1, h.e2, h.e3⟩
theorem own_rd {W : World} {B n cr : Nat} {Ar : Option Addr} {l : List Em} (h : W.ownsRow B 110 4 (.slice Ar n cr) n (emc l)) (hl : l.length = n) : RdE W Ar l := by
  subst hl
  obtain ⟨A, c, e, h2⟩ := own_re h
  injection e with e1 _ _
  rw [e1]; exact h2
theorem own_fm {W : World} {B n : Nat} {v : Value} {xs : List Value} (h : W.ownsRow B 110 4 v n xs) : ∃ A c, v = .slice A n c := by
  rcases h.2 with ⟨rfl, rfl⟩ | ⟨g, cap, cur, rfl, _⟩
  · exact ⟨_, _, rfl⟩
  · exact ⟨_, _, rfl⟩
theorem KoS.kn {w wr : World} {u : Value} {kb mb gA : Nat} {gs : GL} {ag : List Bool} {Ar : Option Addr} {cr : Nat} {now : List Em} (h : KoS w wr u kb mb gA gs ag Ar cr now) : KnI wr gs mb Ar now := ⟨h.m, own_rd h.o h.l, h.l⟩
/-- The next ones take the place. -/
theorem KoS.next {w wr w2 : World} {u : Value} {kb mb gA : Nat} {gs : GL} {ag : List Bool} {Ar An : Option Addr} {cr cn : Nat} {now nx : List Em} (h : KoS w wr u kb mb gA gs ag Ar cr now) (hb : Below wr.heap.size wr w2) (ho : w2.ownsRow (wr.heap.size + 2) 110 4 (.slice An gs.length cn) gs.length (emc nx)) (hl : nx.length = gs.length) : KoS w (w2.setCell ⟨kb, 1, none⟩ (.slice An gs.length cn)) u kb mb gA gs ag An cn nx := by
  have h2 := h.later hb
  have e1 := h.e1
  have e2 := h.e2
  have e3 := h.e3
  have hkb := h.k.lt
  have hsz := h.b.size
  have key : ∀ j, j ≠ kb → (w2.setCell ⟨kb, 1, none⟩ (.slice An gs.length cn)).heap[j]? = w2.heap[j]? := fun j hj => heap_setCell_other _ _ _ _ hj
  refine ⟨h2.b.setCell (p := ⟨kb, 1, none⟩) (by show w.heap.size ≤ kb; omega) _, h2.g.same (key _ (by omega)), h2.r.same (key _ (by omega)), h2.k.set1 _, h2.m.same (key _ (by omega)), fun j b hj => ?_, hl, T.own_base (own_same ho fun q hq => key q (by have := (ho.lt q hq).1; omega)) (by omega), e1, e2, e3⟩
  rw [World.cell?_of_block (a := ⟨gA, j, none⟩) (key gA (by omega))]
  exact h2.a j b hj
/-- What is told. -/
theorem KoS.told {w wr : World} {u : Value} {kb mb gA : Nat} {gs : GL} {ag : List Bool} {Ar : Option Addr} {cr : Nat} {now : List Em} (h : KoS w wr u kb mb gA gs ag Ar cr now) (W : World) (hW : W = (wr.setCell ⟨w.heap.size + 1, 0, none⟩ (.map (some mb))).setCell ⟨w.heap.size + 1, 1, none⟩ (.slice Ar gs.length cr)) : KX W (w.heap.size + 1) (.map (some mb)) (.slice Ar gs.length cr) ∧ w.heap.size ≤ mb ∧ NmM W mb gs ∧ W.ownsRow w.heap.size 110 4 (.slice Ar gs.length cr) gs.length (emc now) ∧ Below w.heap.size w W := by
  have e1 := h.e1
  have key : ∀ j, j ≠ w.heap.size + 1 → W.heap[j]? = wr.heap[j]? := fun j hj => by rw [hW]; exact (heap_setCell_other _ _ _ _ hj).trans (heap_setCell_other _ _ _ _ hj)
  refine ⟨by rw [hW]; exact (h.r.set0 _).set1 _, by omega, h.m.same (key _ (by omega)), T.own_base (own_same h.o fun q hq => key q (by have := (h.o.lt q hq).1; omega)) (by omega), ?_⟩
  rw [hW]
  exact (h.b.setCell (p := ⟨w.heap.size + 1, 0, none⟩) (by show w.heap.size ≤ w.heap.size + 1; omega) _).setCell (p := ⟨w.heap.size + 1, 1, none⟩) (by show w.heap.size ≤ w.heap.size + 1; omega) _
theorem below_dn {w : World} (m : Nat) : Below w.heap.size w (w.drewN m) := below_drewN (Below.refl _ _) _
set_option maxRecDepth 100000 in
set_option maxHeartbeats 16000000 in
/-- What is known of all rules. -/
theorem knownOf_any (gs : GL) (A : Option Addr) (c : Nat) (w : World) (hp : GI w A gs) :
    Calls Tryz.prog 56 #[.agg #[.slice A gs.length c]] w fun e w' => (∃ m v, e = .returned (.tuple #[.agg #[m, v], .int .i64 (ckG gs).2]) ∧ ((ckG gs).2 ≠ 0 → m = .map none ∧ v = .slice none 0 0) ∧ ((ckG gs).2 = 0 → ∃ mb Ar cr now, m = .map (some mb) ∧ v = .slice Ar gs.length cr ∧ w.heap.size ≤ mb ∧ NmM w' mb gs ∧ KnF gs now ∧ now.length = gs.length ∧ OkN gs now ∧ w'.ownsRow w.heap.size 110 4 (.slice Ar gs.length cr) gs.length (emc now))) ∧ Below w.heap.size w w' := by
  obtain ⟨w1, hw1⟩ : ∃ w1, w1 = (w.alloc (.cells #[.slice A gs.length c] 24)).alloc (.cells #[.map none, .slice none 0 0] 105) := ⟨_, rfl⟩
  have HE1 := (show Hid ((w.alloc (.cells #[.slice A gs.length c] 24)).alloc (.cells #[.map none, .slice none 0 0] 105) = w1) from hw1.symm)
  have HS1 := (show Hid (Below w.heap.size w w1 ∧ GX w1 w.heap.size (.slice A gs.length c) ∧ KX w1 (w.heap.size + 1) (.map none) (.slice none 0 0) ∧ w1.heap.size = w.heap.size + 2) from by
    have s1 := World.size_alloc w (.cells #[.slice A gs.length c] 24)
    refine ⟨by rw [hw1]; exact ((Below.refl _ _).alloc (Nat.le_refl _) _).alloc (by omega) _, by rw [hw1]; exact (GX.mk (heap_alloc_new w _)).below (below_box _ _), ?_, by rw [hw1, World.size_alloc, s1]⟩
    have h := KX.new (w.alloc (.cells #[.slice A gs.length c] 24)) (.map none) (.slice none 0 0)
    rw [s1, ← hw1] at h; exact h)
  have HN := (show Hid (Calls Tryz.prog 70 #[.agg #[.slice A gs.length c]] w1 fun e w' => (∃ v l, e = .returned (.tuple #[v, .int .i64 (ckG gs).2]) ∧ AgR gs l ∧ w'.ownsRow w1.heap.size 4 1 v l.length (l.map Value.bool)) ∧ Below w1.heap.size w1 w') from againP_any gs A c w1 (hp.later HS1.out.1))
  have HP := (show Hid (GI w A gs) from hp)
  have q1 := HS1.out.2.1.cl
  clear hw1 hp
  go_enter Tryz.func56, Tryz.ntmps56
  go_wp2_with (rw [HE1.out])
  refine HN.out.mono ?_
  rintro e w2 ⟨⟨v, l, rfl, hag, hov⟩, b2⟩
  have HS2 := (show Hid (Below w.heap.size w w2 ∧ GX w2 w.heap.size (.slice A gs.length c) ∧ KX w2 (w.heap.size + 1) (.map none) (.slice none 0 0) ∧ w.heap.size + 2 ≤ w2.heap.size) from ⟨HS1.out.1.trans (b2.mono HS1.out.1.size), HS1.out.2.1.below b2, HS1.out.2.2.1.below b2, by have := b2.size; have := HS1.out.2.2.2; omega⟩)
  have q2 := HS2.out.2.1.cl
  clear HN HE1 q1 b2
  by_cases hz : (ckG gs).2 = 0
  · have hR := ckG_ok.1 hz
    have hn1 := hR.n1
    have hn200 := hR.n2
    obtain ⟨hl, hag2⟩ := hag.1 hz
    obtain ⟨R, hIs, hbd⟩ := bd_R hz hag
    obtain ⟨gA, ca, rfl, gl1, gl2, gx1, gx2⟩ := own_get hov (j := 0) (x := .bool l[0]) (by rw [List.getElem?_map, List.getElem?_eq_getElem (by omega)]; rfl)
    have hrb : RdB w2 gA l := fun j b hj => by
      obtain ⟨g', c', e, _, _, x, _⟩ := own_get hov (j := j) (x := .bool b) (by rw [List.getElem?_map, hj]; rfl)
      injection e with e1 _ _
      obtain ⟨rfl, _⟩ := Addr.mk.inj (Option.some.inj e1)
      exact x
    clear gx1 gx2
    rw [hl]
    have HBg := (show Hid (Calls Tryz.prog 71 #[.agg #[.slice A gs.length c], .slice (some ⟨gA, 0, none⟩) gs.length ca] w2 fun e w' => (∃ mb v, e = .returned (.agg #[.map (some mb), v]) ∧ w2.heap.size ≤ mb ∧ NmM w' mb gs ∧ w'.ownsRow w2.heap.size 110 4 v gs.length (emc (pgS gs (bdA l)))) ∧ Below w2.heap.size w2 w') from begun_any hR hl gA A c ca w2 (HP.out.later HS2.out.1) hrb)
    have HRB := (show Hid (RdB w2 gA l ∧ gA < w2.heap.size) from ⟨hrb, gl2⟩)
    have HR := (show Hid (RtG gs ∧ l.length = gs.length ∧ IsR gs.length (cG gs) R ∧ (∀ i, bdA l i = !(R i i)) ∧ (ckG gs).2 = 0) from ⟨hR, hl, hIs, hbd, hz⟩)
    have tz : ((ckG gs).2 != 0) = false := by rw [hz]; rfl
    clear hag hag2 hIs hbd hrb hov gl1 gl2 hR hl hz
    generalize hcd : (ckG gs).2 = cd at *
    have HCD := (show Hid ((ckG gs).2 = cd) from hcd)
    clear hcd
    go_wp2_with fail
    refine HBg.out.mono ?_
    rintro e w3 ⟨⟨mb, v2, rfl, hmb, hm3, ho3⟩, b3⟩
    obtain ⟨A3, c3, rfl⟩ := own_fm ho3
    obtain ⟨kb, hkb⟩ : ∃ kb, kb = w3.heap.size := ⟨_, rfl⟩
    have HKb := (show Hid (w3.heap.size = kb) from hkb.symm)
    obtain ⟨w4, hw4⟩ : ∃ w4, w4 = w3.alloc (.cells #[.map (some mb), .slice A3 gs.length c3] 105) := ⟨_, rfl⟩
    have HE4 := (show Hid (w3.alloc (.cells #[.map (some mb), .slice A3 gs.length c3] 105) = w4) from hw4.symm)
    have HS := (show Hid (KoS w w4 (.slice A gs.length c) kb mb gA gs l A3 c3 (pgE gs kdR (bdA l) 0)) from by
      have hb4 : Below w3.heap.size w3 w4 := by rw [hw4]; exact below_box _ _
      have hb24 : Below w2.heap.size w2 w4 := b3.trans (hb4.mono b3.size)
      have s2 := HS2.out.2.2.2
      have hk4 : KX w4 kb (.map (some mb)) (.slice A3 gs.length c3) := by rw [hw4, hkb]; exact KX.new w3 _ _
      refine ⟨HS2.out.1.trans (hb24.mono HS2.out.1.size), HS2.out.2.1.below hb24, HS2.out.2.2.1.below hb24, hk4, hm3.later hb4, HRB.out.1.later hb24, pgS_len _ _, T.own_base (T.own_below ho3 hb4) s2, by omega, by rw [hkb]; exact hm3.lt, by rw [hkb]; exact Nat.lt_of_lt_of_le HRB.out.2 b3.size⟩)
    clear hw4 hkb hmb hm3 ho3 b3 HBg HRB HS2 HS1 q2
    go_wp2_with (rw [HE4.out, HKb.out])
    clear HE4 HKb
    go_loopg [7] (pgM gs kdR (bdA l) 0) (fun gk u wr => ∃ (m : Nat) (Ar : Option Addr) (cr : Nat), Hid (pgM gs kdR (bdA l) m = gk) ∧ Hid (KoS w wr (.slice A gs.length c) kb mb gA gs l Ar cr (pgE gs kdR (bdA l) m)))
    case atStart => exact ⟨0, A3, c3, rfl, HS⟩
    case round =>
      obtain ⟨m, Ar, cr, HM, HW⟩ := hrel
      clear HS
      have HRd := (show Hid (Calls Tryz.prog 72 #[.agg #[.map (some mb), .slice Ar gs.length cr], .agg #[.slice A gs.length c], .slice (some ⟨gA, 0, none⟩) gs.length ca] wr fun e w' => (∃ v, e = .returned v ∧ w'.ownsRow (wr.heap.size + 2) 110 4 v gs.length (emc (pgE gs kdR (bdA l) (m + 1)))) ∧ Below wr.heap.size wr w') from by
        have t := round_any HR.out.1 (pgE_ok (gk_R HR.out.1) (bdA l) m) HR.out.2.1 mb gA Ar A cr c ca wr HW.out.kn (HP.out.later HW.out.b) HW.out.a
        rw [HW.out.l] at t
        exact t)
      have k0 := HW.out.k.c0
      have k1 := HW.out.k.c1
      have q0 := HW.out.g.cl
      go_wp2_with fail
      refine HRd.out.mono ?_
      rintro e w5 ⟨⟨v5, rfl, ho5⟩, b5⟩
      obtain ⟨An, cn, rfl⟩ := own_fm ho5
      have HW5 := (show Hid (KoS w w5 (.slice A gs.length c) kb mb gA gs l Ar cr (pgE gs kdR (bdA l) m)) from HW.out.later b5)
      have HL5 := (show Hid ((pgE gs kdR (bdA l) (m + 1)).length = gs.length) from rdE_len)
      have HO5 := (show Hid (w5.ownsRow (wr.heap.size + 2) 110 4 (.slice An gs.length cn) gs.length (emc (pgE gs kdR (bdA l) (m + 1)))) from ho5)
      have HB5 := (show Hid (Below wr.heap.size wr w5) from b5)
      have HQ := (show Hid (Calls Tryz.prog 73 #[.slice An gs.length cn, .slice Ar gs.length cr] w5 fun e w' => (∃ b, e = .returned (.bool b) ∧ (b = true ↔ pgE gs kdR (bdA l) (m + 1) = pgE gs kdR (bdA l) m)) ∧ ∃ j, w' = w5.drewN j) from by
        have t := equalE_any (pgE gs kdR (bdA l) (m + 1)) (pgE gs kdR (bdA l) m) An Ar cn cr (by rw [HL5.out]; omega) (by rw [HL5.out]; exact HW5.out.l) w5 (own_rd ho5 HL5.out) (own_rd HW5.out.o HW5.out.l)
        rw [HL5.out, HW5.out.l] at t
        exact t)
      have k5 := HW5.out.k.c1
      clear HRd ho5 b5 k0 k1 q0
      go_wp2_with fail
      refine HQ.out.mono ?_
      rintro e w6 ⟨⟨bb, rfl, hbb⟩, j6, hw6⟩
      have b6 : Below w5.heap.size w5 w6 := by rw [hw6]; exact below_dn _
      have HW6 := (show Hid (KoS w w6 (.slice A gs.length c) kb mb gA gs l Ar cr (pgE gs kdR (bdA l) m)) from HW5.out.later b6)
      have HNx := (show Hid (KoS w (w6.setCell ⟨kb, 1, none⟩ (.slice An gs.length cn)) (.slice A gs.length c) kb mb gA gs l An cn (pgE gs kdR (bdA l) (m + 1))) from HW.out.next (HB5.out.trans (b6.mono HB5.out.size)) (T.own_below HO5.out b6) HL5.out)
      clear hw6 b6 HQ k5 HO5 HB5 HW5
      cases bb with
      | true =>
        have HFx := (show Hid (KnF gs (pgE gs kdR (bdA l) m)) from ⟨R, bdA l, m, HR.out.2.2.1, HR.out.2.2.2.1, rfl, hbb.1 rfl⟩)
        have HLn := (show Hid ((pgE gs kdR (bdA l) m).length = gs.length) from HW6.out.l)
        have HOk := (show Hid (OkN gs (pgE gs kdR (bdA l) m)) from pgE_ok (gk_R HR.out.1) (bdA l) m)
        have HT := (show Hid _ from HW6.out.told)
        have k0 := HW6.out.k.c0
        have k1 := HW6.out.k.c1
        have r0 := HW6.out.r.c0
        have r1 := HW6.out.r.c1
        have f0 := HW6.out.r.fz 0
        have f1 := HW6.out.r.fz 1
        clear hbb HW6 HNx HW HM HL5
        go_wp2_with fail
        have HZ := (show Hid _ from HT.out _ rfl)
        refine ret_kx2 (s := 2) (t := 3) (k := w.heap.size + 1) (x := .int .i64 0) (by rfl) (by rfl) (by rfl) (by rfl) HZ.out.1 ?_
        refine ⟨⟨_, _, by rw [HCD.out, HR.out.2.2.2.2], fun q => absurd (HCD.out.trans HR.out.2.2.2.2) q, fun _ => ⟨mb, Ar, cr, _, rfl, rfl, HZ.out.2.1, HZ.out.2.2.1, HFx.out, HLn.out, HOk.out, HZ.out.2.2.2.1⟩⟩, HZ.out.2.2.2.2⟩
      | false =>
        have HLs := (show Hid (pgM gs kdR (bdA l) (m + 1) < pgM gs kdR (bdA l) m) from pgM_less (gk_R HR.out.1) HR.out.2.2.1 HR.out.2.2.2.1 (fun e => by have := hbb.2 e; cases this))
        have f1 := HW6.out.k.fz 1
        have k1 := HW6.out.k.c1
        clear hbb HW6 HW HL5
        go_wp2_with fail
        go_roundg (pgM gs kdR (bdA l) (m + 1))
        case measure => have := HM.out; have := HLs.out; omega
        case rel => exact ⟨m + 1, An, cn, rfl, HNx⟩
  · have tz : ((ckG gs).2 != 0) = true := by rw [bne, beq_eq_false_iff_ne.2 hz]; rfl
    have HZ := (show Hid ((ckG gs).2 ≠ 0) from hz)
    have r0 := HS2.out.2.2.1.c0
    have r1 := HS2.out.2.2.1.c1
    have f0 := HS2.out.2.2.1.fz 0
    have f1 := HS2.out.2.2.1.fz 1
    have HT := (show Hid (∀ W, W = (w2.setCell ⟨w.heap.size + 1, 0, none⟩ (.map none)).setCell ⟨w.heap.size + 1, 1, none⟩ (.slice none 0 0) → KX W (w.heap.size + 1) (.map none) (.slice none 0 0) ∧ Below w.heap.size w W) from fun W hW => by
      rw [hW]
      exact ⟨(HS2.out.2.2.1.set0 _).set1 _, (HS2.out.1.setCell (p := ⟨w.heap.size + 1, 0, none⟩) (by show w.heap.size ≤ w.heap.size + 1; omega) _).setCell (p := ⟨w.heap.size + 1, 1, none⟩) (by show w.heap.size ≤ w.heap.size + 1; omega) _⟩)
    clear hag hov hz HS1 HS2 HP q2
    generalize hcd : (ckG gs).2 = cd at *
    have HCD := (show Hid ((ckG gs).2 = cd) from hcd)
    clear hcd
    go_wp2_with fail
    have HQ := (show Hid _ from HT.out _ rfl)
    refine ret_kx2 (s := 2) (t := 3) (k := w.heap.size + 1) (x := .int .i64 cd) (by rfl) (by rfl) (by rfl) (by rfl) HQ.out.1 ?_
    exact ⟨⟨_, _, by rw [HCD.out], fun _ => ⟨rfl, rfl⟩, fun q => absurd (HCD.out.symm.trans q) HZ.out⟩, HQ.out.2⟩
end Go.Proofs.YtbipjdgholdhcabGreat.N

namespace Go.Proofs.YtbipjdgholdhcabGreat.N
open Go.RowKit Go.Maps
open Go.Proofs.YtbipjdgholdhcabGreat.T
/-- May the part that ends with a node match nothing, as chapter 10 has it: by its parts and by the rules. -/
def nuD (n : Nd) (x y : Bool) (r : ByteArray → Bool) : Bool :=
  if n.op = 1 ∨ n.op = 9 ∨ n.op = 11 ∨ n.op = 12 ∨ n.op = 13 ∨ n.op = 16 ∨ n.op = 17 then true
  else if n.op = 2 ∨ n.op = 3 ∨ n.op = 4 ∨ n.op = 5 then false
  else if n.op = 6 then r n.tx
  else if n.op = 7 then x && y
  else if n.op = 8 then x || y
  else if n.op = 14 ∨ n.op = 15 then decide (n.nn = 0) || x
  else x
theorem emN_nu (n : Nd) (x y : Em) (r : ByteArray → Em) : (emN n x y r).nu = nuD n x.nu y.nu fun s => (r s).nu := by
  unfold emN nuD
  by_cases c1 : n.op = 1 ∨ n.op = 17 ∨ ((n.op = 14 ∨ n.op = 16) ∧ n.nn = 0)
  · rw [if_pos c1]
    by_cases h : n.op = 14
    · have h0 : n.nn = 0 := by omega
      rw [if_neg (by omega), if_neg (by omega), if_neg (by omega), if_neg (by omega), if_neg (by omega), if_pos (by omega), h0]
      rfl
    · rw [if_pos (by omega)]
  rw [if_neg c1]
  by_cases c2 : n.op = 9 ∨ (n.op = 15 ∧ n.nn = 0)
  · rw [if_pos c2]
    by_cases h : n.op = 9
    · rw [if_pos (by omega)]
    · have h0 : n.nn = 0 := by omega
      rw [if_neg (by omega), if_neg (by omega), if_neg (by omega), if_neg (by omega), if_neg (by omega), if_pos (by omega), h0]
      rfl
  rw [if_neg c2]
  by_cases c3 : n.op = 2
  · rw [if_pos c3, if_neg (by omega), if_pos (by omega)]
  rw [if_neg c3]
  by_cases c4 : n.op = 3 ∨ n.op = 5
  · rw [if_pos c4, if_neg (by omega), if_pos (by omega)]
  rw [if_neg c4]
  by_cases c5 : n.op = 4
  · rw [if_pos c5, if_neg (by omega), if_pos (by omega)]
  rw [if_neg c5]
  by_cases c6 : n.op = 6
  · rw [if_pos c6, if_neg (by omega), if_neg (by omega), if_pos c6]
  rw [if_neg c6]
  by_cases c7 : n.op = 7
  · rw [if_pos c7, if_neg (by omega), if_neg (by omega), if_neg c6, if_pos c7]
  rw [if_neg c7]
  by_cases c8 : n.op = 8
  · rw [if_pos c8, if_neg (by omega), if_neg (by omega), if_neg c6, if_neg c7, if_pos c8]
  rw [if_neg c8]
  by_cases c10 : n.op = 10
  · rw [if_pos c10, if_neg (by omega), if_neg (by omega), if_neg c6, if_neg c7, if_neg c8, if_neg (by omega)]
  rw [if_neg c10]
  by_cases c11 : n.op = 11
  · rw [if_pos c11, if_pos (by omega)]
  rw [if_neg c11]
  by_cases c12 : n.op = 12
  · rw [if_pos c12, if_pos (by omega)]
  rw [if_neg c12]
  by_cases c13 : n.op = 13
  · rw [if_pos c13, if_pos (by omega)]
  rw [if_neg c13]
  by_cases c14 : n.op = 14
  · have h0 : ¬ n.nn = 0 := by omega
    rw [if_pos c14, if_neg (by omega), if_neg (by omega), if_neg c6, if_neg c7, if_neg c8, if_pos (by omega), decide_eq_false h0]
    rfl
  rw [if_neg c14]
  by_cases c15 : n.op = 15
  · have h0 : ¬ n.nn = 0 := by omega
    rw [if_pos c15, if_neg (by omega), if_neg (by omega), if_neg c6, if_neg c7, if_neg c8, if_pos (by omega), decide_eq_false h0]
    rfl
  rw [if_neg c15]
  by_cases c16 : n.op = 16
  · rw [if_pos c16, if_pos (by omega)]
  rw [if_neg c16, if_neg (by omega), if_neg (by omega), if_neg c6, if_neg c7, if_neg c8, if_neg (by omega)]
/-- Of each of the first nodes. -/
def nuL (kd : Nat → List Nat) (r : ByteArray → Bool) (L : List Nd) : Nat → List Bool
  | 0 => []
  | k + 1 => match L[k]? with
    | none => nuL kd r L k
    | some n => nuL kd r L k ++ [nuD n (((nuL kd r L k)[((kd k)[0]?).getD k]?).getD false) (((nuL kd r L k)[((kd k)[1]?).getD k]?).getD false) r]
theorem nuL_succ {kd : Nat → List Nat} {r : ByteArray → Bool} {L : List Nd} {k : Nat} {n : Nd} (h : L[k]? = some n) : nuL kd r L (k + 1) = nuL kd r L k ++ [nuD n (((nuL kd r L k)[((kd k)[0]?).getD k]?).getD false) (((nuL kd r L k)[((kd k)[1]?).getD k]?).getD false) r] := by rw [nuL, h]
theorem nuL_len {kd : Nat → List Nat} {r : ByteArray → Bool} {L : List Nd} : ∀ k, k ≤ L.length → (nuL kd r L k).length = k := by
  intro k
  induction k with
  | zero => intro _; rfl
  | succ k ih =>
    intro h
    rw [nuL_succ (List.getElem?_eq_getElem (by omega)), List.length_append, ih (by omega)]
    rfl
/-- What chapter 9 knows says what chapter 10 does. -/
theorem emL_nu {kd : Nat → List Nat} {r : ByteArray → Em} {L : List Nd} : ∀ k, k ≤ L.length → (emL kd r L k).map Em.nu = nuL kd (fun s => (r s).nu) L k := by
  intro k
  induction k with
  | zero => intro _; rfl
  | succ k ih =>
    intro h
    have hn : L[k]? = some L[k] := List.getElem?_eq_getElem (by omega)
    have hi := ih (by omega)
    have hl := nuL_len (kd := kd) (r := fun s => (r s).nu) (L := L) k (by omega)
    have key : ∀ i, (kE (emL kd r L k) (kd k) i).nu = (((nuL kd (fun s => (r s).nu) L k)[((kd k)[i]?).getD k]?).getD false) := fun i => by
      unfold kE
      cases e : (kd k)[i]? with
      | none =>
        rw [Option.getD_none, List.getElem?_eq_none (by omega)]
        rfl
      | some j =>
        rw [Option.getD_some, ← hi, List.getElem?_map]
        show (((emL kd r L k)[j]?).getD e0).nu = _
        cases (emL kd r L k)[j]? <;> rfl
    rw [emL_succ hn, nuL_succ hn, List.map_append, hi, List.map_singleton, emN_nu, key 0, key 1]
/-- Which rules may match nothing, by which ones it is known of. -/
def nuLa (kd : Nat → List Nat) (r : ByteArray → Bool) (L : List Nd) : Bool := ((nuL kd r L L.length).getLast?).getD false
theorem laE_nu {kd : Nat → List Nat} {r : ByteArray → Em} {L : List Nd} : (laE kd r L).nu = nuLa kd (fun s => (r s).nu) L := by
  unfold laE nuLa
  rw [← emL_nu _ (Nat.le_refl _), List.getLast?_map]
  cases (emL kd r L L.length).getLast? <;> rfl
/-- By which rules it is known of, of a name. -/
def lkB (gs : GL) (out : List Bool) (s : ByteArray) : Bool := match fdG gs s with
  | none => false
  | some k => (out[k]?).getD false
theorem lkE_nu {gs : GL} {now : List Em} {s : ByteArray} : (lkE gs now s).nu = lkB gs (now.map Em.nu) s := by
  unfold lkE lkB
  cases fdG gs s with
  | none => rfl
  | some k =>
    show ((now[k]?).getD e0).nu = ((now.map Em.nu)[k]?).getD false
    rw [List.getElem?_map]
    cases now[k]? <;> rfl
theorem nuD_mono {n : Nd} {x y x2 y2 : Bool} {r r2 : ByteArray → Bool} (hx : x = true → x2 = true) (hy : y = true → y2 = true) (hr : r n.tx = true → r2 n.tx = true) (h : nuD n x y r = true) : nuD n x2 y2 r2 = true := by
  unfold nuD at h ⊢
  by_cases c1 : n.op = 1 ∨ n.op = 9 ∨ n.op = 11 ∨ n.op = 12 ∨ n.op = 13 ∨ n.op = 16 ∨ n.op = 17
  · rw [if_pos c1]
  rw [if_neg c1] at h ⊢
  by_cases c2 : n.op = 2 ∨ n.op = 3 ∨ n.op = 4 ∨ n.op = 5
  · rw [if_pos c2] at h; cases h
  rw [if_neg c2] at h ⊢
  by_cases c6 : n.op = 6
  · rw [if_pos c6] at h ⊢; exact hr h
  rw [if_neg c6] at h ⊢
  by_cases c7 : n.op = 7
  · rw [if_pos c7] at h ⊢
    rw [Bool.and_eq_true] at h ⊢
    exact ⟨hx h.1, hy h.2⟩
  rw [if_neg c7] at h ⊢
  by_cases c8 : n.op = 8
  · rw [if_pos c8] at h ⊢
    rw [Bool.or_eq_true] at h ⊢
    exact h.imp hx hy
  rw [if_neg c8] at h ⊢
  by_cases c14 : n.op = 14 ∨ n.op = 15
  · rw [if_pos c14] at h ⊢
    rw [Bool.or_eq_true] at h ⊢
    exact h.imp id hx
  rw [if_neg c14] at h ⊢
  exact hx h
theorem nuL_mono {kd : Nat → List Nat} {r r2 : ByteArray → Bool} {L : List Nd} (hr : ∀ n ∈ L, r n.tx = true → r2 n.tx = true) : ∀ (k : Nat), k ≤ L.length → ∀ (j : Nat), (nuL kd r L k)[j]? = some true → (nuL kd r2 L k)[j]? = some true := by
  intro k
  induction k with
  | zero => intro _ j h; simp [nuL] at h
  | succ k ih =>
    intro h j hj
    have hn : L[k]? = some L[k] := List.getElem?_eq_getElem (by omega)
    have l1 := nuL_len (kd := kd) (r := r) (L := L) k (by omega)
    have l2 := nuL_len (kd := kd) (r := r2) (L := L) k (by omega)
    rw [nuL_succ hn] at hj ⊢
    by_cases q : j < k
    · rw [List.getElem?_append_left (by omega)] at hj ⊢
      exact ih (by omega) j hj
    · have hjk : j = k := by
        have := (List.getElem?_eq_some_iff.1 hj).1
        rw [List.length_append, l1, List.length_singleton] at this
        omega
      subst hjk
      have key : ∀ (i : Nat), ((nuL kd r L j)[i]?).getD false = true → ((nuL kd r2 L j)[i]?).getD false = true := fun i hi => by
        cases e : (nuL kd r L j)[i]? with
        | none => rw [e] at hi; cases hi
        | some b =>
          rw [e] at hi
          cases b with
          | false => cases hi
          | true => rw [ih (by omega) i e]; rfl
      rw [List.getElem?_append_right (by omega), l1, Nat.sub_self] at hj
      rw [List.getElem?_append_right (by omega), l2, Nat.sub_self]
      have hj : nuD L[j] (((nuL kd r L j)[((kd j)[0]?).getD j]?).getD false) (((nuL kd r L j)[((kd j)[1]?).getD j]?).getD false) r = true := Option.some.inj hj
      exact congrArg some (nuD_mono (key _) (key _) (hr _ (List.getElem_mem _)) hj)
theorem nuLa_mono {kd : Nat → List Nat} {r r2 : ByteArray → Bool} {L : List Nd} (hr : ∀ n ∈ L, r n.tx = true → r2 n.tx = true) (h : nuLa kd r L = true) : nuLa kd r2 L = true := by
  unfold nuLa at h ⊢
  have l1 := nuL_len (kd := kd) (r := r) (L := L) L.length (Nat.le_refl _)
  have l2 := nuL_len (kd := kd) (r := r2) (L := L) L.length (Nat.le_refl _)
  rw [List.getLast?_eq_getElem?, l1] at h
  rw [List.getLast?_eq_getElem?, l2]
  cases e : (nuL kd r L L.length)[L.length - 1]? with
  | none => rw [e] at h; cases h
  | some b =>
    rw [e] at h
    cases b with
    | false => cases h
    | true => rw [nuL_mono hr _ (Nat.le_refl _) _ e]; rfl
/-- The document's answer: nothing more can be marked, and what is marked is so. -/
structure NuI (gs : GL) (now : List Em) (out : List Bool) : Prop where
  l : out.length = gs.length
  s : ∀ (i : Nat), out[i]? = some true → (now.map Em.nu)[i]? = some true
theorem lkB_mono {gs : GL} {a b : List Bool} (h : ∀ (i : Nat), a[i]? = some true → b[i]? = some true) (s : ByteArray) (hs : lkB gs a s = true) : lkB gs b s = true := by
  unfold lkB at hs ⊢
  cases e : fdG gs s with
  | none => rw [e] at hs; cases hs
  | some k =>
    rw [e] at hs
    have hs : (a[k]?).getD false = true := hs
    show (b[k]?).getD false = true
    cases q : a[k]? with
    | none => rw [q] at hs; cases hs
    | some v =>
      rw [q] at hs
      cases v with
      | false => cases hs
      | true => rw [h k q]; rfl
/-- In the end what is known stays as it is, round by round. -/
theorem kf_fix {gs : GL} {now : List Em} (h : KnF gs now) {i : Nat} {g : ByteArray × List Nd} (hg : gs[i]? = some g) : (now.map Em.nu)[i]? = some (nuLa (kdR g.2) (lkB gs (now.map Em.nu)) g.2) := by
  obtain ⟨R, bd, m, hI, hbd, hn, he⟩ := h
  have hf : now = rdE gs kdR bd now := by rw [hn]; exact he.symm
  have e := rdE_get (gs := gs) (kd := kdR) (bd := bd) (now := now) hg
  rw [← hf] at e
  rw [List.getElem?_map, e, Option.map_some]
  have h2 : (laE (kdR g.2) (lkE gs now) g.2).nu = nuLa (kdR g.2) (lkB gs (now.map Em.nu)) g.2 := by
    rw [laE_nu]
    congr 1
    funext s
    exact lkE_nu
  split
  · rw [h2]
  · exact congrArg some h2
theorem NuI.step {gs : GL} {now : List Em} {out : List Bool} (hk : KnF gs now) (h : NuI gs now out) {i : Nat} {g : ByteArray × List Nd} (hg : gs[i]? = some g) (ht : nuLa (kdR g.2) (lkB gs out) g.2 = true) : NuI gs now (out.set i true) := by
  refine ⟨by rw [List.length_set]; exact h.l, fun j hj => ?_⟩
  by_cases e : j = i
  · subst e
    rw [kf_fix hk hg]
    exact congrArg some (nuLa_mono (fun n _ q => lkB_mono h.s n.tx q) ht)
  · rw [List.getElem?_set_ne (Ne.symm e)] at hj
    exact h.s j hj
theorem pg_below {gs : GL} {out : List Bool} (_hl : out.length = gs.length) (hc : ∀ (i : Nat) g, gs[i]? = some g → nuLa (kdR g.2) (lkB gs out) g.2 = true → out[i]? = some true) (bd : Nat → Bool) : ∀ (m i : Nat), ((pgE gs kdR bd m).map Em.nu)[i]? = some true → out[i]? = some true := by
  intro m
  induction m with
  | zero =>
    intro i h
    exfalso
    have h : ((pgS gs bd).map Em.nu)[i]? = some true := h
    unfold pgS at h
    rw [List.getElem?_map, List.getElem?_map] at h
    cases e : (List.range gs.length)[i]? with
    | none => rw [e] at h; cases h
    | some k =>
      rw [e] at h
      have h : (if bd k then eP else eB).nu = true := Option.some.inj h
      split at h <;> cases h
  | succ m ih =>
    intro i h
    have h : ((rdE gs kdR bd (pgE gs kdR bd m)).map Em.nu)[i]? = some true := h
    have hlt : i < gs.length := by
      have := (List.getElem?_eq_some_iff.1 h).1
      rw [List.length_map, rdE_len] at this
      exact this
    have hg : gs[i]? = some gs[i] := List.getElem?_eq_getElem hlt
    refine hc i _ hg ?_
    rw [List.getElem?_map, rdE_get hg] at h
    have h : (if bd i then laE (kdR gs[i].2) (lkE gs (pgE gs kdR bd m)) gs[i].2 else { laE (kdR gs[i].2) (lkE gs (pgE gs kdR bd m)) gs[i].2 with mo := -1 }).nu = true := Option.some.inj h
    have h2 : (laE (kdR gs[i].2) (lkE gs (pgE gs kdR bd m)) gs[i].2).nu = true := by
      split at h
      · exact h
      · exact h
    rw [laE_nu] at h2
    refine nuLa_mono (fun n _ q => ?_) h2
    rw [lkE_nu] at q
    exact lkB_mono ih n.tx q
/-- Where nothing more can be marked, it is what chapter 9 knows. -/
theorem NuI.done {gs : GL} {now : List Em} {out : List Bool} (hk : KnF gs now) (hn : now.length = gs.length) (h : NuI gs now out) (hc : ∀ (i : Nat) g, gs[i]? = some g → nuLa (kdR g.2) (lkB gs out) g.2 = true → out[i]? = some true) : out = now.map Em.nu := by
  have hk2 := hk
  obtain ⟨R, bd, m, _, _, rfl, _⟩ := hk2
  apply List.ext_getElem?
  intro i
  by_cases hi : i < gs.length
  · obtain ⟨x1, e1⟩ : ∃ x, out[i]? = some x := ⟨_, List.getElem?_eq_getElem (by rw [h.l]; exact hi)⟩
    obtain ⟨x2, e2⟩ : ∃ x, ((pgE gs kdR bd m).map Em.nu)[i]? = some x := ⟨_, List.getElem?_eq_getElem (by rw [List.length_map, hn]; exact hi)⟩
    rw [e1, e2]
    congr 1
    rw [Bool.eq_iff_iff]
    constructor
    · intro q
      rw [q] at e1
      have := h.s i e1
      rw [e2] at this
      exact Option.some.inj this
    · intro q
      rw [q] at e2
      have := pg_below h.l hc bd m i e2
      rw [e1] at this
      exact Option.some.inj this
  · rw [List.getElem?_eq_none (by rw [h.l]; omega), List.getElem?_eq_none (by rw [List.length_map, hn]; omega)]
end Go.Proofs.YtbipjdgholdhcabGreat.N

namespace Go.Proofs.YtbipjdgholdhcabGreat.N
open Go.RowKit Go.Maps
open Go.Proofs.YtbipjdgholdhcabGreat.T
/-- The rules with which the part begins that ends with a node: by its parts. -/
def hbN (n : Nd) (x y : Nat → Bool) (nx : Bool) (c : ByteArray → Option Nat) : Nat → Bool :=
  if n.op = 6 then fun q => decide (c n.tx = some q)
  else if n.op = 7 then (if nx then fun q => x q || y q else x)
  else if n.op = 8 then fun q => x q || y q
  else if (n.op = 14 ∨ n.op = 16) ∧ n.nn = 0 then fun _ => false
  else if n.op ≤ 6 ∨ n.op = 17 then fun _ => false
  else x
def nil1 : Nat → Bool := fun _ => false
/-- Of each of the first nodes. may: which parts may match nothing. -/
def hbL (kd : Nat → List Nat) (may : Nat → Bool) (c : ByteArray → Option Nat) (L : List Nd) : Nat → List (Nat → Bool)
  | 0 => []
  | k + 1 => match L[k]? with
    | none => hbL kd may c L k
    | some n => hbL kd may c L k ++ [hbN n (((hbL kd may c L k)[((kd k)[0]?).getD k]?).getD nil1) (((hbL kd may c L k)[((kd k)[1]?).getD k]?).getD nil1) (may (((kd k)[0]?).getD k)) c]
theorem hbL_succ {kd : Nat → List Nat} {may : Nat → Bool} {c : ByteArray → Option Nat} {L : List Nd} {k : Nat} {n : Nd} (h : L[k]? = some n) : hbL kd may c L (k + 1) = hbL kd may c L k ++ [hbN n (((hbL kd may c L k)[((kd k)[0]?).getD k]?).getD nil1) (((hbL kd may c L k)[((kd k)[1]?).getD k]?).getD nil1) (may (((kd k)[0]?).getD k)) c] := by rw [hbL, h]
theorem hbL_len {kd : Nat → List Nat} {may : Nat → Bool} {c : ByteArray → Option Nat} {L : List Nd} : ∀ k, k ≤ L.length → (hbL kd may c L k).length = k := by
  intro k
  induction k with
  | zero => intro _; rfl
  | succ k ih =>
    intro h
    rw [hbL_succ (List.getElem?_eq_getElem (by omega)), List.length_append, ih (by omega)]
    rfl
theorem hbL_pre {kd : Nat → List Nat} {may : Nat → Bool} {c : ByteArray → Option Nat} {L : List Nd} : ∀ (m k : Nat), k + m ≤ L.length → ∀ (j : Nat), j < k → (hbL kd may c L (k + m))[j]? = (hbL kd may c L k)[j]? := by
  intro m
  induction m with
  | zero => intro k _ j _; rfl
  | succ m ih =>
    intro k hk j hj
    have hn : L[k + m]? = some L[k + m] := List.getElem?_eq_getElem (by omega)
    rw [show k + (m + 1) = (k + m) + 1 from by omega, hbL_succ hn, List.getElem?_append_left (by rw [hbL_len _ (by omega)]; omega)]
    exact ih k (by omega) j hj
/-- With which rules the part begins that ends with node k. -/
def hbA (kd : Nat → List Nat) (may : Nat → Bool) (c : ByteArray → Option Nat) (L : List Nd) (k : Nat) : Nat → Bool := ((hbL kd may c L L.length)[k]?).getD nil1
theorem hbA_at {kd : Nat → List Nat} {may : Nat → Bool} {c : ByteArray → Option Nat} {L : List Nd} {k j : Nat} (hk : k ≤ L.length) (hj : j < k) : ((hbL kd may c L k)[j]?).getD nil1 = hbA kd may c L j := by
  have e := hbL_pre (kd := kd) (may := may) (c := c) (L := L) (L.length - k) k (by omega) j hj
  rw [show k + (L.length - k) = L.length from by omega] at e
  unfold hbA
  rw [e]
theorem hbA_step {kd : Nat → List Nat} {may : Nat → Bool} {c : ByteArray → Option Nat} {L : List Nd} (hk : Kds kd L) {k : Nat} {n : Nd} (hn : L[k]? = some n) (ha : ∀ i, i < arN n.op → (kd k)[i]? = some (((kd k)[i]?).getD k)) : hbA kd may c L k = hbN n (if 0 < arN n.op then hbA kd may c L (((kd k)[0]?).getD k) else nil1) (if 1 < arN n.op then hbA kd may c L (((kd k)[1]?).getD k) else nil1) (may (((kd k)[0]?).getD k)) c := by
  have hlt := (List.getElem?_eq_some_iff.1 hn).1
  have hl := hbL_len (kd := kd) (may := may) (c := c) (L := L) k (by omega)
  have e := hbA_at (kd := kd) (may := may) (c := c) (L := L) (k := k + 1) (j := k) (by omega) (Nat.lt_succ_self k)
  rw [← e, hbL_succ hn, List.getElem?_append_right (by omega), hl, Nat.sub_self]
  have key : ∀ (i : Nat), ((hbL kd may c L k)[((kd k)[i]?).getD k]?).getD nil1 = if i < arN n.op then hbA kd may c L (((kd k)[i]?).getD k) else nil1 := fun i => by
    by_cases q : i < arN n.op
    · rw [if_pos q]
      exact hbA_at (by omega) (hk.lt k _ hlt (List.mem_of_getElem? (ha i q)))
    · rw [if_neg q, show (kd k)[i]? = none from List.getElem?_eq_none (by rw [hk.n k n hn]; omega), Option.getD_none, List.getElem?_eq_none (by omega)]
      rfl
  rw [key 0, key 1]
  rfl
/-- A part that begins where the whole begins. -/
def stB (kd : Nat → List Nat) (may : Nat → Bool) (L : List Nd) (k i : Nat) : Bool := match L[k]? with
  | none => false
  | some n => !(decide ((n.op = 14 ∨ n.op = 16) ∧ n.nn = 0)) && (decide ((kd k)[0]? = some i) || (decide ((kd k)[1]? = some i) && (decide (n.op ≠ 7) || may (((kd k)[0]?).getD k))))
def clB (c : ByteArray → Option Nat) (L : List Nd) (i q : Nat) : Bool := match L[i]? with
  | none => false
  | some n => decide (n.op = 6) && decide (c n.tx = some q)
/-- It is the whole, or it begins where that begins. -/
def Wn (n : Nat) (s : Mx) (k i : Nat) : Prop := i = k ∨ Rc n s k i
theorem rc_first {n : Nat} {s : Mx} (hs : ∀ i j, s i j = true → i < n ∧ j < n) {k i : Nat} (h : Rc n s k i) : ∃ j, s k j = true ∧ Wn n s j i := by
  refine Rc.least (d := fun k i => ∃ j, s k j = true ∧ Wn n s j i) (fun i j h => ⟨j, h, .inl rfl⟩) (fun i k j hk h1 h2 => ?_) h
  obtain ⟨a, ha, hw⟩ := h1
  obtain ⟨b, hb, hv⟩ := h2
  have hkj : Rc n s k j := by
    rcases hv with e | e
    · rw [e]; exact Rc.of hb
    · exact Rc.trans (hs k b hb).2 (Rc.of hb) e
  refine ⟨a, ha, ?_⟩
  rcases hw with e | e
  · rw [← e]; exact .inr hkj
  · exact .inr (Rc.trans hk e hkj)
theorem stB_lt {kd : Nat → List Nat} {may : Nat → Bool} {L : List Nd} (hk : Kds kd L) {k i : Nat} (h : stB kd may L k i = true) : i < k ∧ k < L.length := by
  unfold stB at h
  cases e : L[k]? with
  | none => rw [e] at h; cases h
  | some n =>
    rw [e] at h
    have hlt := (List.getElem?_eq_some_iff.1 e).1
    simp only [Bool.and_eq_true, Bool.or_eq_true, decide_eq_true_eq] at h
    rcases h.2 with q | q
    · exact ⟨hk.lt k i hlt (List.mem_of_getElem? q), hlt⟩
    · exact ⟨hk.lt k i hlt (List.mem_of_getElem? q.1), hlt⟩
theorem hb_iff {kd : Nat → List Nat} {may : Nat → Bool} {c : ByteArray → Option Nat} {L : List Nd} (hk : Kds kd L) (ha : ∀ n ∈ L, alE n = 0) : ∀ (m k : Nat), k < m → k < L.length → ∀ q, hbA kd may c L k q = true ↔ ∃ i, Wn L.length (stB kd may L) k i ∧ clB c L i q = true := by
  intro m
  induction m with
  | zero => intro k h; omega
  | succ m ih =>
    intro k hkm hkl q
    have hn : L[k]? = some L[k] := List.getElem?_eq_getElem hkl
    have hal := ha _ (List.getElem_mem hkl)
    obtain ⟨hop, _⟩ := al_facts hal
    have hs : ∀ i j, stB kd may L i j = true → i < L.length ∧ j < L.length := fun i j h => by
      have := stB_lt hk h
      omega
    have hkn := hk.n k _ hn
    have hki : ∀ i, i < arN L[k].op → (kd k)[i]? = some (((kd k)[i]?).getD k) := fun i hi => by
      rw [List.getElem?_eq_getElem (by omega)]
      rfl
    have hkid : ∀ i, i < arN L[k].op → ((kd k)[i]?).getD k < k := fun i hi => hk.lt k _ hkl (List.mem_of_getElem? (hki i hi))
    rw [hbA_step hk hn hki]
    -- what a step is
    have hst : ∀ i, stB kd may L k i = true ↔ ¬ ((L[k].op = 14 ∨ L[k].op = 16) ∧ L[k].nn = 0) ∧ ((kd k)[0]? = some i ∨ ((kd k)[1]? = some i ∧ (L[k].op ≠ 7 ∨ may (((kd k)[0]?).getD k) = true))) := fun i => by
      unfold stB
      rw [hn]
      simp only [Bool.and_eq_true, Bool.or_eq_true, decide_eq_true_eq, Bool.not_eq_true', decide_eq_false_iff_not]
    have hcl : ∀ q, clB c L k q = true ↔ L[k].op = 6 ∧ c L[k].tx = some q := fun q => by
      unfold clB
      rw [hn]
      simp only [Bool.and_eq_true, decide_eq_true_eq]
    -- the other side: by the first step
    have hex : (∃ i, Wn L.length (stB kd may L) k i ∧ clB c L i q = true) ↔ clB c L k q = true ∨ ∃ j, stB kd may L k j = true ∧ hbA kd may c L j q = true := by
      constructor
      · rintro ⟨i, hw, hc⟩
        rcases hw with e | e
        · rw [e] at hc; exact .inl hc
        · obtain ⟨j, hj, hw⟩ := rc_first hs e
          have := stB_lt hk hj
          exact .inr ⟨j, hj, (ih j (by omega) (by omega) q).2 ⟨i, hw, hc⟩⟩
      · rintro (h | ⟨j, hj, hq⟩)
        · exact ⟨k, .inl rfl, h⟩
        · have hl := stB_lt hk hj
          obtain ⟨i, hw, hc⟩ := (ih j (by omega) (by omega) q).1 hq
          refine ⟨i, .inr ?_, hc⟩
          rcases hw with e | e
          · rw [e]; exact Rc.of hj
          · exact Rc.trans (k := j) (by omega) (Rc.of hj) e
    rw [hex, hcl]
    generalize hX : (if 0 < arN L[k].op then hbA kd may c L (((kd k)[0]?).getD k) else nil1) = X
    generalize hY : (if 1 < arN L[k].op then hbA kd may c L (((kd k)[1]?).getD k) else nil1) = Y
    unfold hbN
    by_cases c6 : L[k].op = 6
    · have a0 := arN_0 hop (by omega)
      have hno : ∀ j, ¬ stB kd may L k j = true := fun j h => by
        rcases ((hst j).1 h).2 with e | e
        · have := (List.getElem?_eq_some_iff.1 e).1; omega
        · have := (List.getElem?_eq_some_iff.1 e.1).1; omega
      rw [if_pos c6]
      constructor
      · intro h
        exact .inl ⟨c6, of_decide_eq_true h⟩
      · rintro (h | ⟨j, hj, _⟩)
        · exact decide_eq_true h.2
        · exact absurd hj (hno j)
    rw [if_neg c6]
    have hno6 : ¬ (L[k].op = 6 ∧ c L[k].tx = some q) := fun h => c6 h.1
    by_cases c7 : L[k].op = 7
    · have a2 := arN_2 (n := L[k]) (.inl c7)
      rw [if_pos (by omega)] at hX hY
      subst hX hY
      rw [if_pos c7]
      cases hm : may (((kd k)[0]?).getD k) with
      | true =>
        rw [if_pos rfl, Bool.or_eq_true]
        constructor
        · rintro (h | h)
          · exact .inr ⟨_, (hst _).2 ⟨by omega, .inl (hki 0 (by omega))⟩, h⟩
          · exact .inr ⟨_, (hst _).2 ⟨by omega, .inr ⟨hki 1 (by omega), .inr hm⟩⟩, h⟩
        · rintro (h | ⟨j, hj, h⟩)
          · exact absurd h hno6
          · rcases ((hst j).1 hj).2 with e | e
            · rw [e]; exact .inl h
            · rw [e.1]; exact .inr h
      | false =>
        rw [if_neg Bool.noConfusion]
        constructor
        · intro h
          exact .inr ⟨_, (hst _).2 ⟨by omega, .inl (hki 0 (by omega))⟩, h⟩
        · rintro (h | ⟨j, hj, h⟩)
          · exact absurd h hno6
          · rcases ((hst j).1 hj).2 with e | e
            · rw [e]; exact h
            · rcases e.2 with w | w
              · exact absurd c7 w
              · rw [hm] at w; cases w
    rw [if_neg c7]
    by_cases c8 : L[k].op = 8
    · have a2 := arN_2 (n := L[k]) (.inr c8)
      rw [if_pos (by omega)] at hX hY
      subst hX hY
      rw [if_pos c8, Bool.or_eq_true]
      constructor
      · rintro (h | h)
        · exact .inr ⟨_, (hst _).2 ⟨by omega, .inl (hki 0 (by omega))⟩, h⟩
        · exact .inr ⟨_, (hst _).2 ⟨by omega, .inr ⟨hki 1 (by omega), .inl c7⟩⟩, h⟩
      · rintro (h | ⟨j, hj, h⟩)
        · exact absurd h hno6
        · rcases ((hst j).1 hj).2 with e | e
          · rw [e]; exact .inl h
          · rw [e.1]; exact .inr h
    rw [if_neg c8]
    by_cases cz : (L[k].op = 14 ∨ L[k].op = 16) ∧ L[k].nn = 0
    · rw [if_pos cz]
      constructor
      · intro h; cases h
      · rintro (h | ⟨j, hj, h⟩)
        · exact absurd h hno6
        · exact absurd cz ((hst j).1 hj).1
    rw [if_neg cz]
    by_cases c17 : L[k].op ≤ 6 ∨ L[k].op = 17
    · have a0 := arN_0 hop c17
      rw [if_pos c17]
      constructor
      · intro h; cases h
      · rintro (h | ⟨j, hj, h⟩)
        · exact absurd h hno6
        · rcases ((hst j).1 hj).2 with e | e
          · have := (List.getElem?_eq_some_iff.1 e).1; omega
          · have := (List.getElem?_eq_some_iff.1 e.1).1; omega
    have a1 := arN_1 hop c17 (by omega)
    rw [if_pos (by omega)] at hX
    subst hX
    rw [if_neg c17]
    constructor
    · intro h
      exact .inr ⟨_, (hst _).2 ⟨cz, .inl (hki 0 (by omega))⟩, h⟩
    · rintro (h | ⟨j, hj, h⟩)
      · exact absurd h hno6
      · rcases ((hst j).1 hj).2 with e | e
        · rw [e]; exact h
        · have := (List.getElem?_eq_some_iff.1 e.1).1; omega
/-- Ends of parts that belong to no node yet fall, and lie ahead. -/
theorem run_falls (L : List Nd) : ∀ k, (∀ p ∈ run L k, p.2.1 < k) ∧ (run L k).Pairwise fun a b => b.2.1 < a.2.1 := by
  intro k
  induction k with
  | zero => exact ⟨(fun p h => by cases h), List.Pairwise.nil⟩
  | succ k ih =>
    obtain ⟨h1, h2⟩ := ih
    rw [run_succ]
    refine ⟨fun p hp => ?_, List.pairwise_cons.2 ⟨fun p hp => ?_, h2.sublist (List.drop_sublist _ _)⟩⟩
    · rcases List.mem_cons.1 hp with e | e
      · rw [e, pt_last]; omega
      · have := h1 p (List.mem_of_mem_drop e); omega
    · rw [pt_last]
      exact h1 p (List.mem_of_mem_drop hp)
/-- What is a node's part is free no more. -/
theorem kid_gone (L : List Nd) {p j : Nat} (hj : j ∈ kdR L p) : ∀ m, p < m → ∀ x ∈ run L m, x.2.1 ≠ j := by
  intro m
  unfold kdR at hj
  obtain ⟨y, hy, rfl⟩ := List.mem_map.1 hj
  have hy := List.mem_reverse.1 hy
  obtain ⟨h1, h2⟩ := run_falls L p
  have hyp := h1 y (List.mem_of_mem_take hy)
  induction m with
  | zero => intro h; omega
  | succ m ih =>
    intro hm x hx
    rw [run_succ] at hx
    by_cases e : m = p
    · subst e
      rcases List.mem_cons.1 hx with q | q
      · rw [q, pt_last]; omega
      · rw [← List.take_append_drop (arN (T.opAt L m)) (run L m)] at h2
        have := (List.pairwise_append.1 h2).2.2 y hy x q
        omega
    · rcases List.mem_cons.1 hx with q | q
      · rw [q, pt_last]; omega
      · exact ih (by omega) x (List.mem_of_mem_drop q)
/-- A part belongs to one node alone. -/
theorem kid_one (L : List Nd) {p p2 j : Nat} (h1 : j ∈ kdR L p) (h2 : j ∈ kdR L p2) : p = p2 := by
  have key : ∀ {a b : Nat}, a < b → j ∈ kdR L a → j ∈ kdR L b → False := fun {a b} hab ha hb => by
    unfold kdR at hb
    obtain ⟨y, hy, e⟩ := List.mem_map.1 hb
    exact kid_gone L ha b hab y (List.mem_of_mem_take (List.mem_reverse.1 hy)) e
  rcases Nat.lt_trichotomy p p2 with h | h | h
  · exact (key h h1 h2).elim
  · exact h
  · exact (key h h2 h1).elim
end Go.Proofs.YtbipjdgholdhcabGreat.N

namespace Go.Proofs.YtbipjdgholdhcabGreat.N
open Go.RowKit Go.Maps
open Go.Proofs.YtbipjdgholdhcabGreat.T
theorem kdR_up (L : List Nd) (k : Nat) : (kdR L k).Pairwise (· < ·) := by
  unfold kdR
  rw [List.pairwise_map, List.pairwise_reverse]
  exact (run_falls L k).2.sublist (List.take_sublist _ _)
theorem kdR_dis {L : List Nd} {k a b j : Nat} (ha : (kdR L k)[a]? = some j) (hb : (kdR L k)[b]? = some j) : a = b := by
  obtain ⟨la, ea⟩ := List.getElem?_eq_some_iff.1 ha
  obtain ⟨lb, eb⟩ := List.getElem?_eq_some_iff.1 hb
  have hp := List.pairwise_iff_getElem.1 (kdR_up L k)
  rcases Nat.lt_trichotomy a b with h | h | h
  · have := hp a b la lb h; omega
  · exact h
  · have := hp b a lb la h; omega
theorem stB_kid {kd : Nat → List Nat} {may : Nat → Bool} {L : List Nd} {k p : Nat} (h : stB kd may L k p = true) : p ∈ kd k := by
  unfold stB at h
  cases e : L[k]? with
  | none => rw [e] at h; cases h
  | some n =>
    rw [e] at h
    simp only [Bool.and_eq_true, Bool.or_eq_true, decide_eq_true_eq] at h
    rcases h.2 with q | q
    · exact List.mem_of_getElem? q
    · exact List.mem_of_getElem? q.1
/-- It begins where the whole begins. -/
def Wh (may : Nat → Bool) (L : List Nd) (i : Nat) : Prop := Wn L.length (stB (kdR L) may L) (L.length - 1) i
theorem wh_last {may : Nat → Bool} {L : List Nd} (hk : Kds (kdR L) L) {p : Nat} (hp : p ≠ L.length - 1) : Wh may L p ↔ ∃ k, Wh may L k ∧ stB (kdR L) may L k p = true := by
  constructor
  · intro h
    rcases h with h | h
    · exact absurd h hp
    · rcases Rc.last (fun i j q => ⟨(stB_lt hk q).2, Nat.lt_trans (stB_lt hk q).1 (stB_lt hk q).2⟩) h with q | ⟨j, _, q1, q2⟩
      · exact absurd q hp
      · exact ⟨j, q1, q2⟩
  · rintro ⟨k, h, q⟩
    rcases h with e | h
    · subst e
      exact .inr (Rc.of q)
    · exact .inr (Rc.trans (stB_lt hk q).2 h (Rc.of q))
/-- The document's way down: nodes from i on are done. -/
structure HdI (gs : GL) (may : Nat → Bool) (L : List Nd) (i : Nat) (want out : List Bool) : Prop where
  lw : want.length = L.length
  lo : out.length = gs.length
  w : ∀ (p : Nat), want[p]? = some true ↔ (p = L.length - 1 ∨ ∃ k, i ≤ k ∧ Wh may L k ∧ stB (kdR L) may L k p = true)
  o : ∀ (q : Nat), out[q]? = some true ↔ ∃ k, i ≤ k ∧ Wh may L k ∧ clB (fdG gs) L k q = true
theorem clB_lt {c : ByteArray → Option Nat} {L : List Nd} {k q : Nat} (h : clB c L k q = true) : k < L.length := by
  unfold clB at h
  cases e : L[k]? with
  | none => rw [e] at h; cases h
  | some n => exact (List.getElem?_eq_some_iff.1 e).1
theorem rep_no {n : Nat} {q : Nat} : (List.replicate n false)[q]? ≠ some true := fun h => by
  rw [List.getElem?_replicate] at h
  split at h <;> cases h
theorem HdI.start {gs : GL} {may : Nat → Bool} {L : List Nd} (hk : Kds (kdR L) L) (h0 : 0 < L.length) : HdI gs may L L.length ((List.replicate L.length false).set (L.length - 1) true) (List.replicate gs.length false) := by
  refine ⟨by rw [List.length_set, List.length_replicate], List.length_replicate, fun p => ?_, fun q => ?_⟩
  · constructor
    · intro h
      by_cases e : p = L.length - 1
      · exact .inl e
      · rw [List.getElem?_set_ne (Ne.symm e)] at h
        exact absurd h rep_no
    · rintro (e | ⟨k, h1, _, h2⟩)
      · rw [e]
        exact List.getElem?_set_self (by rw [List.length_replicate]; omega)
      · have := (stB_lt hk h2).2; omega
  · constructor
    · intro h
      exact absurd h rep_no
    · rintro ⟨k, h1, _, h2⟩
      have := clB_lt h2; omega
theorem HdI.here {gs : GL} {may : Nat → Bool} {L : List Nd} {i : Nat} {want out : List Bool} (hk : Kds (kdR L) L) (h : HdI gs may L (i + 1) want out) : want[i]? = some true ↔ Wh may L i := by
  rw [h.w i]
  by_cases e : i = L.length - 1
  · exact ⟨fun _ => .inl e, fun _ => .inl e⟩
  · rw [wh_last hk e]
    constructor
    · rintro (q | ⟨k, _, h1, h2⟩)
      · exact absurd q e
      · exact ⟨k, h1, h2⟩
    · rintro ⟨k, h1, h2⟩
      exact .inr ⟨k, (stB_lt hk h2).1, h1, h2⟩
theorem HdI.skip {gs : GL} {may : Nat → Bool} {L : List Nd} {i : Nat} {want out : List Bool} (h : HdI gs may L (i + 1) want out) (h1 : ∀ p, Wh may L i → stB (kdR L) may L i p = false) (h2 : ∀ q, Wh may L i → clB (fdG gs) L i q = false) : HdI gs may L i want out := by
  refine ⟨h.lw, h.lo, fun p => ?_, fun q => ?_⟩
  · rw [h.w p]
    constructor
    · rintro (e | ⟨k, a, b, c⟩)
      · exact .inl e
      · exact .inr ⟨k, by omega, b, c⟩
    · rintro (e | ⟨k, a, b, c⟩)
      · exact .inl e
      · by_cases e : k = i
        · subst e; rw [h1 p b] at c; cases c
        · exact .inr ⟨k, by omega, b, c⟩
  · rw [h.o q]
    constructor
    · rintro ⟨k, a, b, c⟩
      exact ⟨k, by omega, b, c⟩
    · rintro ⟨k, a, b, c⟩
      by_cases e : k = i
      · subst e; rw [h2 q b] at c; cases c
      · exact ⟨k, by omega, b, c⟩
/-- Whether the t-th part of a node begins where the node does. -/
def pkB (may : Nat → Bool) (L : List Nd) (i : Nat) (n : Nd) (t : Nat) : Bool := decide (n.op ≠ 7) || (decide (t = 0) || may (((kdR L i)[0]?).getD i))
/-- While a node's parts are marked. -/
structure HkI (gs : GL) (may : Nat → Bool) (L : List Nd) (i : Nat) (n : Nd) (m : Nat) (want out : List Bool) : Prop where
  lw : want.length = L.length
  lo : out.length = gs.length
  w : ∀ (p : Nat), want[p]? = some true ↔ (p = L.length - 1 ∨ (∃ k, i + 1 ≤ k ∧ Wh may L k ∧ stB (kdR L) may L k p = true) ∨ ∃ t, t < m ∧ (kdR L i)[t]? = some p ∧ pkB may L i n t = true)
  o : ∀ (q : Nat), out[q]? = some true ↔ ∃ k, i ≤ k ∧ Wh may L k ∧ clB (fdG gs) L k q = true
theorem HkI.quiet {gs : GL} {may : Nat → Bool} {L : List Nd} {i : Nat} {n : Nd} {want out : List Bool} (h : HdI gs may L (i + 1) want out) (hn : L[i]? = some n) (h6 : n.op ≠ 6) : HkI gs may L i n 0 want out := by
  refine ⟨h.lw, h.lo, fun p => ?_, fun q => ?_⟩
  · rw [h.w p]
    constructor
    · rintro (e | e)
      · exact .inl e
      · exact .inr (.inl e)
    · rintro (e | e | ⟨t, ht, _⟩)
      · exact .inl e
      · exact .inr e
      · omega
  · rw [h.o q]
    constructor
    · rintro ⟨k, a, b, c⟩
      exact ⟨k, by omega, b, c⟩
    · rintro ⟨k, a, b, c⟩
      by_cases e : k = i
      · subst e
        unfold clB at c
        rw [hn] at c
        simp only [Bool.and_eq_true, decide_eq_true_eq] at c
        exact absurd c.1 h6
      · exact ⟨k, by omega, b, c⟩
theorem HkI.call {gs : GL} {may : Nat → Bool} {L : List Nd} {i j : Nat} {n : Nd} {want out : List Bool} (h : HdI gs may L (i + 1) want out) (hn : L[i]? = some n) (h6 : n.op = 6) (hw : Wh may L i) (hj : fdG gs n.tx = some j) (hl : j < gs.length) : HkI gs may L i n 0 want (out.set j true) := by
  refine ⟨h.lw, by rw [List.length_set]; exact h.lo, fun p => ?_, fun q => ?_⟩
  · rw [h.w p]
    constructor
    · rintro (e | e)
      · exact .inl e
      · exact .inr (.inl e)
    · rintro (e | e | ⟨t, ht, _⟩)
      · exact .inl e
      · exact .inr e
      · omega
  · by_cases e : q = j
    · subst e
      rw [List.getElem?_set_self (by rw [h.lo]; exact hl)]
      refine ⟨fun _ => ⟨i, Nat.le_refl _, hw, ?_⟩, fun _ => rfl⟩
      unfold clB
      rw [hn]
      simp only [Bool.and_eq_true, decide_eq_true_eq]
      exact ⟨h6, hj⟩
    · rw [List.getElem?_set_ne (Ne.symm e), h.o q]
      constructor
      · rintro ⟨k, a, b, c⟩
        exact ⟨k, by omega, b, c⟩
      · rintro ⟨k, a, b, c⟩
        by_cases e2 : k = i
        · subst e2
          unfold clB at c
          rw [hn] at c
          simp only [Bool.and_eq_true, decide_eq_true_eq] at c
          rw [hj] at c
          exact absurd (Option.some.inj c.2).symm e
        · exact ⟨k, by omega, b, c⟩
theorem HkI.step {gs : GL} {may : Nat → Bool} {L : List Nd} {i j m : Nat} {n : Nd} {want out : List Bool} (hk : Kds (kdR L) L) (hi : i < L.length) (h : HkI gs may L i n m want out) (hj : (kdR L i)[m]? = some j) : HkI gs may L i n (m + 1) (want.set j (pkB may L i n m)) out := by
  have hm := List.mem_of_getElem? hj
  have hlt := hk.lt i j hi hm
  refine ⟨by rw [List.length_set]; exact h.lw, h.lo, fun p => ?_, h.o⟩
  by_cases e : p = j
  · subst e
    rw [List.getElem?_set_self (by rw [h.lw]; omega)]
    constructor
    · intro q
      exact .inr (.inr ⟨m, Nat.lt_succ_self m, hj, Option.some.inj q⟩)
    · rintro (q | ⟨k, a, _, c⟩ | ⟨t, ht, h1, h2⟩)
      · omega
      · have := kid_one L hm (stB_kid c); omega
      · have e := kdR_dis h1 hj
        subst e
        exact congrArg some h2
  · rw [List.getElem?_set_ne (Ne.symm e), h.w p]
    constructor
    · rintro (q | q | ⟨t, ht, h1, h2⟩)
      · exact .inl q
      · exact .inr (.inl q)
      · exact .inr (.inr ⟨t, by omega, h1, h2⟩)
    · rintro (q | q | ⟨t, ht, h1, h2⟩)
      · exact .inl q
      · exact .inr (.inl q)
      · by_cases e2 : t = m
        · subst e2
          rw [hj] at h1
          exact absurd (Option.some.inj h1).symm e
        · exact .inr (.inr ⟨t, by omega, h1, h2⟩)
theorem HkI.done {gs : GL} {may : Nat → Bool} {L : List Nd} {i : Nat} {n : Nd} {want out : List Bool} (hn : L[i]? = some n) (hw : Wh may L i) (hc : ¬((n.op = 14 ∨ n.op = 16) ∧ n.nn = 0)) (h2 : (kdR L i).length ≤ 2) (h : HkI gs may L i n (kdR L i).length want out) : HdI gs may L i want out := by
  have key : ∀ p, stB (kdR L) may L i p = true ↔ ∃ t, t < (kdR L i).length ∧ (kdR L i)[t]? = some p ∧ pkB may L i n t = true := fun p => by
    unfold stB pkB
    rw [hn]
    simp only [Bool.and_eq_true, Bool.or_eq_true, decide_eq_true_eq, Bool.not_eq_true', decide_eq_false_iff_not]
    constructor
    · rintro ⟨_, q | ⟨q, r⟩⟩
      · exact ⟨0, (List.getElem?_eq_some_iff.1 q).1, q, .inr (.inl rfl)⟩
      · refine ⟨1, (List.getElem?_eq_some_iff.1 q).1, q, ?_⟩
        rcases r with r | r
        · exact .inl r
        · exact .inr (.inr r)
    · rintro ⟨t, ht, q, r⟩
      refine ⟨hc, ?_⟩
      by_cases e0 : t = 0
      · subst e0; exact .inl q
      · have e1 : t = 1 := by omega
        subst e1
        refine .inr ⟨q, ?_⟩
        rcases r with r | r | r
        · exact .inl r
        · omega
        · exact .inr r
  refine ⟨h.lw, h.lo, fun p => ?_, h.o⟩
  rw [h.w p]
  constructor
  · rintro (q | ⟨k, a, b, c⟩ | q)
    · exact .inl q
    · exact .inr ⟨k, by omega, b, c⟩
    · exact .inr ⟨i, Nat.le_refl _, hw, (key p).2 q⟩
  · rintro (q | ⟨k, a, b, c⟩)
    · exact .inl q
    · by_cases e : k = i
      · subst e; exact .inr (.inr ((key p).1 c))
      · exact .inr (.inl ⟨k, by omega, b, c⟩)
/-- At the way's end: with which rules the whole begins. -/
theorem HdI.fin {gs : GL} {may : Nat → Bool} {L : List Nd} {want out : List Bool} (hk : Kds (kdR L) L) (ha : ∀ n ∈ L, alE n = 0) (h0 : 0 < L.length) (h : HdI gs may L 0 want out) (q : Nat) : out[q]? = some true ↔ hbA (kdR L) may (fdG gs) L (L.length - 1) q = true := by
  rw [h.o q, hb_iff hk ha L.length (L.length - 1) (by omega) (by omega) q]
  constructor
  · rintro ⟨k, _, b, c⟩
    exact ⟨k, b, c⟩
  · rintro ⟨k, b, c⟩
    exact ⟨k, Nat.zero_le _, b, c⟩
end Go.Proofs.YtbipjdgholdhcabGreat.N
