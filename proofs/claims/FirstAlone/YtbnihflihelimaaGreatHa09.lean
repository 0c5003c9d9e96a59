/- DERIVED. Plain mathematics and walks, laid together (9). -/
import Derived.Test.YtbnihflihelimaaGreatHa08
namespace Go.Proofs.YtbnihflihelimaaGreat.N
open Go.RowKit Go.Maps
open Go.Proofs.YtbnihflihelimaaGreat.T
structure BgS (w wr : World) (u : Value) (mb kb : Nat) (gt : GL) (v : Value) (l : List Em) : Prop where
  b : Below w.heap.size w wr
  g : GX wr w.heap.size u
  r : KX wr (w.heap.size + 1) (.map none) (.slice none 0 0)
  k : KX wr kb (.map (some mb)) v
  m : NmM wr mb gt
  e1 : mb = w.heap.size + 2
  e2 : kb = w.heap.size + 3
  o : wr.ownsRow (w.heap.size + 4) 74 4 v l.length (emc l)
theorem BgS.later {w wr w2 : World} {u v : Value} {mb kb : Nat} {gt : GL} {l : List Em} (h : BgS w wr u mb kb gt v l) (hb : Below wr.heap.size wr w2) : BgS w w2 u mb kb gt v l := ⟨h.b.trans (hb.mono h.b.size), h.g.below hb, h.r.below hb, h.k.below hb, h.m.later hb, h.e1, h.e2, T.own_below h.o hb⟩
theorem BgS.put {w wX w1 : World} {u v : Value} {mb kb k : Nat} {gt : GL} {g : ByteArray × List Nd} {l : List Em} {D : DataW Unit} (h : BgS w wX u mb kb gt v l) (hg : wX.grownBy w1 (some mb)) (ho : w1.ownsMap Tryz.prog 9 (plainElem Tryz.prog 3) mb (k + 1) (D.put (.string g.1.data.toList) (.lit (.int .i64 k)))) (hD : NmD D gt) (hf : fdG gt g.1 = none) (hk : gt.length = k) : BgS w w1 u mb kb (gt ++ [g]) v l := by
  have hm : Maps.IsMap D := by
    obtain ⟨es, clock, _, _, _, e⟩ := ho
    cases D with
    | map es => exact ⟨es, rfl⟩
    | _ => cases e
  have e1 := h.e1
  have e2 := h.e2
  have key : ∀ j, j < wX.heap.size → j ≠ mb → w1.heap[j]? = wX.heap[j]? := fun j hj hn => hg.block j hj (fun e => by injection e with e; exact hn e)
  refine ⟨h.b.grown hg h.b.size (fun j hj => by cases hj; omega), h.g.same (key _ h.g.lt (by omega)), h.r.same (key _ h.r.lt (by omega)), h.k.same (key _ h.k.lt (by omega)), ⟨⟨D.put (.string g.1.data.toList) (.lit (.int .i64 k)), ?_, ?_⟩⟩, e1, e2, own_same h.o fun q hq => key q (h.o.lt q hq).2 (by have := (h.o.lt q hq).1; omega)⟩
  · rw [List.length_append, List.length_singleton, hk]; exact ho
  · have := NmD.put hm hD g hf
    rw [hk] at this
    exact this
theorem BgS.other {w w3 w4 : World} {u v : Value} {mb kb : Nat} {gt : GL} {l : List Em} (h : BgS w w4 u mb kb gt v l) (h3 : BgS w w3 u mb kb gt v l) (j : Nat) (x : Value) : BgS w (w4.setCell ⟨w3.heap.size, j, none⟩ x) u mb kb gt v l := by
  have key : ∀ i, i ≠ w3.heap.size → (w4.setCell ⟨w3.heap.size, j, none⟩ x).heap[i]? = w4.heap[i]? := fun i hi => heap_setCell_other _ _ _ _ hi
  have l1 := h3.g.lt
  have l2 := h3.r.lt
  have l3 := h3.k.lt
  have l4 := h3.m.lt
  exact ⟨h.b.setCell (p := ⟨w3.heap.size, j, none⟩) (by show w.heap.size ≤ w3.heap.size; omega) _, h.g.same (key _ (by omega)), h.r.same (key _ (by omega)), h.k.same (key _ (by omega)), h.m.same (key _ (by omega)), h.e1, h.e2, own_same h.o fun q hq => key q (by have := (h3.o.lt q hq).2; omega)⟩
theorem BgS.grown {w wr w6 : World} {u v : Value} {mb kb : Nat} {gt : GL} {l : List Em} (h : BgS w wr u mb kb gt v l) (hg : wr.grownBy w6 v.ownBlock) : KX w6 kb (.map (some mb)) v :=
  h.k.same (hg.block _ h.k.lt (fun e => by have := (h.o.lt _ e.symm).1; have := h.e2; omega))
theorem BgS.push {w wr w6 : World} {u v v' : Value} {mb kb : Nat} {gt : GL} {l : List Em} {e : Em} (h : BgS w wr u mb kb gt v l) (ho : w6.ownsRow (w.heap.size + 4) 74 4 v' (l.length + 1) (emc (l ++ [e]))) (hg : wr.grownBy w6 v.ownBlock) : BgS w (w6.setCell ⟨kb, 1, none⟩ v') u mb kb gt v' (l ++ [e]) := by
  have hlow : ∀ q, v.ownBlock = some q → w.heap.size + 4 ≤ q := fun q hq => (h.o.lt q hq).1
  have e1 := h.e1
  have e2 := h.e2
  have key : ∀ j, j < wr.heap.size → j ≠ kb → j < w.heap.size + 4 → (w6.setCell ⟨kb, 1, none⟩ v').heap[j]? = wr.heap[j]? := fun j hj hn hl => (heap_setCell_other _ _ _ _ hn).trans (hg.block j hj (fun e => by have := hlow _ e.symm; omega))
  refine ⟨(h.b.grown hg h.b.size (fun q e => by have := hlow q e; omega)).setCell (p := ⟨kb, 1, none⟩) (by show w.heap.size ≤ kb; omega) _, h.g.same (key _ h.g.lt (by omega) (by omega)), h.r.same (key _ h.r.lt (by omega) (by omega)), (h.grown hg).set1 v', h.m.same (key _ h.m.lt (by omega) (by omega)), e1, e2, ?_⟩
  rw [List.length_append]
  exact ownsRow_setCell_below ho (a := ⟨kb, 1, none⟩) (by show kb < w.heap.size + 4; omega) v'
theorem ret_kx {s : Nat} {fn : Func} {R : Ending → World → Prop} {act : Act} {W : World} {k : Nat} {m v : Value} (hF : fn.results = #[.cell s 129]) (hd : act.defers = []) (h6 : act.tmps.getD s undef = .pointer (some ⟨k, 0, none⟩)) (hT : KX W k m v) (hR : R (.returned (.agg #[m, v])) W) : bodyPost Tryz.prog fn R .ret act W := by
  have c0 : W.cell? ⟨k, 0, none⟩ = _ := hT.c0
  have c1 : W.cell? ⟨k, 1, none⟩ = _ := hT.c1
  refine bodyPost_ret (v := .agg #[m, v]) ?_ hd hR
  simp only [Array.getD_eq_getD_getElem?] at h6
  simp [results, hF, go_sem, h6, c0, c1]
theorem ret_kx2 {s t : Nat} {fn : Func} {R : Ending → World → Prop} {act : Act} {W : World} {k : Nat} {m v x : Value} (hF : fn.results = #[.cell s 129, .tmp t]) (hd : act.defers = []) (h6 : act.tmps.getD s undef = .pointer (some ⟨k, 0, none⟩)) (h7 : act.tmps.getD t undef = x) (hT : KX W k m v) (hR : R (.returned (.tuple #[.agg #[m, v], x])) W) : bodyPost Tryz.prog fn R .ret act W := by
  have c0 : W.cell? ⟨k, 0, none⟩ = _ := hT.c0
  have c1 : W.cell? ⟨k, 1, none⟩ = _ := hT.c1
  refine bodyPost_ret (v := .tuple #[.agg #[m, v], x]) ?_ hd hR
  simp only [Array.getD_eq_getD_getElem?] at h6 h7
  simp [results, hF, go_sem, h6, h7, c0, c1]
theorem BgS.start (w : World) (u : Value) (w1 w2 : World) (h1 : w1 = (w.alloc (.cells #[u] 24)).alloc (.cells #[.map none, .slice none 0 0] 129)) (h2 : w2 = (w1.alloc (.map #[] 0)).alloc (.cells #[.map (some w1.heap.size), .slice none 0 0] 129)) : BgS w w2 u w1.heap.size (w1.heap.size + 1) [] (.slice none 0 0) [] := by
  have s1 := World.size_alloc w (.cells #[u] 24)
  have s2 : w1.heap.size = w.heap.size + 2 := by rw [h1, World.size_alloc, s1]
  have s3 := World.size_alloc w1 (.map #[] 0)
  have b1 : Below w.heap.size w w1 := by rw [h1]; exact ((Below.refl _ _).alloc (Nat.le_refl _) _).alloc (by omega) _
  have b2 : Below w1.heap.size w1 w2 := by rw [h2]; exact ((Below.refl _ _).alloc (Nat.le_refl _) _).alloc (by omega) _
  have g1 : GX w1 w.heap.size u := by rw [h1]; exact (GX.mk (heap_alloc_new w _)).below (below_box _ _)
  have k1 : KX w1 (w.heap.size + 1) (.map none) (.slice none 0 0) := by
    have h := KX.new (w.alloc (.cells #[u] 24)) (.map none) (.slice none 0 0)
    rw [s1, ← h1] at h; exact h
  refine ⟨b1.trans (b2.mono b1.size), g1.below b2, k1.below b2, ?_, ?_, s2, by omega, World.ownsRow_nil _ _ _ _⟩
  · have h := KX.new (w1.alloc (.map #[] 0)) (.map (some w1.heap.size)) (.slice none 0 0)
    rw [s3, ← h2] at h; exact h
  · rw [h2]; exact (NmM.nil w1).later (below_box _ _)
set_option maxRecDepth 100000 in
set_option maxHeartbeats 16000000 in
/-- What is known ahead of all rounds. -/
theorem begun_any {gs : GL} (hR : RtG gs) {ag : List Bool} (hag : ag.length = gs.length) (gA : Nat) (A : Option Addr) (c ca : Nat) (w : World) (hp : GI w A gs) (hb : RdB w gA ag) :
    Calls Tryz.prog 90 #[.agg #[.slice A gs.length c], .slice (some ⟨gA, 0, none⟩) gs.length ca] w fun e w' => (∃ mb v, e = .returned (.agg #[.map (some mb), v]) ∧ w.heap.size ≤ mb ∧ NmM w' mb gs ∧ w'.ownsRow w.heap.size 74 4 v gs.length (emc (pgS gs (bdA ag)))) ∧ Below w.heap.size w w' := by
  have hn200 := hR.n2
  obtain ⟨px, hpx⟩ : ∃ px, px = pgS gs (bdA ag) := ⟨_, rfl⟩
  have HX := (show Hid (px.length = gs.length) from by show px.length = _; rw [hpx]; exact pgS_len _ _)
  have HGt := (show Hid (∀ (k : Nat), k < gs.length → ∃ g b, gs[k]? = some g ∧ ag[k]? = some b ∧ g.1.size ≤ 140737488355328 ∧ fdG (gs.take k) g.1 = none ∧ px[k]? = some (if b then eB else eP)) from fun k hk => by
    have hg : gs[k]? = some gs[k] := List.getElem?_eq_getElem hk
    have ha : ag[k]? = some ag[k] := List.getElem?_eq_getElem (by omega)
    have hm := List.mem_of_getElem? hg
    refine ⟨_, _, hg, ha, (hp.t _ hm).1, ?_, ?_⟩
    · cases q : fdG (gs.take k) (gs[k]).1 with
      | none => rfl
      | some i =>
        obtain ⟨h, h1, h2, _⟩ := fdG_some q
        rw [List.getElem?_take] at h1
        by_cases hik : i < k
        · rw [if_pos hik] at h1
          have := hR.dn.d i k h _ h1 hg h2
          omega
        · rw [if_neg hik] at h1; cases h1
    · rw [hpx]
      unfold pgS
      rw [List.getElem?_map, List.getElem?_range hk]
      have e : bdA ag k = !ag[k] := by unfold bdA; rw [ha]; rfl
      show some (if bdA ag k = true then eP else eB) = _
      rw [e]
      cases ag[k] <;> rfl)
  have HP := (show Hid (GrD w A gs) from hp.d)
  have HB := (show Hid (RdB w gA ag) from hb)
  obtain ⟨w1, hw1⟩ : ∃ w1, w1 = (w.alloc (.cells #[.slice A gs.length c] 24)).alloc (.cells #[.map none, .slice none 0 0] 129) := ⟨_, rfl⟩
  have HE1 := (show Hid ((w.alloc (.cells #[.slice A gs.length c] 24)).alloc (.cells #[.map none, .slice none 0 0] 129) = w1) from hw1.symm)
  obtain ⟨mb, hmb⟩ : ∃ mb, mb = w1.heap.size := ⟨_, rfl⟩
  have HMb := (show Hid (w1.heap.size = mb) from hmb.symm)
  obtain ⟨w2, hw2⟩ : ∃ w2, w2 = (w1.alloc (.map #[] 0)).alloc (.cells #[.map (some w1.heap.size), .slice none 0 0] 129) := ⟨_, rfl⟩
  have HE2 := (show Hid ((w1.alloc (.map #[] 0)).alloc (.cells #[.map (some w1.heap.size), .slice none 0 0] 129) = w2) from hw2.symm)
  have HS := (show Hid (BgS w w2 (.slice A gs.length c) mb (mb + 1) [] (.slice none 0 0) []) from by rw [hmb]; exact BgS.start w _ w1 w2 hw1 hw2)
  have q1 := HS.out.g.cl
  have hmm := @run_makeMap Tryz.prog
  rw [← hpx]
  clear hw1 hw2 hp hb hR hag hpx hmb
  go_enter Tryz.func90, Tryz.ntmps90
  go_wp2_with (first | rw [HE1.out] | rw [HE2.out, HMb.out])
  clear HE1 HE2 q1 hmm
  go_loopw [14] (fun t wr => ∃ (k : Nat) (A3 : Option Addr) (c3 : Nat), k ≤ gs.length ∧ t = .int .i64 (k : Int) ∧ Hid (BgS w wr (.slice A gs.length c) mb (mb + 1) (gs.take k) (.slice A3 k c3) (px.take k))) (fun t _ => gs.length - (intOf t).toNat)
  case atStart => exact ⟨0, none, 0, Nat.zero_le _, by go_num, HS⟩
  case round =>
    obtain ⟨k, A3, c3, hk, rfl, HW⟩ := hrel
    clear HS
    by_cases hlt : k < gs.length
    · obtain ⟨g, ba, hg, ha, hsz, hfd, hxk⟩ := HGt.out k hlt
      obtain ⟨b, o, A2, c2, rfl, lb, x0, x1, r2⟩ := HP.out k g hg
      have x0' := (HW.out.b.cell (p := ⟨b, o + k * 2, none⟩) lb).trans x0
      have x1' := (HW.out.b.cell (p := ⟨b, o + k * 2 + 1, none⟩) lb).trans x1
      clear x0 x1 r2
      have z0 : (0 : Int) ≤ (k : Int) := by omega
      have z1 : (k : Int) < (gs.length : Int) := by omega
      obtain ⟨w2, hw2⟩ : ∃ w2, w2 = wr.alloc (.cells #[.string g.1, .slice A2 g.2.length c2] 50) := ⟨_, rfl⟩
      have HE2 := (show Hid (wr.alloc (.cells #[.string g.1, .slice A2 g.2.length c2] 50) = w2) from hw2.symm)
      have hb2 : Below wr.heap.size wr w2 := by rw [hw2]; exact below_box _ _
      have HR2 := (show Hid (RB w2 wr.heap.size g.1 (.slice A2 g.2.length c2)) from by rw [hw2]; exact ⟨heap_alloc_new wr _⟩)
      have HW2 := (show Hid (BgS w w2 (.slice (some ⟨b, o, none⟩) gs.length c) mb (mb + 1) (gs.take k) (.slice A3 k c3) (px.take k)) from HW.out.later hb2)
      have k0 := HW2.out.k.c0
      have k1 := HW2.out.k.c1
      have y0 := HR2.out.c0
      obtain ⟨D, hown, hD⟩ := HW2.out.m.ex
      have hlk : (gs.take k).length = k := by rw [List.length_take]; omega
      rw [hlk] at hown
      have HOm := (show Hid (w2.ownsMap Tryz.prog 9 (plainElem Tryz.prog 3) mb k D) from hown)
      have HPut := (show Hid (∀ w3, w2.grownBy w3 (some mb) → w3.ownsMap Tryz.prog 9 (plainElem Tryz.prog 3) mb (k + 1) (D.put (.string g.1.data.toList) (.lit (.int .i64 k))) → BgS w w3 (.slice (some ⟨b, o, none⟩) gs.length c) mb (mb + 1) (gs.take (k + 1)) (.slice A3 k c3) (px.take k)) from fun w3 h1 h2 => by
        rw [show gs.take (k + 1) = gs.take k ++ [g] from by rw [List.take_add_one, hg]; rfl]
        exact HW2.out.put h1 h2 hD hfd hlk)
      have hkey := key_of hsz
      have HXk := (show Hid (px[k]? = some (if ba then eB else eP)) from hxk)
      have HAg := (show Hid (ag[k]? = some ba) from ha)
      have HLp := (show Hid ((px.take k).length = k) from by show _ = _; rw [List.length_take, HX.out]; omega)
      clear hw2 hb2 hg ha hxk hD hown hfd hlk HW HW2 HGt HP HR2 hsz
      cases ba with
      | false =>
        have HXe := (show Hid (px.take (k + 1) = px.take k ++ [⟨false, false, -1, 0⟩] ∧ (px.take k).length = k) from ⟨by rw [List.take_add_one, HXk.out]; rfl, HLp.out⟩)
        have HPu := (show Hid (∀ (W w6 : World) (g6 cap6 : Nat), BgS w W (.slice (some ⟨b, o, none⟩) gs.length c) mb (mb + 1) (gs.take (k + 1)) (.slice A3 k c3) (px.take k) → w6.ownsRow (w.heap.size + 4) 74 4 (.slice (some ⟨g6, 0, none⟩) (k + 1) cap6) (k + 1) (emc (px.take k ++ [⟨false, false, -1, 0⟩])) → W.grownBy w6 (Value.slice A3 k c3).ownBlock → KX w6 (mb + 1) (.map (some mb)) (.slice A3 k c3) ∧ BgS w (w6.setCell ⟨mb + 1, 1, none⟩ (.slice (some ⟨g6, 0, none⟩) (k + 1) cap6)) (.slice (some ⟨b, o, none⟩) gs.length c) mb (mb + 1) (gs.take (k + 1)) (.slice (some ⟨g6, 0, none⟩) (k + 1) cap6) (px.take (k + 1))) from fun W w6 g6 cap6 h1 h2 h3 => by
          refine ⟨h1.grown h3, ?_⟩
          have h := h1.push (e := ⟨false, false, -1, 0⟩) (v' := .slice (some ⟨g6, 0, none⟩) (k + 1) cap6) (w6 := w6) (by rw [HXe.out.2]; exact h2) h3
          rw [HXe.out.1]
          exact h)
        have HOw := (show Hid (∀ W, BgS w W (.slice (some ⟨b, o, none⟩) gs.length c) mb (mb + 1) (gs.take (k + 1)) (.slice A3 k c3) (px.take k) → W.ownsRow (w.heap.size + 4) 74 4 (.slice A3 k c3) k (emc (px.take k)) ∧ w.heap.size + 4 ≤ W.heap.size) from fun W h => ⟨by have h2 := h.o; rw [HXe.out.2] at h2; exact h2, by have h2 := h.k.lt; have e1 := h.e1; omega⟩)
        clear HXe HLp HXk
        go_wp2_with (first
          | rw [HE2.out]
          | rw [HE4.out]
          | (at_mapUpdate
             refine wpList_mapUpdate_own _ rfl _ _ _ 52 rfl 9 3 keyed Tryz.underlying52 _ mb k D rfl HOm.out (by unfold maxLen; omega) _ _ (.string g.1.data.toList) rfl rfl hkey _ [] (plainElem_int Tryz.underlying3 (WalkArith.wf_i64 (by omega))) ?_
             intro w3 hown3 hgrow3
             have HS3 := (show Hid (BgS w w3 (.slice (some ⟨b, o, none⟩) gs.length c) mb (mb + 1) (gs.take (k + 1)) (.slice A3 k c3) (px.take k)) from HPut.out w3 hgrow3 hown3)
             clear hown3 hgrow3 HPut HOm hkey k0 k1 y0 HE2
             obtain ⟨w4, hw4⟩ : ∃ w4, w4 = w3.alloc (.cells #[.bool false, .bool false, .int .i64 (-1), .int .i64 0] 74) := ⟨_, rfl⟩
             have HE4 := (show Hid (w3.alloc (.cells #[.bool false, .bool false, .int .i64 (-1), .int .i64 0] 74) = w4) from hw4.symm)
             have HX4 := (show Hid (EX w4 w3.heap.size ⟨false, false, -1, 0⟩) from by rw [hw4]; exact EX.new w3 ⟨false, false, -1, 0⟩)
             have HS4 := (show Hid (BgS w w4 (.slice (some ⟨b, o, none⟩) gs.length c) mb (mb + 1) (gs.take (k + 1)) (.slice A3 k c3) (px.take k)) from HS3.out.later (by rw [hw4]; exact below_box _ _))
             have a0 : w4.cell? ⟨gA, k, none⟩ = some (.bool false) := HB.out.later HS4.out.b k _ HAg.out
             have v0 : w4.cell? ⟨w3.heap.size, 0, none⟩ = some (.bool false) := HX4.out.eb.c0
             have v1 : w4.cell? ⟨w3.heap.size, 1, none⟩ = some (.bool false) := HX4.out.eb.c1
             have v2 : w4.cell? ⟨w3.heap.size, 2, none⟩ = some (.int .i64 (-1)) := HX4.out.eb.c2
             have v3 : w4.cell? ⟨w3.heap.size, 3, none⟩ = some (.int .i64 0) := HX4.out.eb.c3
             have f3 := HX4.out.fz 3
             have n1 := HS4.out.k.c1
             clear hw4
             )
          | (at_builtin
             refine wpList_appE w4.heap.size rfl rfl _ _ rfl (w.heap.size + 4) k _ (px.take k) rfl rfl (HOw.out _ HS4.out).1 (by omega) (HOw.out _ HS4.out).2 ?_
             intro g6 cap6 w6 ho6 hg6 hat6 hl6
             have HF6 := (show Hid _ from HPu.out w4 w6 g6 cap6 HS4.out ho6 hg6)
             have m1 := HF6.out.1.c1
             have mf := HF6.out.1.fz 1
             clear ho6 hg6 hat6 hl6 HPu HOw v0 v1 v2 v3 f3 a0 n1))
        go_roundw
        case rel => exact ⟨k + 1, some ⟨g6, 0, none⟩, cap6, by omega, by go_num, HF6.out.2⟩
        case measure => simp [intOf]; omega
      | true =>
        have HXe := (show Hid (px.take (k + 1) = px.take k ++ [⟨false, false, -1, -1⟩] ∧ (px.take k).length = k) from ⟨by rw [List.take_add_one, HXk.out]; rfl, HLp.out⟩)
        have HPu := (show Hid (∀ (W w6 : World) (g6 cap6 : Nat), BgS w W (.slice (some ⟨b, o, none⟩) gs.length c) mb (mb + 1) (gs.take (k + 1)) (.slice A3 k c3) (px.take k) → w6.ownsRow (w.heap.size + 4) 74 4 (.slice (some ⟨g6, 0, none⟩) (k + 1) cap6) (k + 1) (emc (px.take k ++ [⟨false, false, -1, -1⟩])) → W.grownBy w6 (Value.slice A3 k c3).ownBlock → KX w6 (mb + 1) (.map (some mb)) (.slice A3 k c3) ∧ BgS w (w6.setCell ⟨mb + 1, 1, none⟩ (.slice (some ⟨g6, 0, none⟩) (k + 1) cap6)) (.slice (some ⟨b, o, none⟩) gs.length c) mb (mb + 1) (gs.take (k + 1)) (.slice (some ⟨g6, 0, none⟩) (k + 1) cap6) (px.take (k + 1))) from fun W w6 g6 cap6 h1 h2 h3 => by
          refine ⟨h1.grown h3, ?_⟩
          have h := h1.push (e := ⟨false, false, -1, -1⟩) (v' := .slice (some ⟨g6, 0, none⟩) (k + 1) cap6) (w6 := w6) (by rw [HXe.out.2]; exact h2) h3
          rw [HXe.out.1]
          exact h)
        have HOw := (show Hid (∀ W, BgS w W (.slice (some ⟨b, o, none⟩) gs.length c) mb (mb + 1) (gs.take (k + 1)) (.slice A3 k c3) (px.take k) → W.ownsRow (w.heap.size + 4) 74 4 (.slice A3 k c3) k (emc (px.take k)) ∧ w.heap.size + 4 ≤ W.heap.size) from fun W h => ⟨by have h2 := h.o; rw [HXe.out.2] at h2; exact h2, by have h2 := h.k.lt; have e1 := h.e1; omega⟩)
        clear HXe HLp HXk
        go_wp2_with (first
          | rw [HE2.out]
          | rw [HE4.out]
          | rw [HE5.out]
          | (at_mapUpdate
             refine wpList_mapUpdate_own _ rfl _ _ _ 52 rfl 9 3 keyed Tryz.underlying52 _ mb k D rfl HOm.out (by unfold maxLen; omega) _ _ (.string g.1.data.toList) rfl rfl hkey _ [] (plainElem_int Tryz.underlying3 (WalkArith.wf_i64 (by omega))) ?_
             intro w3 hown3 hgrow3
             have HS3 := (show Hid (BgS w w3 (.slice (some ⟨b, o, none⟩) gs.length c) mb (mb + 1) (gs.take (k + 1)) (.slice A3 k c3) (px.take k)) from HPut.out w3 hgrow3 hown3)
             clear hown3 hgrow3 HPut HOm hkey k0 k1 y0 HE2
             obtain ⟨w4, hw4⟩ : ∃ w4, w4 = w3.alloc (.cells #[.bool false, .bool false, .int .i64 (-1), .int .i64 0] 74) := ⟨_, rfl⟩
             have HE4 := (show Hid (w3.alloc (.cells #[.bool false, .bool false, .int .i64 (-1), .int .i64 0] 74) = w4) from hw4.symm)
             have HX4 := (show Hid (EX w4 w3.heap.size ⟨false, false, -1, 0⟩) from by rw [hw4]; exact EX.new w3 ⟨false, false, -1, 0⟩)
             have HS4 := (show Hid (BgS w w4 (.slice (some ⟨b, o, none⟩) gs.length c) mb (mb + 1) (gs.take (k + 1)) (.slice A3 k c3) (px.take k)) from HS3.out.later (by rw [hw4]; exact below_box _ _))
             have a0 : w4.cell? ⟨gA, k, none⟩ = some (.bool true) := HB.out.later HS4.out.b k _ HAg.out
             have v0 : w4.cell? ⟨w3.heap.size, 0, none⟩ = some (.bool false) := HX4.out.eb.c0
             have v1 : w4.cell? ⟨w3.heap.size, 1, none⟩ = some (.bool false) := HX4.out.eb.c1
             have v2 : w4.cell? ⟨w3.heap.size, 2, none⟩ = some (.int .i64 (-1)) := HX4.out.eb.c2
             have v3 : w4.cell? ⟨w3.heap.size, 3, none⟩ = some (.int .i64 0) := HX4.out.eb.c3
             have f3 := HX4.out.fz 3
             have n1 := HS4.out.k.c1
             clear hw4
             obtain ⟨w5, hw5⟩ : ∃ w5, w5 = w4.setCell ⟨w3.heap.size, 3, none⟩ (.int .i64 (-1)) := ⟨_, rfl⟩
             have HE5 := (show Hid (w4.setCell ⟨w3.heap.size, 3, none⟩ (.int .i64 (-1)) = w5) from hw5.symm)
             have HX5 := (show Hid (EX w5 w3.heap.size ⟨false, false, -1, -1⟩) from by rw [hw5]; exact HX4.out.set3 (-1))
             have HS5 := (show Hid (BgS w w5 (.slice (some ⟨b, o, none⟩) gs.length c) mb (mb + 1) (gs.take (k + 1)) (.slice A3 k c3) (px.take k)) from by rw [hw5]; exact HS4.out.other HS3.out _ _)
             have u0 : w5.cell? ⟨w3.heap.size, 0, none⟩ = some (.bool false) := HX5.out.eb.c0
             have u1 : w5.cell? ⟨w3.heap.size, 1, none⟩ = some (.bool false) := HX5.out.eb.c1
             have u2 : w5.cell? ⟨w3.heap.size, 2, none⟩ = some (.int .i64 (-1)) := HX5.out.eb.c2
             have u3 : w5.cell? ⟨w3.heap.size, 3, none⟩ = some (.int .i64 (-1)) := HX5.out.eb.c3
             have n5 := HS5.out.k.c1
             clear hw5
             )
          | (at_builtin
             refine wpList_appE w5.heap.size rfl rfl _ _ rfl (w.heap.size + 4) k _ (px.take k) rfl rfl (HOw.out _ HS5.out).1 (by omega) (HOw.out _ HS5.out).2 ?_
             intro g6 cap6 w6 ho6 hg6 hat6 hl6
             have HF6 := (show Hid _ from HPu.out w5 w6 g6 cap6 HS5.out ho6 hg6)
             have m1 := HF6.out.1.c1
             have mf := HF6.out.1.fz 1
             clear ho6 hg6 hat6 hl6 HPu HOw v0 v1 v2 v3 f3 a0 n1))
        go_roundw
        case rel => exact ⟨k + 1, some ⟨g6, 0, none⟩, cap6, by omega, by go_num, HF6.out.2⟩
        case measure => simp [intOf]; omega
    · obtain rfl : k = gs.length := by omega
      have HF := (show Hid (BgS w wr (.slice A gs.length c) mb (mb + 1) gs (.slice A3 gs.length c3) px) from by
        have h := HW.out
        rw [List.take_length, ← HX.out, List.take_length, HX.out] at h
        exact h)
      have k0 := HF.out.k.c0
      have k1 := HF.out.k.c1
      have r0 := HF.out.r.c0
      have r1 := HF.out.r.c1
      have f0 := HF.out.r.fz 0
      have f1 := HF.out.r.fz 1
      have HZ := (show Hid (∀ W, W = (wr.setCell ⟨w.heap.size + 1, 0, none⟩ (.map (some mb))).setCell ⟨w.heap.size + 1, 1, none⟩ (.slice A3 gs.length c3) → KX W (w.heap.size + 1) (.map (some mb)) (.slice A3 gs.length c3) ∧ w.heap.size ≤ mb ∧ NmM W mb gs ∧ W.ownsRow w.heap.size 74 4 (.slice A3 gs.length c3) gs.length (emc px) ∧ Below w.heap.size w W) from fun W hW => by
        have h := HF.out
        have e1 := h.e1
        have key : ∀ j, j ≠ w.heap.size + 1 → W.heap[j]? = wr.heap[j]? := fun j hj => by rw [hW]; exact (heap_setCell_other _ _ _ _ hj).trans (heap_setCell_other _ _ _ _ hj)
        refine ⟨by rw [hW]; exact (h.r.set0 _).set1 _, by omega, h.m.same (key _ (by omega)), ?_, by rw [hW]; exact (h.b.setCell (p := ⟨w.heap.size + 1, 0, none⟩) (by show w.heap.size ≤ w.heap.size + 1; omega) _).setCell (p := ⟨w.heap.size + 1, 1, none⟩) (by show w.heap.size ≤ w.heap.size + 1; omega) _⟩
        have ho := own_same (W' := W) h.o fun q hq => key q (by have := (h.o.lt q hq).1; omega)
        rw [HX.out] at ho
        exact T.own_base ho (by omega))
      clear HW HGt HP HB HF
      go_wp2_with fail
      have HQ := (show Hid _ from HZ.out _ rfl)
      refine ret_kx (s := 4) (k := w.heap.size + 1) (by rfl) (by rfl) (by rfl) HQ.out.1 ?_
      exact ⟨⟨mb, _, rfl, HQ.out.2.1, HQ.out.2.2.1, HQ.out.2.2.2.1⟩, HQ.out.2.2.2.2⟩
end Go.Proofs.YtbnihflihelimaaGreat.N

namespace Go.Proofs.YtbnihflihelimaaGreat.N
open Go.RowKit Go.Maps
open Go.Proofs.YtbnihflihelimaaGreat.T

open U (own_get)
/-- What is known in the end. -/
def KnF (gs : GL) (now : List Em) : Prop := ∃ (R : Mx) (bd : Nat → Bool) (m : Nat), IsR gs.length (cG gs) R ∧ (∀ i, bd i = !(R i i)) ∧ now = pgE gs kdR bd m ∧ pgE gs kdR bd (m + 1) = pgE gs kdR bd m
theorem gk_R {gs : GL} (hR : RtG gs) : GK gs kdR := ⟨hR, fun g hg => kds_R (rt_of (hR.ck g hg))⟩
theorem bd_R {gs : GL} {l : List Bool} (hz : (ckG gs).2 = 0) (h : AgR gs l) : ∃ R, IsR gs.length (cG gs) R ∧ ∀ i, bdA l i = !(R i i) := by
  classical
  obtain ⟨h1, h2⟩ := h.1 hz
  refine ⟨fun i j => decide (i < gs.length ∧ Rc gs.length (cG gs) i j), ?_, fun i => ?_⟩
  · exact ⟨fun i j => cG_lt, fun i j hi hj => ⟨fun q => (of_decide_eq_true q).2, fun q => decide_eq_true ⟨hi, q⟩⟩⟩
  · unfold bdA
    have h3 := h2 i
    show _ = !decide (i < gs.length ∧ Rc gs.length (cG gs) i i)
    by_cases q : i < gs.length ∧ Rc gs.length (cG gs) i i
    · rw [h3.2 q, decide_eq_true q]; rfl
    · rw [decide_eq_false q]
      cases e : l[i]? with
      | none => rfl
      | some b =>
        cases b with
        | false => rfl
        | true => exact absurd (h3.1 e) q
structure KoS (w wr : World) (u : Value) (kb mb gA : Nat) (gs : GL) (ag : List Bool) (Ar : Option Addr) (cr : Nat) (now : List Em) : Prop where
  b : Below w.heap.size w wr
  g : GX wr w.heap.size u
  r : KX wr (w.heap.size + 1) (.map none) (.slice none 0 0)
  k : KX wr kb (.map (some mb)) (.slice Ar gs.length cr)
  m : NmM wr mb gs
  a : RdB wr gA ag
  l : now.length = gs.length
  o : wr.ownsRow (w.heap.size + 2) 74 4 (.slice Ar gs.length cr) gs.length (emc now)
  e1 : w.heap.size + 2 ≤ mb
  e2 : mb < kb
  e3 : gA < kb
theorem KoS.later {w wr w2 : World} {u : Value} {kb mb gA : Nat} {gs : GL} {ag : List Bool} {Ar : Option Addr} {cr : Nat} {now : List Em} (h : KoS w wr u kb mb gA gs ag Ar cr now) (hb : Below wr.heap.size wr w2) : KoS w w2 u kb mb gA gs ag Ar cr now :=
  ⟨h.b.trans (hb.mono h.b.size), h.g.below hb, h.r.below hb, h.k.below hb, h.m.later hb, h.a.later hb, h.l, T.own_below h.o hb, h.e1, h.e2, h.e3⟩
theorem own_rd {W : World} {B n cr : Nat} {Ar : Option Addr} {l : List Em} (h : W.ownsRow B 74 4 (.slice Ar n cr) n (emc l)) (hl : l.length = n) : RdE W Ar l := by
  subst hl
  obtain ⟨A, c, e, h2⟩ := own_re h
  injection e with e1 _ _
  rw [e1]; exact h2
theorem own_fm {W : World} {B n : Nat} {v : Value} {xs : List Value} (h : W.ownsRow B 74 4 v n xs) : ∃ A c, v = .slice A n c := by
  rcases h.2 with ⟨rfl, rfl⟩ | ⟨g, cap, cur, rfl, _⟩
  · exact ⟨_, _, rfl⟩
  · exact ⟨_, _, rfl⟩
theorem KoS.kn {w wr : World} {u : Value} {kb mb gA : Nat} {gs : GL} {ag : List Bool} {Ar : Option Addr} {cr : Nat} {now : List Em} (h : KoS w wr u kb mb gA gs ag Ar cr now) : KnI wr gs mb Ar now := ⟨h.m, own_rd h.o h.l, h.l⟩
/-- The next ones take the place. -/
theorem KoS.next {w wr w2 : World} {u : Value} {kb mb gA : Nat} {gs : GL} {ag : List Bool} {Ar An : Option Addr} {cr cn : Nat} {now nx : List Em} (h : KoS w wr u kb mb gA gs ag Ar cr now) (hb : Below wr.heap.size wr w2) (ho : w2.ownsRow (wr.heap.size + 2) 74 4 (.slice An gs.length cn) gs.length (emc nx)) (hl : nx.length = gs.length) : KoS w (w2.setCell ⟨kb, 1, none⟩ (.slice An gs.length cn)) u kb mb gA gs ag An cn nx := by
  have h2 := h.later hb
  have e1 := h.e1
  have e2 := h.e2
  have e3 := h.e3
  have hkb := h.k.lt
  have hsz := h.b.size
  have key : ∀ j, j ≠ kb → (w2.setCell ⟨kb, 1, none⟩ (.slice An gs.length cn)).heap[j]? = w2.heap[j]? := fun j hj => heap_setCell_other _ _ _ _ hj
  refine ⟨h2.b.setCell (p := ⟨kb, 1, none⟩) (by show w.heap.size ≤ kb; omega) _, h2.g.same (key _ (by omega)), h2.r.same (key _ (by omega)), h2.k.set1 _, h2.m.same (key _ (by omega)), fun j b hj => ?_, hl, T.own_base (own_same ho fun q hq => key q (by have := (ho.lt q hq).1; omega)) (by omega), e1, e2, e3⟩
  rw [World.cell?_of_block (a := ⟨gA, j, none⟩) (key gA (by omega))]
  exact h2.a j b hj
/-- What is told. -/
theorem KoS.told {w wr : World} {u : Value} {kb mb gA : Nat} {gs : GL} {ag : List Bool} {Ar : Option Addr} {cr : Nat} {now : List Em} (h : KoS w wr u kb mb gA gs ag Ar cr now) (W : World) (hW : W = (wr.setCell ⟨w.heap.size + 1, 0, none⟩ (.map (some mb))).setCell ⟨w.heap.size + 1, 1, none⟩ (.slice Ar gs.length cr)) : KX W (w.heap.size + 1) (.map (some mb)) (.slice Ar gs.length cr) ∧ w.heap.size ≤ mb ∧ NmM W mb gs ∧ W.ownsRow w.heap.size 74 4 (.slice Ar gs.length cr) gs.length (emc now) ∧ Below w.heap.size w W := by
  have e1 := h.e1
  have key : ∀ j, j ≠ w.heap.size + 1 → W.heap[j]? = wr.heap[j]? := fun j hj => by rw [hW]; exact (heap_setCell_other _ _ _ _ hj).trans (heap_setCell_other _ _ _ _ hj)
  refine ⟨by rw [hW]; exact (h.r.set0 _).set1 _, by omega, h.m.same (key _ (by omega)), T.own_base (own_same h.o fun q hq => key q (by have := (h.o.lt q hq).1; omega)) (by omega), ?_⟩
  rw [hW]
  exact (h.b.setCell (p := ⟨w.heap.size + 1, 0, none⟩) (by show w.heap.size ≤ w.heap.size + 1; omega) _).setCell (p := ⟨w.heap.size + 1, 1, none⟩) (by show w.heap.size ≤ w.heap.size + 1; omega) _
theorem below_dn {w : World} (m : Nat) : Below w.heap.size w (w.drewN m) := below_drewN (Below.refl _ _) _
set_option maxRecDepth 100000 in
set_option maxHeartbeats 16000000 in
/-- What is known of all rules. -/
theorem knownOf_any (gs : GL) (A : Option Addr) (c : Nat) (w : World) (hp : GI w A gs) :
    Calls Tryz.prog 73 #[.agg #[.slice A gs.length c]] w fun e w' => (∃ m v, e = .returned (.tuple #[.agg #[m, v], .int .i64 (ckG gs).2]) ∧ ((ckG gs).2 ≠ 0 → m = .map none ∧ v = .slice none 0 0) ∧ ((ckG gs).2 = 0 → ∃ mb Ar cr now, m = .map (some mb) ∧ v = .slice Ar gs.length cr ∧ w.heap.size ≤ mb ∧ NmM w' mb gs ∧ KnF gs now ∧ now.length = gs.length ∧ OkN gs now ∧ w'.ownsRow w.heap.size 74 4 (.slice Ar gs.length cr) gs.length (emc now))) ∧ Below w.heap.size w w' := by
  obtain ⟨w1, hw1⟩ : ∃ w1, w1 = (w.alloc (.cells #[.slice A gs.length c] 24)).alloc (.cells #[.map none, .slice none 0 0] 129) := ⟨_, rfl⟩
  have HE1 := (show Hid ((w.alloc (.cells #[.slice A gs.length c] 24)).alloc (.cells #[.map none, .slice none 0 0] 129) = w1) from hw1.symm)
  have HS1 := (show Hid (Below w.heap.size w w1 ∧ GX w1 w.heap.size (.slice A gs.length c) ∧ KX w1 (w.heap.size + 1) (.map none) (.slice none 0 0) ∧ w1.heap.size = w.heap.size + 2) from by
    have s1 := World.size_alloc w (.cells #[.slice A gs.length c] 24)
    refine ⟨by rw [hw1]; exact ((Below.refl _ _).alloc (Nat.le_refl _) _).alloc (by omega) _, by rw [hw1]; exact (GX.mk (heap_alloc_new w _)).below (below_box _ _), ?_, by rw [hw1, World.size_alloc, s1]⟩
    have h := KX.new (w.alloc (.cells #[.slice A gs.length c] 24)) (.map none) (.slice none 0 0)
    rw [s1, ← hw1] at h; exact h)
  have HN := (show Hid (Calls Tryz.prog 89 #[.agg #[.slice A gs.length c]] w1 fun e w' => (∃ v l, e = .returned (.tuple #[v, .int .i64 (ckG gs).2]) ∧ AgR gs l ∧ w'.ownsRow w1.heap.size 4 1 v l.length (l.map Value.bool)) ∧ Below w1.heap.size w1 w') from againP_any gs A c w1 (hp.later HS1.out.1))
  have HP := (show Hid (GI w A gs) from hp)
  have q1 := HS1.out.2.1.cl
  clear hw1 hp
  go_enter Tryz.func73, Tryz.ntmps73
  go_wp2_with (rw [HE1.out])
  refine HN.out.mono ?_
  rintro e w2 ⟨⟨v, l, rfl, hag, hov⟩, b2⟩
  have HS2 := (show Hid (Below w.heap.size w w2 ∧ GX w2 w.heap.size (.slice A gs.length c) ∧ KX w2 (w.heap.size + 1) (.map none) (.slice none 0 0) ∧ w.heap.size + 2 ≤ w2.heap.size) from ⟨HS1.out.1.trans (b2.mono HS1.out.1.size), HS1.out.2.1.below b2, HS1.out.2.2.1.below b2, by have := b2.size; have := HS1.out.2.2.2; omega⟩)
  have q2 := HS2.out.2.1.cl
  clear HN HE1 q1 b2
  by_cases hz : (ckG gs).2 = 0
  · have hR := ckG_ok.1 hz
    have hn1 := hR.n1
    have hn200 := hR.n2
    obtain ⟨hl, hag2⟩ := hag.1 hz
    obtain ⟨R, hIs, hbd⟩ := bd_R hz hag
    obtain ⟨gA, ca, rfl, gl1, gl2, gx1, gx2⟩ := own_get hov (j := 0) (x := .bool l[0]) (by rw [List.getElem?_map, List.getElem?_eq_getElem (by omega)]; rfl)
    have hrb : RdB w2 gA l := fun j b hj => by
      obtain ⟨g', c', e, _, _, x, _⟩ := own_get hov (j := j) (x := .bool b) (by rw [List.getElem?_map, hj]; rfl)
      injection e with e1 _ _
      obtain ⟨rfl, _⟩ := Addr.mk.inj (Option.some.inj e1)
      exact x
    clear gx1 gx2
    rw [hl]
    have HBg := (show Hid (Calls Tryz.prog 90 #[.agg #[.slice A gs.length c], .slice (some ⟨gA, 0, none⟩) gs.length ca] w2 fun e w' => (∃ mb v, e = .returned (.agg #[.map (some mb), v]) ∧ w2.heap.size ≤ mb ∧ NmM w' mb gs ∧ w'.ownsRow w2.heap.size 74 4 v gs.length (emc (pgS gs (bdA l)))) ∧ Below w2.heap.size w2 w') from begun_any hR hl gA A c ca w2 (HP.out.later HS2.out.1) hrb)
    have HRB := (show Hid (RdB w2 gA l ∧ gA < w2.heap.size) from ⟨hrb, gl2⟩)
    have HR := (show Hid (RtG gs ∧ l.length = gs.length ∧ IsR gs.length (cG gs) R ∧ (∀ i, bdA l i = !(R i i)) ∧ (ckG gs).2 = 0) from ⟨hR, hl, hIs, hbd, hz⟩)
    have tz : ((ckG gs).2 != 0) = false := by rw [hz]; rfl
    clear hag hag2 hIs hbd hrb hov gl1 gl2 hR hl hz
    generalize hcd : (ckG gs).2 = cd at *
    have HCD := (show Hid ((ckG gs).2 = cd) from hcd)
    clear hcd
    go_wp2_with fail
    refine HBg.out.mono ?_
    rintro e w3 ⟨⟨mb, v2, rfl, hmb, hm3, ho3⟩, b3⟩
    obtain ⟨A3, c3, rfl⟩ := own_fm ho3
    obtain ⟨kb, hkb⟩ : ∃ kb, kb = w3.heap.size := ⟨_, rfl⟩
    have HKb := (show Hid (w3.heap.size = kb) from hkb.symm)
    obtain ⟨w4, hw4⟩ : ∃ w4, w4 = w3.alloc (.cells #[.map (some mb), .slice A3 gs.length c3] 129) := ⟨_, rfl⟩
    have HE4 := (show Hid (w3.alloc (.cells #[.map (some mb), .slice A3 gs.length c3] 129) = w4) from hw4.symm)
    have HS := (show Hid (KoS w w4 (.slice A gs.length c) kb mb gA gs l A3 c3 (pgE gs kdR (bdA l) 0)) from by
      have hb4 : Below w3.heap.size w3 w4 := by rw [hw4]; exact below_box _ _
      have hb24 : Below w2.heap.size w2 w4 := b3.trans (hb4.mono b3.size)
      have s2 := HS2.out.2.2.2
      have hk4 : KX w4 kb (.map (some mb)) (.slice A3 gs.length c3) := by rw [hw4, hkb]; exact KX.new w3 _ _
      refine ⟨HS2.out.1.trans (hb24.mono HS2.out.1.size), HS2.out.2.1.below hb24, HS2.out.2.2.1.below hb24, hk4, hm3.later hb4, HRB.out.1.later hb24, pgS_len _ _, T.own_base (T.own_below ho3 hb4) s2, by omega, by rw [hkb]; exact hm3.lt, by rw [hkb]; exact Nat.lt_of_lt_of_le HRB.out.2 b3.size⟩)
    clear hw4 hkb hmb hm3 ho3 b3 HBg HRB HS2 HS1 q2
    go_wp2_with (rw [HE4.out, HKb.out])
    clear HE4 HKb
    go_loopg [7] (pgM gs kdR (bdA l) 0) (fun gk u wr => ∃ (m : Nat) (Ar : Option Addr) (cr : Nat), Hid (pgM gs kdR (bdA l) m = gk) ∧ Hid (KoS w wr (.slice A gs.length c) kb mb gA gs l Ar cr (pgE gs kdR (bdA l) m)))
    case atStart => exact ⟨0, A3, c3, rfl, HS⟩
    case round =>
      obtain ⟨m, Ar, cr, HM, HW⟩ := hrel
      clear HS
      have HRd := (show Hid (Calls Tryz.prog 91 #[.agg #[.map (some mb), .slice Ar gs.length cr], .agg #[.slice A gs.length c], .slice (some ⟨gA, 0, none⟩) gs.length ca] wr fun e w' => (∃ v, e = .returned v ∧ w'.ownsRow (wr.heap.size + 2) 74 4 v gs.length (emc (pgE gs kdR (bdA l) (m + 1)))) ∧ Below wr.heap.size wr w') from by
        have t := round_any HR.out.1 (pgE_ok (gk_R HR.out.1) (bdA l) m) HR.out.2.1 mb gA Ar A cr c ca wr HW.out.kn (HP.out.later HW.out.b) HW.out.a
        rw [HW.out.l] at t
        exact t)
      have k0 := HW.out.k.c0
      have k1 := HW.out.k.c1
      have q0 := HW.out.g.cl
      go_wp2_with fail
      refine HRd.out.mono ?_
      rintro e w5 ⟨⟨v5, rfl, ho5⟩, b5⟩
      obtain ⟨An, cn, rfl⟩ := own_fm ho5
      have HW5 := (show Hid (KoS w w5 (.slice A gs.length c) kb mb gA gs l Ar cr (pgE gs kdR (bdA l) m)) from HW.out.later b5)
      have HL5 := (show Hid ((pgE gs kdR (bdA l) (m + 1)).length = gs.length) from rdE_len)
      have HO5 := (show Hid (w5.ownsRow (wr.heap.size + 2) 74 4 (.slice An gs.length cn) gs.length (emc (pgE gs kdR (bdA l) (m + 1)))) from ho5)
      have HB5 := (show Hid (Below wr.heap.size wr w5) from b5)
      have HQ := (show Hid (Calls Tryz.prog 92 #[.slice An gs.length cn, .slice Ar gs.length cr] w5 fun e w' => (∃ b, e = .returned (.bool b) ∧ (b = true ↔ pgE gs kdR (bdA l) (m + 1) = pgE gs kdR (bdA l) m)) ∧ ∃ j, w' = w5.drewN j) from by
        have t := equalE_any (pgE gs kdR (bdA l) (m + 1)) (pgE gs kdR (bdA l) m) An Ar cn cr (by rw [HL5.out]; omega) (by rw [HL5.out]; exact HW5.out.l) w5 (own_rd ho5 HL5.out) (own_rd HW5.out.o HW5.out.l)
        rw [HL5.out, HW5.out.l] at t
        exact t)
      have k5 := HW5.out.k.c1
      clear HRd ho5 b5 k0 k1 q0
      go_wp2_with fail
      refine HQ.out.mono ?_
      rintro e w6 ⟨⟨bb, rfl, hbb⟩, j6, hw6⟩
      have b6 : Below w5.heap.size w5 w6 := by rw [hw6]; exact below_dn _
      have HW6 := (show Hid (KoS w w6 (.slice A gs.length c) kb mb gA gs l Ar cr (pgE gs kdR (bdA l) m)) from HW5.out.later b6)
      have HNx := (show Hid (KoS w (w6.setCell ⟨kb, 1, none⟩ (.slice An gs.length cn)) (.slice A gs.length c) kb mb gA gs l An cn (pgE gs kdR (bdA l) (m + 1))) from HW.out.next (HB5.out.trans (b6.mono HB5.out.size)) (T.own_below HO5.out b6) HL5.out)
      clear hw6 b6 HQ k5 HO5 HB5 HW5
      cases bb with
      | true =>
        have HFx := (show Hid (KnF gs (pgE gs kdR (bdA l) m)) from ⟨R, bdA l, m, HR.out.2.2.1, HR.out.2.2.2.1, rfl, hbb.1 rfl⟩)
        have HLn := (show Hid ((pgE gs kdR (bdA l) m).length = gs.length) from HW6.out.l)
        have HOk := (show Hid (OkN gs (pgE gs kdR (bdA l) m)) from pgE_ok (gk_R HR.out.1) (bdA l) m)
        have HT := (show Hid _ from HW6.out.told)
        have k0 := HW6.out.k.c0
        have k1 := HW6.out.k.c1
        have r0 := HW6.out.r.c0
        have r1 := HW6.out.r.c1
        have f0 := HW6.out.r.fz 0
        have f1 := HW6.out.r.fz 1
        clear hbb HW6 HNx HW HM HL5
        go_wp2_with fail
        have HZ := (show Hid _ from HT.out _ rfl)
        refine ret_kx2 (s := 2) (t := 3) (k := w.heap.size + 1) (x := .int .i64 0) (by rfl) (by rfl) (by rfl) (by rfl) HZ.out.1 ?_
        refine ⟨⟨_, _, by rw [HCD.out, HR.out.2.2.2.2], fun q => absurd (HCD.out.trans HR.out.2.2.2.2) q, fun _ => ⟨mb, Ar, cr, _, rfl, rfl, HZ.out.2.1, HZ.out.2.2.1, HFx.out, HLn.out, HOk.out, HZ.out.2.2.2.1⟩⟩, HZ.out.2.2.2.2⟩
      | false =>
        have HLs := (show Hid (pgM gs kdR (bdA l) (m + 1) < pgM gs kdR (bdA l) m) from pgM_less (gk_R HR.out.1) HR.out.2.2.1 HR.out.2.2.2.1 (fun e => by have := hbb.2 e; cases this))
        have f1 := HW6.out.k.fz 1
        have k1 := HW6.out.k.c1
        clear hbb HW6 HW HL5
        go_wp2_with fail
        go_roundg (pgM gs kdR (bdA l) (m + 1))
        case measure => have := HM.out; have := HLs.out; omega
        case rel => exact ⟨m + 1, An, cn, rfl, HNx⟩
  · have tz : ((ckG gs).2 != 0) = true := by rw [bne, beq_eq_false_iff_ne.2 hz]; rfl
    have HZ := (show Hid ((ckG gs).2 ≠ 0) from hz)
    have r0 := HS2.out.2.2.1.c0
    have r1 := HS2.out.2.2.1.c1
    have f0 := HS2.out.2.2.1.fz 0
    have f1 := HS2.out.2.2.1.fz 1
    have HT := (show Hid (∀ W, W = (w2.setCell ⟨w.heap.size + 1, 0, none⟩ (.map none)).setCell ⟨w.heap.size + 1, 1, none⟩ (.slice none 0 0) → KX W (w.heap.size + 1) (.map none) (.slice none 0 0) ∧ Below w.heap.size w W) from fun W hW => by
      rw [hW]
      exact ⟨(HS2.out.2.2.1.set0 _).set1 _, (HS2.out.1.setCell (p := ⟨w.heap.size + 1, 0, none⟩) (by show w.heap.size ≤ w.heap.size + 1; omega) _).setCell (p := ⟨w.heap.size + 1, 1, none⟩) (by show w.heap.size ≤ w.heap.size + 1; omega) _⟩)
    clear hag hov hz HS1 HS2 HP q2
    generalize hcd : (ckG gs).2 = cd at *
    have HCD := (show Hid ((ckG gs).2 = cd) from hcd)
    clear hcd
    go_wp2_with fail
    have HQ := (show Hid _ from HT.out _ rfl)
    refine ret_kx2 (s := 2) (t := 3) (k := w.heap.size + 1) (x := .int .i64 cd) (by rfl) (by rfl) (by rfl) (by rfl) HQ.out.1 ?_
    exact ⟨⟨_, _, by rw [HCD.out], fun _ => ⟨rfl, rfl⟩, fun q => absurd (HCD.out.symm.trans q) HZ.out⟩, HQ.out.2⟩
end Go.Proofs.YtbnihflihelimaaGreat.N

namespace Go.Proofs.YtbnihflihelimaaGreat.N
open Go.RowKit Go.Maps
open Go.Proofs.YtbnihflihelimaaGreat.T
/-- What Rules answers. -/
def RuR (gs : GL) (now : List Em) : Prop := ((ckG gs).2 = 0 → KnF gs now ∧ now.length = gs.length ∧ OkN gs now) ∧ ((ckG gs).2 ≠ 0 → now = [])
set_option maxRecDepth 100000 in
set_option maxHeartbeats 8000000 in
theorem rulesP_any (gs : GL) (A : Option Addr) (c : Nat) (w : World) (hp : GI w A gs) :
    Calls Tryz.prog 52 #[.agg #[.slice A gs.length c]] w fun e w' => (∃ v now, e = .returned (.tuple #[v, .int .i64 (ckG gs).2]) ∧ RuR gs now ∧ w'.ownsRow w.heap.size 74 4 v now.length (emc now)) ∧ Below w.heap.size w w' := by
  obtain ⟨w1, hw1⟩ : ∃ w1, w1 = w.alloc (.cells #[.slice A gs.length c] 24) := ⟨_, rfl⟩
  have HE1 := (show Hid (w.alloc (.cells #[.slice A gs.length c] 24) = w1) from hw1.symm)
  have HB1 := (show Hid (Below w.heap.size w w1) from by rw [hw1]; exact below_box _ _)
  have HG1 := (show Hid (GX w1 w.heap.size (.slice A gs.length c)) from by rw [hw1]; exact GX.mk (heap_alloc_new w _))
  have q1 := HG1.out.cl
  have HN := hid_of (knownOf_any gs A c w1 (hp.later HB1.out))
  clear hw1 hp HG1
  go_enter Tryz.func52, Tryz.ntmps52
  go_wp2_with (rw [HE1.out])
  refine Calls.mono HN.out ?_
  rintro e w2 ⟨⟨m, v, rfl, h1, h2⟩, b2⟩
  have HB2 := (show Hid (Below w.heap.size w w2) from HB1.out.trans (b2.mono HB1.out.size))
  have hs1 := HB1.out.size
  clear HN HE1 q1 b2
  by_cases hz : (ckG gs).2 = 0
  · obtain ⟨mb, Ar, cr, now, rfl, rfl, _, _, hF, hl, hok, ho⟩ := h2 hz
    have tz : ((ckG gs).2 != 0) = false := by rw [hz]; rfl
    have HO := (show Hid (w2.ownsRow w.heap.size 74 4 (.slice Ar gs.length cr) gs.length (emc now)) from T.own_base ho hs1)
    have HR := (show Hid (RuR gs now ∧ now.length = gs.length ∧ (ckG gs).2 = 0) from ⟨⟨fun _ => ⟨hF, hl, hok⟩, fun q => absurd hz q⟩, hl, hz⟩)
    clear h1 h2 ho hF hl hok hz hs1
    obtain ⟨w3, hw3⟩ : ∃ w3, w3 = w2.alloc (.cells #[.map (some mb), .slice Ar gs.length cr] 129) := ⟨_, rfl⟩
    have HE3 := (show Hid (w2.alloc (.cells #[.map (some mb), .slice Ar gs.length cr] 129) = w3) from hw3.symm)
    have k1 : w3.cell? ⟨w2.heap.size, 1, none⟩ = some (.slice Ar gs.length cr) := by rw [hw3]; exact (KX.new w2 _ _).c1
    have HB3 := (show Hid (Below w2.heap.size w2 w3) from by rw [hw3]; exact below_box _ _)
    clear hw3
    generalize hcd : (ckG gs).2 = cd at tz
    have HCD := (show Hid ((ckG gs).2 = cd) from hcd)
    clear hcd
    go_wp2_with (rw [HE3.out])
    refine bodyPost_ret (v := .tuple #[.slice Ar gs.length cr, .int .i64 0]) (by simp [results, Tryz.results52, go_sem]) rfl ⟨⟨_, now, by rw [HR.out.2.2], HR.out.1, by rw [HR.out.2.1]; exact T.own_below HO.out HB3.out⟩, HB2.out.trans (HB3.out.mono HB2.out.size)⟩
  · obtain ⟨rfl, rfl⟩ := h1 hz
    have tz : ((ckG gs).2 != 0) = true := by rw [bne, beq_eq_false_iff_ne.2 hz]; rfl
    have HR := (show Hid (RuR gs [] ∧ (ckG gs).2 ≠ 0) from ⟨⟨fun q => absurd q hz, fun _ => rfl⟩, hz⟩)
    clear h1 h2 hz hs1
    have HB3 := (show Hid (Below w2.heap.size w2 (w2.alloc (.cells #[.map none, .slice none 0 0] 129))) from below_box _ _)
    generalize hcd : (ckG gs).2 = cd at tz
    have HCD := (show Hid ((ckG gs).2 = cd) from hcd)
    clear hcd
    go_wp2_with fail
    refine bodyPost_ret (v := .tuple #[.slice none 0 0, .int .i64 cd]) (by simp [results, Tryz.results52, go_sem]) rfl ⟨⟨_, [], by rw [HCD.out], HR.out.1, World.ownsRow_nil _ _ _ _⟩, HB2.out.trans (HB3.out.mono HB2.out.size)⟩
/-- A box of a list. -/
structure LX (W : World) (b : Nat) (v : Value) : Prop where
  heap : W.heap[b]? = some (.cells #[v] 53 (0, 0))
theorem LX.lt {W : World} {b : Nat} {v : Value} (x : LX W b v) : b < W.heap.size := (Array.getElem?_eq_some_iff.1 x.heap).1
theorem LX.c0 {W : World} {b : Nat} {v : Value} (x : LX W b v) : W.cell? ⟨b, 0, none⟩ = some v := by rw [cell_of_row W b 0 _ 53 (0, 0) x.heap]; rfl
theorem LX.fz {W : World} {b : Nat} {v : Value} (x : LX W b v) : W.frozen? ⟨b, 0, none⟩ = false := frozen_of_row W b 0 _ 53 x.heap
theorem LX.same {W W' : World} {b : Nat} {v : Value} (x : LX W b v) (hb : W'.heap[b]? = W.heap[b]?) : LX W' b v := ⟨hb.trans x.heap⟩
theorem LX.below {W W' : World} {b : Nat} {v : Value} (x : LX W b v) (hb : Below W.heap.size W W') : LX W' b v := x.same (hb.block b x.lt)
theorem LX.set {W : World} {b : Nat} {v : Value} (x : LX W b v) (u : Value) : LX (W.setCell ⟨b, 0, none⟩ u) b u := ⟨by rw [heap_setCell_same W b 0 _ 53 _ x.heap]; rfl⟩
set_option maxRecDepth 100000 in
set_option maxHeartbeats 16000000 in
/-- One node, and its part put behind the others. -/
theorem part1_any {gs : GL} {now : List Em} {L : List Nd} (hpt : PtR gs now L) {k : Nat} {n : Nd} (hn : L[k]? = some n) (B : Nat) (Ar A : Option Addr) (cr c kb lb Bb : Nat) (v : Value) (l : List Em) (w : World) (hk : KnI w gs B Ar now) (hkx : KX w kb (.map (some B)) (.slice Ar now.length cr)) (hlx : LX w lb v) (hll : l.length = k) (ho : w.ownsRow Bb 74 4 v k (emc l)) (hlb : lb < Bb) (hBb : Bb ≤ w.heap.size) (hp : RdE w A (emS (EE (lkE gs now) L) ((run L k).take (arN n.op)))) :
    Calls Tryz.prog 105 #[ndG n, .slice A (arN n.op) c, .pointer (some ⟨kb, 0, none⟩), .pointer (some ⟨lb, 0, none⟩)] w fun e w' => e = .returned (emG (EE (lkE gs now) L k)) ∧ ∃ v', LX w' lb v' ∧ w'.ownsRow Bb 74 4 v' (k + 1) (emc (l ++ [EE (lkE gs now) L k])) ∧ (∀ b, v'.ownBlock = some b → v.ownBlock = some b ∨ w.heap.size ≤ b) ∧ Kp (fun b => b = lb ∨ v.ownBlock = some b) w w' := by
  have hkl : k ≤ 2048 := by have h1 := (List.getElem?_eq_some_iff.1 hn).1; have h2 := hpt.rt.len; omega
  obtain ⟨A3, c3, rfl⟩ := own_fm ho
  obtain ⟨w1, hw1⟩ : ∃ w1, w1 = (w.alloc (.cells #[.int .i64 n.op, .int .i64 n.nn, .string n.tx, .int .u64 n.s0, .int .u64 n.s1, .int .u64 n.s2, .int .u64 n.s3] 70)).alloc (.cells #[.bool false, .bool false, .int .i64 0, .int .i64 0] 74) := ⟨_, rfl⟩
  have HE1 := (show Hid ((w.alloc (.cells #[.int .i64 n.op, .int .i64 n.nn, .string n.tx, .int .u64 n.s0, .int .u64 n.s1, .int .u64 n.s2, .int .u64 n.s3] 70)).alloc (.cells #[.bool false, .bool false, .int .i64 0, .int .i64 0] 74) = w1) from hw1.symm)
  have HS1 := (show Hid (Below w.heap.size w w1 ∧ NX w1 w.heap.size n ∧ EX w1 (w.heap.size + 1) e0) from by
    have s1 := World.size_alloc w (ndO n)
    refine ⟨by rw [hw1]; exact ((Below.refl _ _).alloc (Nat.le_refl _) _).alloc (by rw [World.size_alloc]; omega) _, by rw [hw1]; exact nx_below ⟨heap_alloc_new w _⟩ (below_box _ _), ?_⟩
    have h := EX.new (w.alloc (ndO n)) e0
    rw [s1] at h
    rw [hw1]; exact h)
  have hx1 := hkx.below HS1.out.1
  have k0 := hx1.c0
  have k1 := hx1.c1
  obtain ⟨d0, d1, d2, d3, d4, d5, d6⟩ := HS1.out.2.1.nb
  simp only [Nat.zero_add] at d0 d1 d2 d3 d4 d5 d6
  obtain ⟨⟨en, ec, el, em⟩, hE⟩ : ∃ e, e = EE (lkE gs now) L k := ⟨_, rfl⟩
  have HC := (show Hid (Calls Tryz.prog 106 #[.agg #[.map (some B), .slice Ar now.length cr], ndG n, .slice A (arN n.op) c] w1 fun e w' => e = .returned (.agg #[.bool en, .bool ec, .int .i64 el, .int .i64 em]) ∧ Below w1.heap.size w1 w') from by
    have t := hpt.node hn B Ar A cr c w1 (hk.later HS1.out.1) (hp.later HS1.out.1)
    rw [← hE] at t
    exact t)
  have HLx := (show Hid (LX w lb (.slice A3 k c3)) from hlx)
  have HO := (show Hid (w.ownsRow Bb 74 4 (.slice A3 k c3) k (emc l)) from ho)
  have HBb := (show Hid (lb < Bb ∧ Bb ≤ w.heap.size) from ⟨hlb, hBb⟩)
  have hlw := hlx.lt
  rw [← hE]
  have HEE := (show Hid (⟨en, ec, el, em⟩ = EE (lkE gs now) L k) from hE)
  clear hw1 hpt hk hkx hlx ho hp hE hx1 hlb hBb hn
  go_enter Tryz.func105, Tryz.ntmps105
  go_wp2_with (rw [HE1.out])
  refine HC.out.mono ?_
  rintro e w2 ⟨rfl, b2⟩
  have HB2 := (show Hid (Below w.heap.size w w2 ∧ EX w2 (w.heap.size + 1) e0) from ⟨HS1.out.1.trans (b2.mono HS1.out.1.size), HS1.out.2.2.below b2⟩)
  clear HC HE1 k0 k1 d0 d1 d2 d3 d4 d5 d6 HS1 b2
  obtain ⟨w3, hw3⟩ : ∃ w3, w3 = w2.alloc (.cells #[.bool en, .bool ec, .int .i64 el, .int .i64 em] 74) := ⟨_, rfl⟩
  obtain ⟨kk, hkk⟩ : ∃ kk, kk = w2.heap.size := ⟨_, rfl⟩
  have HE3 := (show Hid (w2.alloc (.cells #[.bool en, .bool ec, .int .i64 el, .int .i64 em] 74) = w3) from hw3.symm)
  have HKk := (show Hid (w2.heap.size = kk) from hkk.symm)
  have hb23 : Below w2.heap.size w2 w3 := by rw [hw3]; exact below_box _ _
  have HX3 := (show Hid (EX w3 kk ⟨en, ec, el, em⟩) from by rw [hw3, hkk]; exact EX.new w2 ⟨en, ec, el, em⟩)
  have HB3 := (show Hid (Below w.heap.size w w3 ∧ EX w3 (w.heap.size + 1) e0 ∧ w.heap.size + 1 < kk) from ⟨HB2.out.1.trans (hb23.mono HB2.out.1.size), HB2.out.2.below hb23, by rw [hkk]; exact HB2.out.2.lt⟩)
  have HO3 := (show Hid (w3.ownsRow Bb 74 4 (.slice A3 k c3) k (emc l)) from T.own_below HO.out HB3.out.1)
  have HL3 := (show Hid (LX w3 lb (.slice A3 k c3)) from HLx.out.below HB3.out.1)
  have l0 := HL3.out.c0
  have x0 : w3.cell? ⟨kk, 0, none⟩ = some (.bool en) := HX3.out.eb.c0
  have x1 : w3.cell? ⟨kk, 1, none⟩ = some (.bool ec) := HX3.out.eb.c1
  have x2 : w3.cell? ⟨kk, 2, none⟩ = some (.int .i64 el) := HX3.out.eb.c2
  have x3 : w3.cell? ⟨kk, 3, none⟩ = some (.int .i64 em) := HX3.out.eb.c3
  have HPu := (show Hid (∀ (w6 : World) (g6 cap6 : Nat), w6.ownsRow Bb 74 4 (.slice (some ⟨g6, 0, none⟩) (k + 1) cap6) (k + 1) (emc (l ++ [⟨en, ec, el, em⟩])) → w3.grownBy w6 (Value.slice A3 k c3).ownBlock → ((Value.slice A3 k c3).ownBlock = some g6 ∨ g6 = w3.heap.size + 1) → LX w6 lb (.slice A3 k c3) ∧ ∀ w7, w7 = w6.setCell ⟨lb, 0, none⟩ (.slice (some ⟨g6, 0, none⟩) (k + 1) cap6) → EX w7 kk ⟨en, ec, el, em⟩ ∧ EX w7 (w.heap.size + 1) e0 ∧ (∃ v', LX (st4 w7 (w.heap.size + 1) ⟨en, ec, el, em⟩) lb v' ∧ (st4 w7 (w.heap.size + 1) ⟨en, ec, el, em⟩).ownsRow Bb 74 4 v' (k + 1) (emc (l ++ [⟨en, ec, el, em⟩])) ∧ (∀ b, v'.ownBlock = some b → (Value.slice A3 k c3).ownBlock = some b ∨ w.heap.size ≤ b) ∧ Kp (fun b => b = lb ∨ (Value.slice A3 k c3).ownBlock = some b) w (st4 w7 (w.heap.size + 1) ⟨en, ec, el, em⟩))) from fun w6 g6 cap6 h1 h2 h3 => by
    have hlow : ∀ q, (Value.slice A3 k c3).ownBlock = some q → Bb ≤ q ∧ q < w.heap.size := fun q hq => HO.out.lt q hq
    have hbb := HBb.out
    have hkk2 := HB3.out.2.2
    have hlt3 := HX3.out.lt
    have key6 : ∀ j, j < w3.heap.size → (∀ q, (Value.slice A3 k c3).ownBlock = some q → q ≠ j) → w6.heap[j]? = w3.heap[j]? := fun j hj hq => h2.block j hj (fun e => hq j e.symm rfl)
    have hL6 : LX w6 lb (.slice A3 k c3) := HL3.out.same (key6 lb HL3.out.lt (fun q hq => by have := hlow q hq; omega))
    refine ⟨hL6, fun w7 hw7 => ?_⟩
    have key7 : ∀ j, j ≠ lb → w7.heap[j]? = w6.heap[j]? := fun j hj => by rw [hw7]; exact heap_setCell_other _ _ _ _ hj
    have hX7 : EX w7 kk ⟨en, ec, el, em⟩ := HX3.out.same ((key7 kk (by omega)).trans (key6 kk hlt3 (fun q hq => by have := hlow q hq; omega)))
    have hZ7 : EX w7 (w.heap.size + 1) e0 := HB3.out.2.1.same ((key7 _ (by omega)).trans (key6 _ HB3.out.2.1.lt (fun q hq => by have := hlow q hq; omega)))
    have key8 : ∀ j, j ≠ w.heap.size + 1 → (st4 w7 (w.heap.size + 1) ⟨en, ec, el, em⟩).heap[j]? = w7.heap[j]? := fun j hj => st4_other hj _
    have hL7 : LX w7 lb (.slice (some ⟨g6, 0, none⟩) (k + 1) cap6) := by rw [hw7]; exact hL6.set _
    have ho7 : w7.ownsRow Bb 74 4 (.slice (some ⟨g6, 0, none⟩) (k + 1) cap6) (k + 1) (emc (l ++ [⟨en, ec, el, em⟩])) := by rw [hw7]; exact ownsRow_setCell_below h1 (a := ⟨lb, 0, none⟩) hbb.1 _
    have hg6 : g6 ≠ w.heap.size + 1 := by
      rcases h3 with q | q
      · have := hlow g6 q; omega
      · omega
    have hs8 : (st4 w7 (w.heap.size + 1) ⟨en, ec, el, em⟩).heap.size = w6.heap.size := by unfold st4; rw [World.size_setCell, World.size_setCell, World.size_setCell, World.size_setCell, hw7, World.size_setCell]
    refine ⟨hX7, hZ7, _, hL7.same (key8 lb (by omega)), own_same ho7 (fun q hq => key8 q (by have e : g6 = q := Option.some.inj hq; omega)), fun b hb => ?_, ⟨?_, ?_, ?_, ?_, fun b hb hnb => ?_⟩⟩
    · have e : g6 = b := Option.some.inj hb
      subst e
      rcases h3 with q | q
      · exact .inl q
      · exact .inr (by omega)
    · rw [hw7]; exact h2.os.trans HB3.out.1.os
    · rw [hw7]; exact h2.tape.trans HB3.out.1.tape
    · rw [hw7]; exact h2.output.trans HB3.out.1.output
    · rw [hs8]; exact Nat.le_trans HB3.out.1.size h2.size
    · rw [key8 b (by omega), key7 b (fun e => hnb (.inl e)), key6 b (by omega) (fun q hq e => hnb (.inr (by rw [← e]; exact hq)))]
      exact HB3.out.1.block b hb)
  have HSz := (show Hid (Bb ≤ w3.heap.size) from Nat.le_trans HBb.out.2 HB3.out.1.size)
  clear hw3 hkk hb23 HX3 HL3 HB2 HB3 HO HLx HBb
  go_wp2_with (first
    | rw [HE3.out, HKk.out]
    | rw [HE7.out]
    | (at_builtin
       refine wpList_appE w3.heap.size rfl rfl _ _ rfl Bb k _ l rfl rfl HO3.out (by omega) HSz.out ?_
       intro g6 cap6 w6 ho6 hg6 hat6 hl6
       have HF6 := (show Hid _ from HPu.out w6 g6 cap6 ho6 hg6 hat6)
       have m0 := HF6.out.1.c0
       have mf := HF6.out.1.fz
       obtain ⟨w7, hw7⟩ : ∃ w7, w7 = w6.setCell ⟨lb, 0, none⟩ (.slice (some ⟨g6, 0, none⟩) (k + 1) cap6) := ⟨_, rfl⟩
       have HE7 := (show Hid (w6.setCell ⟨lb, 0, none⟩ (.slice (some ⟨g6, 0, none⟩) (k + 1) cap6) = w7) from hw7.symm)
       have HF7 := (show Hid _ from HF6.out.2 w7 hw7)
       have y0 : w7.cell? ⟨kk, 0, none⟩ = some (.bool en) := HF7.out.1.eb.c0
       have y1 : w7.cell? ⟨kk, 1, none⟩ = some (.bool ec) := HF7.out.1.eb.c1
       have y2 : w7.cell? ⟨kk, 2, none⟩ = some (.int .i64 el) := HF7.out.1.eb.c2
       have y3 : w7.cell? ⟨kk, 3, none⟩ = some (.int .i64 em) := HF7.out.1.eb.c3
       have z0 : w7.cell? ⟨w.heap.size + 1, 0, none⟩ = some (.bool false) := HF7.out.2.1.eb.c0
       have z1 : w7.cell? ⟨w.heap.size + 1, 1, none⟩ = some (.bool false) := HF7.out.2.1.eb.c1
       have z2 : w7.cell? ⟨w.heap.size + 1, 2, none⟩ = some (.int .i64 0) := HF7.out.2.1.eb.c2
       have z3 : w7.cell? ⟨w.heap.size + 1, 3, none⟩ = some (.int .i64 0) := HF7.out.2.1.eb.c3
       have f0 := HF7.out.2.1.fz 0
       have f1 := HF7.out.2.1.fz 1
       have f2 := HF7.out.2.1.fz 2
       have f3 := HF7.out.2.1.fz 3
       clear ho6 hg6 hat6 hl6 HPu HO3 HSz hw7 HF6 x0 x1 x2 x3 l0))
  refine ret_ex (s := 6) (k := w.heap.size + 1) (by rfl) (by rfl) (by rfl) (HF7.out.2.1.all ⟨en, ec, el, em⟩) ?_
  exact ⟨rfl, HF7.out.2.2⟩
end Go.Proofs.YtbnihflihelimaaGreat.N

namespace Go.Proofs.YtbnihflihelimaaGreat.N
open Go.RowKit Go.Maps
open Go.Proofs.YtbnihflihelimaaGreat.T
/-- While the parts of a pattern are told. -/
def JP (gs : GL) (now : List Em) (Bm : Nat) (Ar : Option Addr) (cr kb lb : Nat) (E : Nat → Em) (k : Nat) (X : Nat → Prop) (w : World) : Prop := ∃ v, (∀ b, X b ↔ (b = lb ∨ v.ownBlock = some b)) ∧ LX w lb v ∧ w.ownsRow (lb + 1) 74 4 v k (emc ((List.range k).map E)) ∧ KX w kb (.map (some Bm)) (.slice Ar now.length cr) ∧ KnI w gs Bm Ar now
theorem see_pt {gs : GL} {now : List Em} {L : List Nd} (h : PtR gs now L) (Bm : Nat) (Ar : Option Addr) (cr kb lb Bc B : Nat) (h1 : kb < lb) (h2 : Bm < lb) (h3 : ∀ g o, Ar = some ⟨g, o, none⟩ → g < lb) (h4 : lb < B) (h5 : Bc ≤ lb) : See9 L 105 #[] #[.pointer (some ⟨kb, 0, none⟩), .pointer (some ⟨lb, 0, none⟩)] (EE (lkE gs now) L) Bc B (JP gs now Bm Ar cr kb lb (EE (lkE gs now) L)) where
  kept := fun k X w w' hj hz hb => by
    obtain ⟨v, hX, hL, ho, hk, hn⟩ := hj
    exact ⟨v, hX, hL.same (hb _ (.inr ((hX _).2 (.inl rfl)))), own_same ho (fun q hq => hb q (.inr ((hX _).2 (.inr hq)))), hk.same (hb _ (.inl (by omega))), hn.same hz (hb _ (.inl (by omega))) (fun g o e => hb _ (.inl (by have := h3 g o e; omega)))⟩
  far := fun k X w hj b hb => by
    obtain ⟨v, hX, hL, ho, hk, hn⟩ := hj
    rcases (hX b).1 hb with rfl | q
    · exact ⟨h5, hL.lt⟩
    · have := ho.lt b q
      exact ⟨by omega, this.2⟩
  call := fun k X w A c n hj hB hn hp hA => by
    obtain ⟨v, hX, hL, ho, hk, hkn⟩ := hj
    have hlow : ∀ q, v.ownBlock = some q → lb + 1 ≤ q := fun q hq => (ho.lt q hq).1
    refine (part1_any h hn Bm Ar A cr c kb lb (lb + 1) v _ w hkn hk hL (by rw [List.length_map, List.length_range]) ho (Nat.lt_succ_self _) hL.lt hp).mono ?_
    rintro e w' ⟨rfl, v', hL', ho', hb', hkp⟩
    have same : ∀ b, b < lb → w'.heap[b]? = w.heap[b]? := fun b hb => hkp.block b (Nat.lt_trans hb hL.lt) (fun q => by
      rcases q with q | q
      · omega
      · have := hlow b q; omega)
    refine ⟨rfl, fun b => b = lb ∨ v'.ownBlock = some b, ⟨v', fun b => Iff.rfl, hL', by rw [List.range_succ, List.map_append]; exact ho', hk.same (same _ h1), hkn.same hkp.size (same _ h2) (fun g o e => same _ (h3 g o e))⟩, ⟨hkp.os, hkp.tape, hkp.output, hkp.size, fun b hb hnX => hkp.block b hb (fun q => hnX ((hX b).2 q))⟩, fun b q => ?_⟩
    rcases q with q | q
    · exact .inl ((hX b).2 (.inl q))
    · rcases hb' b q with q | q
      · exact .inl ((hX b).2 (.inr q))
      · exact .inr q
theorem enters_pt1 (args : Array Value) (w : World) : (callFunc 105 args).run Tryz.prog w = .ok (.enter 105 args) w := enters_of Tryz.func105 (by kernel_rfl) rfl args w
set_option maxRecDepth 100000 in
set_option maxHeartbeats 8000000 in
/-- All parts of a pattern. -/
theorem parts_any {gs : GL} {now : List Em} {L : List Nd} (h : PtR gs now L) (B : Nat) (Ar Ap : Option Addr) (cr cp : Nat) (w : World) (hk : KnI w gs B Ar now) (hn : now ≠ []) (hL : RdN w Ap L) :
    Calls Tryz.prog 86 #[.agg #[.map (some B), .slice Ar now.length cr], .slice Ap L.length cp] w fun e w' => (∃ v, e = .returned v ∧ w'.ownsRow w.heap.size 74 4 v L.length (emc ((List.range L.length).map (EE (lkE gs now) L)))) ∧ Below w.heap.size w w' := by
  obtain ⟨w1, hw1⟩ : ∃ w1, w1 = (w.alloc (.cells #[.map (some B), .slice Ar now.length cr] 129)).alloc (.cells #[.slice none 0 0] 53) := ⟨_, rfl⟩
  have HE1 := (show Hid ((w.alloc (.cells #[.map (some B), .slice Ar now.length cr] 129)).alloc (.cells #[.slice none 0 0] 53) = w1) from hw1.symm)
  have s1 := World.size_alloc w (.cells #[.map (some B), .slice Ar now.length cr] 129)
  have s2 : w1.heap.size = w.heap.size + 2 := by rw [hw1, World.size_alloc, s1]
  have hb1 : Below w.heap.size w w1 := by rw [hw1]; exact ((Below.refl _ _).alloc (Nat.le_refl _) _).alloc (by omega) _
  have hk1 : KX w1 w.heap.size (.map (some B)) (.slice Ar now.length cr) := by rw [hw1]; exact (KX.new w _ _).below (below_box _ _)
  have hl1 : LX w1 (w.heap.size + 1) (.slice none 0 0) := by
    have q : LX ((w.alloc (.cells #[.map (some B), .slice Ar now.length cr] 129)).alloc (.cells #[.slice none 0 0] 53)) (w.alloc (.cells #[.map (some B), .slice Ar now.length cr] 129)).heap.size (.slice none 0 0) := ⟨heap_alloc_new _ _⟩
    rw [s1, ← hw1] at q; exact q
  have HT := hid_of (through9_any L 105 #[] #[.pointer (some ⟨w.heap.size, 0, none⟩), .pointer (some ⟨w.heap.size + 1, 0, none⟩)] (EE (lkE gs now) L) (JP gs now B Ar cr w.heap.size (w.heap.size + 1) (EE (lkE gs now) L)) Ap cp w.heap.size h.rt w1 hb1.size (hL.below hb1 (Nat.le_refl _)) (fun a ha => by
      have hne : L ≠ [] := by rintro rfl; have := h.rt.one; simp [run] at this
      obtain ⟨g, o, e, lt, _⟩ := hL hne
      rw [e] at ha
      obtain rfl := Option.some.inj ha
      exact lt) enters_pt1 (see_pt h B Ar cr w.heap.size (w.heap.size + 1) w.heap.size w1.heap.size (by omega) (by have := hk.m.lt; omega) (fun g o e => by have := rde_lt hk.r hn g o e; omega) (by omega) (by omega)) (fun b => b = w.heap.size + 1 ∨ (Value.slice none 0 0).ownBlock = some b) ⟨_, fun b => Iff.rfl, hl1, World.ownsRow_nil _ _ _ _, hk1, hk.later hb1⟩ (fun b q => by
      rcases q with q | q
      · omega
      · simp [Value.ownBlock] at q))
  have HB1 := (show Hid (Below w.heap.size w w1) from hb1)
  obtain ⟨⟨en, ec, el, em⟩, hE⟩ : ∃ e, e = EE (lkE gs now) L (L.length - 1) := ⟨_, rfl⟩
  rw [← hE] at HT
  simp only [emG] at HT
  clear hw1 h hk hn hL s1 s2 hb1 hk1 hl1
  go_enter Tryz.func86, Tryz.ntmps86
  go_wp2_with (rw [HE1.out])
  refine Calls.mono HT.out ?_
  rintro e w2 ⟨rfl, b2, X, v, _, hL2, ho2, _, _⟩
  obtain ⟨A2, c2, rfl⟩ := own_fm ho2
  have l0 := hL2.c0
  have HO := (show Hid (w2.ownsRow w.heap.size 74 4 (.slice A2 L.length c2) L.length (emc ((List.range L.length).map (EE (lkE gs now) L)))) from T.own_base ho2 (by omega))
  have HB2 := (show Hid (Below w.heap.size w w2) from HB1.out.trans b2)
  clear HT HE1 b2 hL2 ho2 hE HB1
  go_wp2_with fail
  go_ret
  exact ⟨⟨_, rfl, HO.out⟩, HB2.out⟩
end Go.Proofs.YtbnihflihelimaaGreat.N

namespace Go.Proofs.YtbnihflihelimaaGreat.N
open Go.RowKit Go.Maps
open Go.Proofs.YtbnihflihelimaaGreat.T
/-- What Parts answers. -/
def PaR (gs : GL) (r : Int) (l : List Em) (cd : Int) : Prop := ((ckG gs).2 ≠ 0 → cd = (ckG gs).2 ∧ l = []) ∧ ((ckG gs).2 = 0 → (r < 0 ∨ (gs.length : Int) ≤ r → cd = 1 ∧ l = []) ∧ ∀ (k : Nat) g, r = k → gs[k]? = some g → cd = 0 ∧ ∃ now, KnF gs now ∧ l = (List.range g.2.length).map (EE (lkE gs now) g.2))
theorem below_dr (w : World) : Below w.heap.size w w.drew := ⟨rfl, rfl, rfl, Nat.le_refl _, fun _ _ => rfl⟩
theorem enters_pts (args : Array Value) (w : World) : (callFunc 86 args).run Tryz.prog w = .ok (.enter 86 args) w := enters_of Tryz.func86 (by kernel_rfl) rfl args w
set_option maxRecDepth 100000 in
set_option maxHeartbeats 8000000 in
theorem partsP_any (gs : GL) (A : Option Addr) (c : Nat) (r : Int) (w : World) (hp : GI w A gs) :
    Calls Tryz.prog 70 #[.agg #[.slice A gs.length c], .int .i64 r] w fun e w' => (∃ v l cd, e = .returned (.tuple #[v, .int .i64 cd]) ∧ PaR gs r l cd ∧ w'.ownsRow w.heap.size 74 4 v l.length (emc l)) ∧ Below w.heap.size w w' := by
  obtain ⟨w1, hw1⟩ : ∃ w1, w1 = w.alloc (.cells #[.slice A gs.length c] 24) := ⟨_, rfl⟩
  have HE1 := (show Hid (w.alloc (.cells #[.slice A gs.length c] 24) = w1) from hw1.symm)
  have HB1 := (show Hid (Below w.heap.size w w1) from by rw [hw1]; exact below_box _ _)
  have HG1 := (show Hid (GX w1 w.heap.size (.slice A gs.length c)) from by rw [hw1]; exact GX.mk (heap_alloc_new w _))
  have q1 := HG1.out.cl
  have HN := hid_of (knownOf_any gs A c w1 (hp.later HB1.out))
  have HP := (show Hid (GI w A gs) from hp)
  clear hw1 hp
  go_enter Tryz.func70, Tryz.ntmps70
  go_wp2_with (rw [HE1.out])
  refine Calls.mono HN.out ?_
  rintro e w2 ⟨⟨m, v, rfl, h1, h2⟩, b2⟩
  have HB2 := (show Hid (Below w.heap.size w w2) from HB1.out.trans (b2.mono HB1.out.size))
  have HG2 := (show Hid (GX w2 w.heap.size (.slice A gs.length c)) from HG1.out.below b2)
  have hs1 := HB1.out.size
  clear HN HE1 q1 b2 HG1
  by_cases hz : (ckG gs).2 = 0
  · obtain ⟨mb, Ar, cr, now, rfl, rfl, _, hm2, hF, hl, hok, ho⟩ := h2 hz
    have tz : ((ckG gs).2 != 0) = false := by rw [hz]; rfl
    have hR := ckG_ok.1 hz
    have hn200 := hR.n2
    obtain ⟨w3, hw3⟩ : ∃ w3, w3 = w2.alloc (.cells #[.map (some mb), .slice Ar gs.length cr] 129) := ⟨_, rfl⟩
    have HE3 := (show Hid (w2.alloc (.cells #[.map (some mb), .slice Ar gs.length cr] 129) = w3) from hw3.symm)
    have hb3 : Below w2.heap.size w2 w3 := by rw [hw3]; exact below_box _ _
    have k0 : w3.cell? ⟨w2.heap.size, 0, none⟩ = some (.map (some mb)) := by rw [hw3]; exact (KX.new w2 _ _).c0
    have k1 : w3.cell? ⟨w2.heap.size, 1, none⟩ = some (.slice Ar gs.length cr) := by rw [hw3]; exact (KX.new w2 _ _).c1
    have HB3 := (show Hid (Below w.heap.size w w3) from HB2.out.trans (hb3.mono HB2.out.size))
    have q3 := (HG2.out.below hb3).cl
    have HKn := (show Hid (KnI w3 gs mb Ar now) from ⟨hm2.later hb3, own_rd (T.own_below ho hb3) hl, hl⟩)
    have HR := (show Hid (RtG gs ∧ KnF gs now ∧ now.length = gs.length ∧ OkN gs now ∧ (ckG gs).2 = 0) from ⟨hR, hF, hl, hok, hz⟩)
    clear h1 h2 ho hF hl hok hz hs1 hm2 hR hw3 hb3 HG2
    generalize hcd : (ckG gs).2 = cd at tz ⊢
    clear hcd
    by_cases h0 : r < 0
    · have HA := (show Hid (PaR gs r [] 1) from ⟨fun q => absurd HR.out.2.2.2.2 q, fun _ => ⟨fun _ => ⟨rfl, rfl⟩, fun k g e _ => absurd e (by omega)⟩⟩)
      clear HKn HR HP
      go_wp2_with (rw [HE3.out])
      refine bodyPost_ret (v := .tuple #[.slice none 0 0, .int .i64 1]) (by simp [results, Tryz.results70, go_sem]) rfl ⟨⟨_, [], 1, rfl, HA.out, World.ownsRow_nil _ _ _ _⟩, HB3.out⟩
    by_cases hg : (gs.length : Int) ≤ r
    · have HA := (show Hid (PaR gs r [] 1) from ⟨fun q => absurd HR.out.2.2.2.2 q, fun _ => ⟨fun _ => ⟨rfl, rfl⟩, fun k g e he => absurd (List.getElem?_eq_some_iff.1 he).1 (by omega)⟩⟩)
      have hg2 : r ≥ (gs.length : Int) := hg
      clear HKn HR HP
      go_wp2_with (rw [HE3.out])
      refine bodyPost_ret (v := .tuple #[.slice none 0 0, .int .i64 1]) (by simp [results, Tryz.results70, go_sem]) rfl ⟨⟨_, [], 1, rfl, HA.out, World.ownsRow_nil _ _ _ _⟩, HB3.out⟩
    obtain ⟨k, rfl⟩ : ∃ k : Nat, r = k := ⟨r.toNat, by omega⟩
    have hk : k < gs.length := by omega
    obtain ⟨g, hgk⟩ : ∃ g, gs[k]? = some g := ⟨_, List.getElem?_eq_getElem hk⟩
    have hmem := List.mem_of_getElem? hgk
    obtain ⟨b, o, A2, c2, rfl, lb, x0, x1, r2⟩ := HP.out.d k g hgk
    have x0' := (HB3.out.cell (p := ⟨b, o + k * 2, none⟩) lb).trans x0
    have x1' := (HB3.out.cell (p := ⟨b, o + k * 2 + 1, none⟩) lb).trans x1
    have z0 : (0 : Int) ≤ (k : Int) := by omega
    have z1 : (k : Int) < (gs.length : Int) := by omega
    have hg3 : ¬ (k : Int) ≥ (gs.length : Int) := by omega
    have HC := (show Hid (∀ _ : Unit, Calls Tryz.prog 86 #[.agg #[.map (some mb), .slice Ar gs.length cr], .slice A2 g.2.length c2] w3.drew fun e w' => (∃ v, e = .returned v ∧ w'.ownsRow w3.heap.size 74 4 v g.2.length (emc ((List.range g.2.length).map (EE (lkE gs now) g.2)))) ∧ Below w3.heap.size w3 w') from fun _ => by
      have hne : now ≠ [] := by rintro rfl; have h1 := HR.out.2.2.1; have h2 := HR.out.1.n1; rw [← h1] at h2; exact absurd h2 (by decide)
      have t := parts_any (ptR_of HR.out.1 HP.out HR.out.2.2.2.1 hmem) mb Ar A2 cr c2 w3.drew (HKn.out.later (below_dr w3)) hne ((r2.below HB3.out (Nat.le_refl _)).below (below_dr w3) (Nat.le_refl _))
      rw [HR.out.2.2.1] at t
      refine t.mono ?_
      rintro e w' ⟨h1, h2⟩
      exact ⟨h1, ⟨h2.os, h2.tape, h2.output, h2.size, h2.block⟩⟩)
    have HA := (show Hid (PaR gs k ((List.range g.2.length).map (EE (lkE gs now) g.2)) 0) from ⟨fun q => absurd HR.out.2.2.2.2 q, fun _ => ⟨fun q => by omega, fun k2 g2 e he => by
      have e2 : k = k2 := by omega
      subst e2
      rw [hgk] at he
      obtain rfl := Option.some.inj he
      exact ⟨rfl, now, HR.out.2.1, rfl⟩⟩⟩)
    have HSz := (show Hid (w.heap.size ≤ w3.heap.size) from HB3.out.size)
    clear hgk hmem x0 x1 r2 HKn HR HP hg hk
    go_wp2_with (rw [HE3.out])
    go_region_law (refine step_call2 enters_pts rfl _ _ _ _ (by rfl) (.agg #[.map (some mb), .slice Ar gs.length cr]) (.slice A2 g.2.length c2) (by rfl) (by rfl) ?_; with_reducible refine (HC.out ()).mono ?_; rintro e w4 ⟨⟨v4, rfl, ho4⟩, b4⟩; refine ⟨_, rfl, ?_⟩)
    all_goals
      have HO4 := hid_of ho4
      have HB4 := hid_of b4
      clear ho4 b4
      go_wp2_with fail
      refine bodyPost_ret (v := .tuple #[v4, .int .i64 0]) (by simp [results, Tryz.results70, go_sem]) rfl ⟨⟨_, _, 0, rfl, HA.out, by rw [List.length_map, List.length_range]; exact T.own_base HO4.out HSz.out⟩, HB3.out.trans (HB4.out.mono HSz.out)⟩
  · obtain ⟨rfl, rfl⟩ := h1 hz
    have tz : ((ckG gs).2 != 0) = true := by rw [bne, beq_eq_false_iff_ne.2 hz]; rfl
    have HR := (show Hid (PaR gs r [] (ckG gs).2) from ⟨fun _ => ⟨rfl, rfl⟩, fun q => absurd q hz⟩)
    clear h1 h2 hz hs1 HG2 HP
    have HB3 := (show Hid (Below w2.heap.size w2 (w2.alloc (.cells #[.map none, .slice none 0 0] 129))) from below_box _ _)
    generalize hcd : (ckG gs).2 = cd at tz HR ⊢
    clear hcd
    go_wp2_with fail
    refine bodyPost_ret (v := .tuple #[.slice none 0 0, .int .i64 cd]) (by simp [results, Tryz.results70, go_sem]) rfl ⟨⟨_, [], cd, rfl, HR.out, World.ownsRow_nil _ _ _ _⟩, HB2.out.trans (HB3.out.mono HB2.out.size)⟩
end Go.Proofs.YtbnihflihelimaaGreat.N

namespace Go.Proofs.YtbnihflihelimaaGreat.N
open Go.RowKit Go.Maps
open Go.Proofs.YtbnihflihelimaaGreat.T
/-- A pattern in which each call gives way to a node without parts. -/
def seN (nu : ByteArray → Bool) (n : Nd) : Nd := if n.op = 6 then (if nu n.tx then ⟨1, 0, ⟨#[]⟩, 0, 0, 0, 0⟩ else ⟨3, 0, ⟨#[]⟩, 0, 0, 0, 0⟩) else n
def seL (nu : ByteArray → Bool) (L : List Nd) : List Nd := L.map (seN nu)
theorem seN_6 {nu : ByteArray → Bool} {n : Nd} (h : ¬ n.op = 6) : seN nu n = n := by unfold seN; rw [if_neg h]
theorem seN_op {nu : ByteArray → Bool} {n : Nd} : (n.op = 6 ∧ ((seN nu n).op = 1 ∨ (seN nu n).op = 3)) ∨ (¬ n.op = 6 ∧ seN nu n = n) := by
  by_cases h : n.op = 6
  · refine .inl ⟨h, ?_⟩
    unfold seN
    rw [if_pos h]
    split
    · exact .inl rfl
    · exact .inr rfl
  · exact .inr ⟨h, seN_6 h⟩
theorem seN_ar {nu : ByteArray → Bool} {n : Nd} : ar (seN nu n).op = ar n.op := by
  rcases seN_op (nu := nu) (n := n) with ⟨h, e | e⟩ | ⟨_, e⟩
  · rw [h, e]; rfl
  · rw [h, e]; rfl
  · rw [e]
theorem seN_eq {nu : ByteArray → Bool} {n : Nd} {op : Int} (h : ¬ op = 1) (h3 : ¬ op = 3) (h6 : ¬ op = 6) : ((seN nu n).op = op) = (n.op = op) := by
  rcases seN_op (nu := nu) (n := n) with ⟨g, e⟩ | ⟨_, e⟩
  · refine propext ⟨fun q => ?_, fun q => ?_⟩ <;> omega
  · rw [e]
theorem seN_al {nu : ByteArray → Bool} {n : Nd} (h : alE n = 0) : alE (seN nu n) = 0 := by
  by_cases g : n.op = 6
  · unfold seN
    rw [if_pos g]
    split <;> rfl
  · rw [seN_6 g]; exact h
theorem opAt_se {nu : ByteArray → Bool} {L : List Nd} (k : Nat) : arN (T.opAt (seL nu L) k) = arN (T.opAt L k) ∧ ∀ op : Int, ¬ op = 1 → ¬ op = 3 → ¬ op = 6 → ((T.opAt (seL nu L) k = op) = (T.opAt L k = op)) := by
  unfold T.opAt seL
  rw [List.getElem?_map]
  cases h : L[k]? with
  | none => exact ⟨rfl, fun _ _ _ _ => rfl⟩
  | some n => exact ⟨by show arN (seN nu n).op = _; unfold arN; rw [seN_ar], fun op a b c => seN_eq a b c⟩
theorem mk_se {nu : ByteArray → Bool} {L : List Nd} (k : Nat) {op op2 : Int} (ha : arN op2 = arN op) (ho : arN op = 2 → op2 = op) (h7 : arN op = 2 → op = 7 ∨ op = 8) (st : List Pt) (h2 : arN op ≤ 2) : mk (seL nu L) k op2 st = mk L k op st := by
  unfold mk
  rw [ha]
  by_cases e0 : arN op = 0
  · rw [if_pos e0, if_pos e0]
  rw [if_neg e0, if_neg e0]
  by_cases e1 : arN op = 1
  · rw [if_pos e1, if_pos e1]
  rw [if_neg e1, if_neg e1]
  have e2 : arN op = 2 := by omega
  have eo := ho e2
  have e7 := h7 e2
  subst eo
  have key : ∀ j, (T.opAt (seL nu L) j = op2) = (T.opAt L j = op2) := fun j => (opAt_se j).2 op2 (by omega) (by omega) (by omega)
  simp only [key]
theorem arN_le2 (op : Int) : arN op ≤ 2 := by unfold arN; have := ar_hi op; omega
theorem arN_78 {op : Int} (h : arN op = 2) : op = 7 ∨ op = 8 := by
  unfold arN ar at h
  split at h
  · exact absurd h (by decide)
  · split at h
    · exact absurd h (by decide)
    · split at h
      · assumption
      · exact absurd h (by decide)
theorem run_se {nu : ByteArray → Bool} {L : List Nd} : ∀ k, run (seL nu L) k = run L k := by
  have one : ∀ k st, mk (seL nu L) k (T.opAt (seL nu L) k) st = mk L k (T.opAt L k) st := fun k st => by
    have ha := (opAt_se (nu := nu) (L := L) k).1
    refine mk_se k ha (fun h => ?_) (fun h => arN_78 h) st (arN_le2 _)
    have h7 := arN_78 h
    have hq := (opAt_se (nu := nu) (L := L) k).2 (T.opAt L k) (by omega) (by omega) (by omega)
    exact of_eq_true (hq.trans (eq_true rfl))
  intro k
  induction k with
  | zero => rfl
  | succ k ih =>
    rw [run, run, ih, one]
    rw [(opAt_se (nu := nu) (L := L) k).1]
theorem pt_se {nu : ByteArray → Bool} {L : List Nd} (k : Nat) : pt (seL nu L) k = pt L k := by
  have h := run_succ (seL nu L) k
  have g := run_succ L k
  rw [run_se] at h
  rw [h] at g
  injection g
theorem rt_se {nu : ByteArray → Bool} {L : List Nd} (h : Rt L) : Rt (seL nu L) := by
  have hl : (seL nu L).length = L.length := by unfold seL; exact List.length_map ..
  refine ⟨by rw [hl]; exact h.len, fun k hk => ?_, by rw [hl, run_se]; exact h.one⟩
  rw [hl] at hk
  have hn : L[k]? = some L[k] := List.getElem?_eq_getElem hk
  have hk2 := er_ok hn (h.each k hk)
  have e := h.each k hk
  unfold er at e ⊢
  rw [hn] at e
  have hs : (seL nu L)[k]? = some (seN nu L[k]) := by unfold seL; rw [List.getElem?_map, hn]; rfl
  rw [hs]
  have hal := hk2.al
  have h1 := seN_al (nu := nu) hal
  have h2 : arN (seN nu L[k]).op = arN L[k].op := by unfold arN; rw [seN_ar]
  simp only [h1, h2, run_se, pt_se, hal] at e ⊢
  exact e
theorem kdR_se {nu : ByteArray → Bool} {L : List Nd} (k : Nat) : kdR (seL nu L) k = kdR L k := by
  unfold kdR
  rw [run_se, (opAt_se (nu := nu) (L := L) k).1]
theorem rtG_se {nu : ByteArray → Bool} {L : List Nd} (h : Rt L) : RtG [(⟨#[]⟩, seL nu L)] := by
  have hr := rt_se (nu := nu) h
  refine ⟨Nat.le_refl 1, (by show 1 ≤ 200; omega), fun g hg => ?_, fun g hg => ?_, ?_, ⟨fun i j a b ha hb _ => ?_, fun g hg n hn h6 => ?_⟩⟩
  · rw [List.mem_singleton.1 hg]; exact .inr ⟨rfl, rfl⟩
  · rw [List.mem_singleton.1 hg, hr.ck]
  · have := hr.len
    simp
    omega
  · have h1 := (List.getElem?_eq_some_iff.1 ha).1
    have h2 := (List.getElem?_eq_some_iff.1 hb).1
    simp at h1 h2
    omega
  · exfalso
    rw [List.mem_singleton.1 hg] at hn
    unfold seL at hn
    obtain ⟨m, _, rfl⟩ := List.mem_map.1 hn
    rcases seN_op (nu := nu) (n := m) with ⟨_, e⟩ | ⟨g6, e⟩
    · omega
    · rw [e] at h6; exact g6 h6
theorem seL_len {nu : ByteArray → Bool} {L : List Nd} : (seL nu L).length = L.length := by unfold seL; exact List.length_map ..
end Go.Proofs.YtbnihflihelimaaGreat.N
