/- DERIVED. Plain mathematics and walks, laid together (12). -/
import Derived.Deep.WholeRow
import Derived.Deep.MidRow
import Derived.Laws.ResultCell
import Derived.Laws.CopyOwn
import Derived.Shelf.Slices.Reverse
import Derived.Test.YtbipjdgholdhcabGreatFs11
namespace Go.Proofs.YtbipjdgholdhcabGreat.N
open Go.RowKit Go.Maps
open Go.Proofs.YtbipjdgholdhcabGreat.T
/-- A view's box. -/
structure VX (W : World) (b : Nat) (r m k : Value) : Prop where
  heap : W.heap[b]? = some (.cells #[r, m, k] 66 (0, 0))
theorem VX.lt {W : World} {b : Nat} {r m k : Value} (h : VX W b r m k) : b < W.heap.size := (Array.getElem?_eq_some_iff.1 h.heap).1
theorem VX.same {W W' : World} {b : Nat} {r m k : Value} (h : VX W b r m k) (hb : W'.heap[b]? = W.heap[b]?) : VX W' b r m k := ⟨hb.trans h.heap⟩
theorem VX.below {W W' : World} {b : Nat} {r m k : Value} (h : VX W b r m k) (hb : Below W.heap.size W W') : VX W' b r m k := h.same (hb.block b h.lt)
theorem VX.c0 {W : World} {b : Nat} {r m k : Value} (h : VX W b r m k) : W.cell? ⟨b, 0, none⟩ = some r := by rw [cell_of_row W b 0 _ 66 (0, 0) h.heap]; rfl
theorem VX.c1 {W : World} {b : Nat} {r m k : Value} (h : VX W b r m k) : W.cell? ⟨b, 1, none⟩ = some m := by rw [cell_of_row W b 1 _ 66 (0, 0) h.heap]; rfl
theorem VX.c2 {W : World} {b : Nat} {r m k : Value} (h : VX W b r m k) : W.cell? ⟨b, 2, none⟩ = some k := by rw [cell_of_row W b 2 _ 66 (0, 0) h.heap]; rfl
theorem VX.fz {W : World} {b : Nat} {r m k : Value} (h : VX W b r m k) (j : Nat) : W.frozen? ⟨b, j, none⟩ = false := frozen_of_row W b j _ 66 h.heap
theorem VX.all {W : World} {b : Nat} {r m k : Value} (h : VX W b r m k) (r2 m2 k2 : Value) : VX (((W.setCell ⟨b, 0, none⟩ r2).setCell ⟨b, 1, none⟩ m2).setCell ⟨b, 2, none⟩ k2) b r2 m2 k2 := by
  have h1 : VX (W.setCell ⟨b, 0, none⟩ r2) b r2 m k := ⟨by rw [heap_setCell_same W b 0 _ 66 _ h.heap]; rfl⟩
  have h2 : VX ((W.setCell ⟨b, 0, none⟩ r2).setCell ⟨b, 1, none⟩ m2) b r2 m2 k := ⟨by rw [heap_setCell_same _ b 1 _ 66 _ h1.heap]; rfl⟩
  exact ⟨by rw [heap_setCell_same _ b 2 _ 66 _ h2.heap]; rfl⟩
theorem VX.new (W : World) (r m k : Value) : VX (W.alloc (.cells #[r, m, k] 66)) W.heap.size r m k := ⟨heap_alloc_new W _⟩
theorem ret_vx2 {s t : Nat} {fn : Func} {R : Ending → World → Prop} {act : Act} {W : World} {b : Nat} {r m k x : Value} (hF : fn.results = #[.cell s 66, .tmp t]) (hd : act.defers = []) (h6 : act.tmps.getD s undef = .pointer (some ⟨b, 0, none⟩)) (h7 : act.tmps.getD t undef = x) (hT : VX W b r m k) (hR : R (.returned (.tuple #[.agg #[r, m, k], x])) W) : bodyPost Tryz.prog fn R .ret act W := by
  have c0 : W.cell? ⟨b, 0, none⟩ = _ := hT.c0
  have c1 : W.cell? ⟨b, 1, none⟩ = _ := hT.c1
  have c2 : W.cell? ⟨b, 2, none⟩ = _ := hT.c2
  refine bodyPost_ret (v := .tuple #[.agg #[r, m, k], x]) ?_ hd hR
  simp only [Array.getD_eq_getD_getElem?] at h6 h7
  simp [results, hF, go_sem, h6, h7, c0, c1, c2]
/-- While the names are told. -/
structure VwS (w wr : World) (u vk : Value) (mb kb : Nat) (Ak : Option Addr) (now : List Em) (gt : GL) : Prop where
  b : Below w.heap.size w wr
  g : GX wr w.heap.size u
  r : VX wr (w.heap.size + 1) (.slice none 0 0) (.map none) (.slice none 0 0)
  k : VX wr kb u (.map (some mb)) vk
  m : NmM wr mb gt
  d : RdE wr Ak now
  e1 : w.heap.size + 2 ≤ mb
  e2 : kb = mb + 1
  e3 : ∀ g o, Ak = some ⟨g, o, none⟩ → g < mb
theorem VwS.later {w wr w2 : World} {u vk : Value} {mb kb : Nat} {Ak : Option Addr} {now : List Em} {gt : GL} (h : VwS w wr u vk mb kb Ak now gt) (hb : Below wr.heap.size wr w2) : VwS w w2 u vk mb kb Ak now gt := ⟨h.b.trans (hb.mono h.b.size), h.g.below hb, h.r.below hb, h.k.below hb, h.m.later hb, h.d.later hb, h.e1, h.e2, h.e3⟩
theorem VwS.put {w wX w1 : World} {u vk : Value} {mb kb k : Nat} {Ak : Option Addr} {now : List Em} {gt : GL} {g : ByteArray × List Nd} {D : DataW Unit} (h : VwS w wX u vk mb kb Ak now gt) (hg : wX.grownBy w1 (some mb)) (ho : w1.ownsMap Tryz.prog 9 (plainElem Tryz.prog 3) mb (k + 1) (D.put (.string g.1.data.toList) (.lit (.int .i64 k)))) (hD : NmD D gt) (hf : fdG gt g.1 = none) (hk : gt.length = k) : VwS w w1 u vk mb kb Ak now (gt ++ [g]) := by
  have hm : Maps.IsMap D := by
    obtain ⟨es, clock, _, _, _, e⟩ := ho
    cases D with
    | map es => exact ⟨es, rfl⟩
    | _ => cases e
  have e1 := h.e1
  have e2 := h.e2
  have key : ∀ j, j < wX.heap.size → j ≠ mb → w1.heap[j]? = wX.heap[j]? := fun j hj hn => hg.block j hj (fun e => by injection e with e; exact hn e)
  refine ⟨h.b.grown hg h.b.size (fun j hj => by cases hj; omega), h.g.same (key _ h.g.lt (by omega)), h.r.same (key _ h.r.lt (by omega)), h.k.same (key _ h.k.lt (by omega)), ⟨⟨D.put (.string g.1.data.toList) (.lit (.int .i64 k)), ?_, ?_⟩⟩, h.d.same hg.size (fun g2 o2 e => key _ (by have := h.e3 g2 o2 e; have := h.m.lt; omega) (by have := h.e3 g2 o2 e; omega)), e1, e2, h.e3⟩
  · rw [List.length_append, List.length_singleton, hk]; exact ho
  · have := NmD.put hm hD g hf
    rw [hk] at this
    exact this
/-- What viewOf answers. -/
def VwR (w w' : World) (gs : GL) (A : Option Addr) (c : Nat) (e : Ending) : Prop := ((ckG gs).2 ≠ 0 → e = .returned (.tuple #[.agg #[.slice none 0 0, .map none, .slice none 0 0], .int .i64 (ckG gs).2])) ∧ ((ckG gs).2 = 0 → ∃ mb Ak ck now, e = .returned (.tuple #[.agg #[.slice A gs.length c, .map (some mb), .slice Ak gs.length ck], .int .i64 0]) ∧ NmM w' mb gs ∧ RdE w' Ak now ∧ KnF gs now ∧ now.length = gs.length ∧ OkN gs now ∧ w.heap.size ≤ mb)
set_option maxRecDepth 100000 in
set_option maxHeartbeats 16000000 in
theorem viewOf_any (gs : GL) (A : Option Addr) (c : Nat) (w : World) (hp : GI w A gs) :
    Calls Tryz.prog 23 #[.agg #[.slice A gs.length c]] w fun e w' => VwR w w' gs A c e ∧ Below w.heap.size w w' := by
  obtain ⟨w1, hw1⟩ : ∃ w1, w1 = (w.alloc (.cells #[.slice A gs.length c] 24)).alloc (.cells #[.slice none 0 0, .map none, .slice none 0 0] 66) := ⟨_, rfl⟩
  have HE1 := (show Hid ((w.alloc (.cells #[.slice A gs.length c] 24)).alloc (.cells #[.slice none 0 0, .map none, .slice none 0 0] 66) = w1) from hw1.symm)
  have HS1 := (show Hid (Below w.heap.size w w1 ∧ GX w1 w.heap.size (.slice A gs.length c) ∧ VX w1 (w.heap.size + 1) (.slice none 0 0) (.map none) (.slice none 0 0) ∧ w1.heap.size = w.heap.size + 2) from by
    have s1 := World.size_alloc w (.cells #[.slice A gs.length c] 24)
    refine ⟨by rw [hw1]; exact ((Below.refl _ _).alloc (Nat.le_refl _) _).alloc (by omega) _, by rw [hw1]; exact (GX.mk (heap_alloc_new w _)).below (below_box _ _), ?_, by rw [hw1, World.size_alloc, s1]⟩
    have h := VX.new (w.alloc (.cells #[.slice A gs.length c] 24)) (.slice none 0 0) (.map none) (.slice none 0 0)
    rw [s1, ← hw1] at h; exact h)
  have HRu := (show Hid (Calls Tryz.prog 39 #[.agg #[.slice A gs.length c]] w1 fun e w' => (∃ v now, e = .returned (.tuple #[v, .int .i64 (ckG gs).2]) ∧ RuR gs now ∧ w'.ownsRow w1.heap.size 110 4 v now.length (emc now)) ∧ Below w1.heap.size w1 w') from rulesP_any gs A c w1 (hp.later HS1.out.1))
  have HP := (show Hid (GI w A gs) from hp)
  have q1 := HS1.out.2.1.cl
  clear hw1 hp
  go_enter Tryz.func23, Tryz.ntmps23
  go_wp2_with (rw [HE1.out])
  refine HRu.out.mono ?_
  rintro e w2 ⟨⟨v, now, rfl, hr, ho⟩, b2⟩
  have HS2 := (show Hid (Below w.heap.size w w2 ∧ GX w2 w.heap.size (.slice A gs.length c) ∧ VX w2 (w.heap.size + 1) (.slice none 0 0) (.map none) (.slice none 0 0) ∧ w.heap.size + 2 ≤ w2.heap.size) from ⟨HS1.out.1.trans (b2.mono HS1.out.1.size), HS1.out.2.1.below b2, HS1.out.2.2.1.below b2, by have := b2.size; have := HS1.out.2.2.2; omega⟩)
  have q2 := HS2.out.2.1.cl
  by_cases hz : (ckG gs).2 = 0
  · have hR := ckG_ok.1 hz
    obtain ⟨hk, hl, hok⟩ := hr.1 hz
    rw [hl] at ho
    obtain ⟨Ak, ck, rfl⟩ := own_fm ho
    have hn200 := hR.n2
    have HAk := (show Hid (∀ g o, Ak = some ⟨g, o, none⟩ → g ≠ w.heap.size + 1) from fun g o e q => by
      rw [e] at ho
      obtain ⟨g2, c2, e2, h2, _⟩ := ho.form (by have := hR.n1; omega)
      injection e2 with e3 _ _
      obtain ⟨rfl, _⟩ := Addr.mk.inj (Option.some.inj e3)
      have := HS1.out.2.2.2
      omega)
    have HK := (show Hid (KnF gs now ∧ now.length = gs.length ∧ OkN gs now) from ⟨hk, hl, hok⟩)
    obtain ⟨mb, hmb⟩ : ∃ mb, mb = w2.heap.size := ⟨_, rfl⟩
    have HMb := (show Hid (w2.heap.size = mb) from hmb.symm)
    obtain ⟨w3, hw3⟩ : ∃ w3, w3 = (w2.alloc (.map #[] 0)).alloc (.cells #[.slice A gs.length c, .map (some w2.heap.size), .slice Ak gs.length ck] 66) := ⟨_, rfl⟩
    have HE3 := (show Hid ((w2.alloc (.map #[] 0)).alloc (.cells #[.slice A gs.length c, .map (some w2.heap.size), .slice Ak gs.length ck] 66) = w3) from hw3.symm)
    have HS := (show Hid (VwS w w3 (.slice A gs.length c) (.slice Ak gs.length ck) mb (mb + 1) Ak now []) from by
      have s3 := World.size_alloc w2 (.map #[] 0)
      have b3 : Below w2.heap.size w2 w3 := by rw [hw3]; exact ((Below.refl _ _).alloc (Nat.le_refl _) _).alloc (by omega) _
      have hrd := own_rd ho hl
      have hnn : now ≠ [] := by rintro rfl; have := hR.n1; simp at hl; omega
      refine ⟨HS2.out.1.trans (b3.mono HS2.out.1.size), HS2.out.2.1.below b3, HS2.out.2.2.1.below b3, ?_, ?_, hrd.later b3, by rw [hmb]; exact HS2.out.2.2.2, rfl, fun g o e => by rw [hmb]; exact rde_lt hrd hnn g o e⟩
      · have h := VX.new (w2.alloc (.map #[] 0)) (.slice A gs.length c) (.map (some w2.heap.size)) (.slice Ak gs.length ck)
        rw [s3, ← hw3] at h
        rw [hmb]
        exact h
      · rw [hw3, hmb]; exact (NmM.nil w2).later (below_box _ _))
    have HGt := (show Hid (∀ (k : Nat), k < gs.length → ∃ g, gs[k]? = some g ∧ g.1.size ≤ 140737488355328 ∧ fdG (gs.take k) g.1 = none) from fun k hk => by
      have hg : gs[k]? = some gs[k] := List.getElem?_eq_getElem hk
      have hm := List.mem_of_getElem? hg
      refine ⟨_, hg, (HP.out.t _ hm).1, ?_⟩
      cases q : fdG (gs.take k) (gs[k]).1 with
      | none => rfl
      | some i =>
        obtain ⟨h, h1, h2, _⟩ := fdG_some q
        rw [List.getElem?_take] at h1
        by_cases hik : i < k
        · rw [if_pos hik] at h1
          have := hR.dn.d i k h _ h1 hg h2
          omega
        · rw [if_neg hik] at h1; cases h1)
    have tz : ((ckG gs).2 != 0) = false := by rw [hz]; rfl
    have HZ := (show Hid ((ckG gs).2 = 0) from hz)
    have hmm := @run_makeMap Tryz.prog
    have q3 := HS.out.g.cl
    clear hr ho hk hl hok b2 hw3 hmb hz hR HRu HS1 HE1 q1
    generalize (ckG gs).2 = cd at tz ⊢
    go_wp2_with (rw [HE3.out, HMb.out])
    clear HE3 HMb hmm q2 q3
    go_loopw [26] (fun t wr => ∃ k : Nat, k ≤ gs.length ∧ t = .int .i64 (k : Int) ∧ Hid (VwS w wr (.slice A gs.length c) (.slice Ak gs.length ck) mb (mb + 1) Ak now (gs.take k))) (fun t _ => gs.length - (intOf t).toNat)
    case atStart => exact ⟨0, Nat.zero_le _, by go_num, HS⟩
    case round =>
      obtain ⟨k, hk, rfl, HW⟩ := hrel
      clear HS
      by_cases hlt : k < gs.length
      · obtain ⟨g, hg, hsz, hfd⟩ := HGt.out k hlt
        obtain ⟨b, o, A2, c2, rfl, lb, x0, x1, r2⟩ := HP.out.d k g hg
        have x0' := (HW.out.b.cell (p := ⟨b, o + k * 2, none⟩) lb).trans x0
        have x1' := (HW.out.b.cell (p := ⟨b, o + k * 2 + 1, none⟩) lb).trans x1
        have z0 : (0 : Int) ≤ (k : Int) := by omega
        have z1 : (k : Int) < (gs.length : Int) := by omega
        obtain ⟨w4, hw4⟩ : ∃ w4, w4 = wr.alloc (.cells #[.string g.1, .slice A2 g.2.length c2] 52) := ⟨_, rfl⟩
        have HE4 := (show Hid (wr.alloc (.cells #[.string g.1, .slice A2 g.2.length c2] 52) = w4) from hw4.symm)
        have hb4 : Below wr.heap.size wr w4 := by rw [hw4]; exact below_box _ _
        have HR4 := (show Hid (RB w4 wr.heap.size g.1 (.slice A2 g.2.length c2)) from by rw [hw4]; exact ⟨heap_alloc_new wr _⟩)
        have HW4 := (show Hid (VwS w w4 (.slice (some ⟨b, o, none⟩) gs.length c) (.slice Ak gs.length ck) mb (mb + 1) Ak now (gs.take k)) from HW.out.later hb4)
        have k1 := HW4.out.k.c1
        have y0 := HR4.out.c0
        obtain ⟨D, hown, hD⟩ := HW4.out.m.ex
        have hlk : (gs.take k).length = k := by rw [List.length_take]; omega
        rw [hlk] at hown
        have HOm := (show Hid (w4.ownsMap Tryz.prog 9 (plainElem Tryz.prog 3) mb k D) from hown)
        have HPut := (show Hid (∀ w3, w4.grownBy w3 (some mb) → w3.ownsMap Tryz.prog 9 (plainElem Tryz.prog 3) mb (k + 1) (D.put (.string g.1.data.toList) (.lit (.int .i64 k))) → VwS w w3 (.slice (some ⟨b, o, none⟩) gs.length c) (.slice Ak gs.length ck) mb (mb + 1) Ak now (gs.take (k + 1))) from fun w3 h1 h2 => by
          rw [show gs.take (k + 1) = gs.take k ++ [g] from by rw [List.take_add_one, hg]; rfl]
          exact HW4.out.put h1 h2 hD hfd hlk)
        have hkey := key_of hsz
        clear hw4 hb4 hg hD hown hfd hlk HW HW4 HGt HP hsz x0 x1 r2 lb
        go_wp2_with (first
          | rw [HE4.out]
          | (at_mapUpdate
             refine wpList_mapUpdate_own _ rfl _ _ _ 63 rfl 9 3 keyed Tryz.underlying63 _ mb k D rfl HOm.out (by unfold maxLen; omega) _ _ (.string g.1.data.toList) rfl rfl hkey _ [] (plainElem_int Tryz.underlying3 (WalkArith.wf_i64 (by omega))) ?_
             intro w5 hown5 hgrow5
             have HS5 := (show Hid (VwS w w5 (.slice (some ⟨b, o, none⟩) gs.length c) (.slice Ak gs.length ck) mb (mb + 1) Ak now (gs.take (k + 1))) from HPut.out w5 hgrow5 hown5)
             clear hown5 hgrow5 HPut HOm hkey k1 y0 HE4))
        go_roundw
        case rel => exact ⟨k + 1, by omega, by go_num, HS5⟩
        case measure => simp [intOf]; omega
      · obtain rfl : k = gs.length := by omega
        have HF := (show Hid (VwS w wr (.slice A gs.length c) (.slice Ak gs.length ck) mb (mb + 1) Ak now gs) from by have h := HW.out; rw [List.take_length] at h; exact h)
        have HNe := (show Hid (∀ g o, Ak = some ⟨g, o, none⟩ → g ≠ w.heap.size + 1) from HAk.out)
        have HT := (show Hid (∀ W, W = ((wr.setCell ⟨w.heap.size + 1, 0, none⟩ (.slice A gs.length c)).setCell ⟨w.heap.size + 1, 1, none⟩ (.map (some mb))).setCell ⟨w.heap.size + 1, 2, none⟩ (.slice Ak gs.length ck) → VX W (w.heap.size + 1) (.slice A gs.length c) (.map (some mb)) (.slice Ak gs.length ck) ∧ NmM W mb gs ∧ RdE W Ak now ∧ Below w.heap.size w W) from fun W hW => by
          have h := HF.out
          have e1 := h.e1
          have hz : W.heap.size = wr.heap.size := by rw [hW, World.size_setCell, World.size_setCell, World.size_setCell]
          have key : ∀ j, j ≠ w.heap.size + 1 → W.heap[j]? = wr.heap[j]? := fun j hj => by
            rw [hW]; exact ((heap_setCell_other _ _ _ _ hj).trans (heap_setCell_other _ _ _ _ hj)).trans (heap_setCell_other _ _ _ _ hj)
          refine ⟨by rw [hW]; exact h.r.all _ _ _, h.m.same (key _ (by omega)), ?_, ?_⟩
          · exact h.d.same (by rw [hz]; exact Nat.le_refl _) (fun g o e => key g (fun q => HNe.out g o e q))
          · rw [hW]
            exact ((h.b.setCell (p := ⟨w.heap.size + 1, 0, none⟩) (Nat.le_succ _) _).setCell (p := ⟨w.heap.size + 1, 1, none⟩) (Nat.le_succ _) _).setCell (p := ⟨w.heap.size + 1, 2, none⟩) (Nat.le_succ _) _)
        have k0 := HF.out.k.c0
        have k1 := HF.out.k.c1
        have k2 := HF.out.k.c2
        have r0 := HF.out.r.c0
        have r1 := HF.out.r.c1
        have r2 := HF.out.r.c2
        have f0 := HF.out.r.fz 0
        have f1 := HF.out.r.fz 1
        have f2 := HF.out.r.fz 2
        have HMl := (show Hid (w.heap.size ≤ mb) from by have := HF.out.e1; show w.heap.size ≤ mb; omega)
        clear HW HGt HP HF
        go_wp2_with fail
        have HQ := (show Hid _ from HT.out _ rfl)
        refine ret_vx2 (s := 2) (t := 3) (b := w.heap.size + 1) (x := .int .i64 0) (by rfl) (by rfl) (by rfl) (by rfl) HQ.out.1 ?_
        exact ⟨⟨fun q => absurd HZ.out q, fun _ => ⟨mb, Ak, ck, now, rfl, HQ.out.2.1, HQ.out.2.2.1, HK.out.1, HK.out.2.1, HK.out.2.2, HMl.out⟩⟩, HQ.out.2.2.2⟩
  · have tz : ((ckG gs).2 != 0) = true := by rw [bne, beq_eq_false_iff_ne.2 hz]; rfl
    have HZ := (show Hid ((ckG gs).2 ≠ 0) from hz)
    obtain rfl := hr.2 hz
    obtain ⟨Ak, ck, rfl⟩ := own_fm ho
    have HT := (show Hid (∀ W, W = ((w2.setCell ⟨w.heap.size + 1, 0, none⟩ (.slice none 0 0)).setCell ⟨w.heap.size + 1, 1, none⟩ (.map none)).setCell ⟨w.heap.size + 1, 2, none⟩ (.slice none 0 0) → VX W (w.heap.size + 1) (.slice none 0 0) (.map none) (.slice none 0 0) ∧ Below w.heap.size w W) from fun W hW => by
      rw [hW]
      exact ⟨HS2.out.2.2.1.all _ _ _, ((HS2.out.1.setCell (p := ⟨w.heap.size + 1, 0, none⟩) (Nat.le_succ _) _).setCell (p := ⟨w.heap.size + 1, 1, none⟩) (Nat.le_succ _) _).setCell (p := ⟨w.heap.size + 1, 2, none⟩) (Nat.le_succ _) _⟩)
    have r0 := HS2.out.2.2.1.c0
    have r1 := HS2.out.2.2.1.c1
    have r2 := HS2.out.2.2.1.c2
    have f0 := HS2.out.2.2.1.fz 0
    have f1 := HS2.out.2.2.1.fz 1
    have f2 := HS2.out.2.2.1.fz 2
    clear hr ho hz b2 HRu HS1 HE1 q1 HS2 HP
    generalize hcd : (ckG gs).2 = cd at tz ⊢
    have HCD := (show Hid ((ckG gs).2 = cd) from hcd)
    clear hcd
    go_wp2_with fail
    have HQ := (show Hid _ from HT.out _ rfl)
    refine ret_vx2 (s := 2) (t := 3) (b := w.heap.size + 1) (x := .int .i64 cd) (by rfl) (by rfl) (by rfl) (by rfl) HQ.out.1 ?_
    exact ⟨⟨fun _ => by rw [HCD.out], fun q => absurd q HZ.out⟩, HQ.out.2⟩
end Go.Proofs.YtbipjdgholdhcabGreat.N

namespace Go.Proofs.YtbipjdgholdhcabGreat.N
open Go.RowKit Go.Maps
open Go.Proofs.YtbipjdgholdhcabGreat.T
/-- Marks, as they are handed on. -/
def mkL (f : Nat → Bool) : List Value := (List.range 200).map fun q => .bool (f q)
def mkA (f : Nat → Bool) : Array Value := (mkL f).toArray
theorem mkL_len (f : Nat → Bool) : (mkL f).length = 200 := by unfold mkL; rw [List.length_map, List.length_range]
theorem mkA_size (f : Nat → Bool) : (mkA f).size = 200 := by unfold mkA; rw [List.size_toArray, mkL_len]
theorem mkL_one (f : Nat → Bool) : ∀ v ∈ mkL f, v.oneCell' = true := fun v hv => by
  unfold mkL at hv
  obtain ⟨q, _, rfl⟩ := List.mem_map.1 hv
  rfl
theorem mkA_one (f : Nat → Bool) : (mkA f).all (·.oneCell') = true := all_oneCell_toArray (mkL_one f)
theorem mkL_get (f : Nat → Bool) {q : Nat} (h : q < 200) : (mkL f)[q]? = some (.bool (f q)) := by
  unfold mkL
  rw [List.getElem?_map, List.getElem?_range h]
  rfl
theorem mkA_get (f : Nat → Bool) {q : Nat} (h : q < 200) : (mkA f)[q]? = some (.bool (f q)) := by
  unfold mkA
  rw [List.getElem?_toArray, mkL_get f h]
theorem mkA_ext {f g : Nat → Bool} (h : ∀ q, q < 200 → f q = g q) : mkA f = mkA g := by
  unfold mkA mkL
  congr 1
  exact List.map_congr_left fun q hq => by rw [h q (List.mem_range.1 hq)]
theorem Tryz.size87 : (Tryz.prog.info? 87).map (·.size) = some 200 := by kernel_rfl
theorem Tryz.zeros87 : (Tryz.prog.info? 87).map (fun i => (i.zero, i.size)) = some (some (.agg (mkA fun _ => false)), 200) := by kernel_rfl
theorem zero_mk (w : World) : (zeroValue 87).run Tryz.prog w = .ok (.agg (mkA fun _ => false)) w := (zero_of_info Tryz.zeros87).1 w
/-- Marks in a box. -/
structure MX (W : World) (b : Nat) (f : Nat → Bool) : Prop where
  heap : W.heap[b]? = some (.cells (mkA f) 87 (0, 0))
theorem MX.lt {W : World} {b : Nat} {f : Nat → Bool} (h : MX W b f) : b < W.heap.size := (Array.getElem?_eq_some_iff.1 h.heap).1
theorem MX.same {W W' : World} {b : Nat} {f : Nat → Bool} (h : MX W b f) (hb : W'.heap[b]? = W.heap[b]?) : MX W' b f := ⟨hb.trans h.heap⟩
theorem MX.below {W W' : World} {b : Nat} {f : Nat → Bool} (h : MX W b f) (hb : Below W.heap.size W W') : MX W' b f := h.same (hb.block b h.lt)
theorem MX.cl {W : World} {b : Nat} {f : Nat → Bool} (h : MX W b f) {q : Nat} (hq : q < 200) : W.cell? ⟨b, q, none⟩ = some (.bool (f q)) := by rw [cell_of_row W b q _ 87 (0, 0) h.heap, mkA_get f hq]
theorem MX.fz {W : World} {b : Nat} {f : Nat → Bool} (h : MX W b f) (q : Nat) : W.frozen? ⟨b, q, none⟩ = false := frozen_of_row W b q _ 87 h.heap
theorem MX.at' {W : World} {b : Nat} {f : Nat → Bool} (h : MX W b f) : W.rangeAt b 0 (mkL f) := fun j v hv => by
  have hj := (List.getElem?_eq_some_iff.1 hv).1
  rw [mkL_len] at hj
  rw [mkL_get f hj] at hv
  cases hv
  rw [Nat.zero_add]
  exact h.cl hj
theorem MX.new (W : World) (f : Nat → Bool) : MX (W.alloc (.cells (mkA f) 87)) W.heap.size f := ⟨heap_alloc_new W _⟩
def upM (f : Nat → Bool) (r : Nat) (v : Bool) : Nat → Bool := fun q => if q = r then v else f q
theorem MX.set {W : World} {b r : Nat} {f : Nat → Bool} (h : MX W b f) (v : Bool) : MX (W.setCell ⟨b, r, none⟩ (.bool v)) b (upM f r v) := ⟨by
  rw [heap_setCell_same _ b r _ 87 _ h.heap]
  congr 2
  apply Array.ext_getElem?
  intro q
  rw [Array.getElem?_setIfInBounds]
  by_cases hq : q < 200
  · rw [mkA_get (upM f r v) hq]
    by_cases e : r = q
    · subst e
      rw [if_pos rfl, if_pos (by rw [mkA_size]; exact hq)]
      unfold upM
      rw [if_pos rfl]
    · rw [if_neg e, mkA_get f hq]
      unfold upM
      rw [if_neg (Ne.symm e)]
  · rw [Array.getElem?_eq_none (xs := mkA (upM f r v)) (by rw [mkA_size]; omega)]
    split
    · split
      · next h1 h2 => rw [mkA_size] at h2; omega
      · rfl
    · rw [Array.getElem?_eq_none (by rw [mkA_size]; omega)]⟩
theorem MX.all {W : World} {b : Nat} {f : Nat → Bool} (h : MX W b f) (g : Nat → Bool) : MX (W.setRow b (mkA g)) b g := ⟨setRow_heap W b _ _ 87 (0, 0) h.heap⟩
/-- A whole list of marks is written into its box. -/
theorem wpList_storeM {ops : Array Oper} {rest : List Oper} {op : Oper} {a : Act} {w : World} {Q : Exit → Act → World → Prop} (hgd : op.guard = none) (x y : Operand) (ho : op.op = .store 87 x y) (b : Nat) (f g : Nat → Bool) (hx : a.eval x = .pointer (some ⟨b, 0, none⟩)) (hy : a.eval y = .agg (mkA g)) (hm : MX w b f)
    (h : wpList Tryz.prog ops Q rest (a.put op.dst undef) (w.setRow b (mkA g))) : wpList Tryz.prog ops Q (op :: rest) a w := by
  refine wpList_plain hgd fun K hK => ?_
  have hr := run_storeVar_row (P := Tryz.prog) w b 87 87 (mkA f) (mkA g) hm.heap (by rw [mkA_size]; exact Tryz.size87) (by rw [mkA_size, mkA_size]) (mkA_one g)
  unfold Oper.wp execOp
  simp only [ho, hx, hy, Instr.storeAt, Instr.sureAddr, Sem.run_bind, Sem.run_pure, Result.andThen_ok, hr]
  exact hK _ _ h
/-- .. and read. -/
theorem wpList_loadM {ops : Array Oper} {rest : List Oper} {op : Oper} {a : Act} {w : World} {Q : Exit → Act → World → Prop} (hgd : op.guard = none) (x : Operand) (ho : op.op = .load 87 x) (b o : Nat) (f : Nat → Bool) (hx : a.eval x = .pointer (some ⟨b, o, none⟩)) (hm : w.rangeAt b o (mkL f))
    (h : wpList Tryz.prog ops Q rest (a.put op.dst (.agg (mkA f))) w) : wpList Tryz.prog ops Q (op :: rest) a w :=
  wpList_load_mid hgd 87 x ho b o hx (mkL f) (.array 200 4) hm Tryz.underlying87 rfl (by rw [mkL_len]; exact Tryz.size87) h
theorem ret_mx {s : Nat} {fn : Func} {R : Ending → World → Prop} {act : Act} {W : World} {b : Nat} {f : Nat → Bool} (hF : fn.results = #[.cell s 87]) (hd : act.defers = []) (h6 : act.tmps.getD s undef = .pointer (some ⟨b, 0, none⟩)) (hm : MX W b f) (hR : R (.returned (.agg (mkA f))) W) : bodyPost Tryz.prog fn R .ret act W := by
  refine bodyPost_ret (v := .agg (mkA f)) ?_ hd hR
  have hr := run_loadVar_row (P := Tryz.prog) W b 87 87 (mkA f) (0, 0) (.array 200 4) hm.heap Tryz.underlying87 rfl (by rw [mkA_size]; exact Tryz.size87)
  simp only [Array.getD_eq_getD_getElem?] at h6
  simp [results, hF, h6, asAddr, hr]
theorem index_mk (f : Nat → Bool) {k : Nat} (hk : k < 200) (W : World) : (Instr.index 87 (.agg (mkA f)) (.int .i64 (k : Int))).run Tryz.prog W = .ok (.bool (f k)) W := by
  have h := mkA_get f hk
  have hs := mkA_size f
  generalize mkA f = a at h hs
  have h0 : (0 : Int) ≤ (k : Int) := by omega
  have h1 : (k : Int) < 200 := by omega
  have h2 : ¬ 200 ≤ k := by omega
  simp [Instr.index, go_sem, h, h0, h2]
end Go.Proofs.YtbipjdgholdhcabGreat.N

namespace Go.Proofs.YtbipjdgholdhcabGreat.N
open Go.RowKit
/-- A walk of so many steps. -/
def St (c : Mx) (to : Nat) : Nat → Nat → Prop
  | 0, i => i = to
  | t + 1, i => ∃ k, c i k = true ∧ St c to t k
theorem St.trans {c : Mx} {k to b : Nat} (h2 : St c to b k) : ∀ {a i : Nat}, St c k a i → St c to (a + b) i := by
  intro a
  induction a with
  | zero => intro i h; have h : i = k := h; rw [h, Nat.zero_add]; exact h2
  | succ a ih =>
    intro i h
    obtain ⟨q, h1, h3⟩ := h
    rw [show a + 1 + b = (a + b) + 1 from by omega]
    exact ⟨q, h1, ih h3⟩
theorem St.one {c : Mx} {to i : Nat} : St c to 1 i ↔ c i to = true := by
  constructor
  · rintro ⟨k, h, e⟩
    have e : k = to := e
    rw [← e]; exact h
  · intro h
    exact ⟨to, h, rfl⟩
theorem St.rc {n : Nat} {c : Mx} (hc : ∀ i j, c i j = true → i < n ∧ j < n) {to : Nat} : ∀ (t : Nat) {i : Nat}, St c to (t + 1) i → Rc n c i to := by
  intro t
  induction t with
  | zero => intro i h; exact Rc.of (St.one.1 h)
  | succ t ih =>
    intro i h
    obtain ⟨k, h1, h2⟩ := h
    exact Rc.trans (hc i k h1).2 (Rc.of h1) (ih h2)
theorem St.of_rc {n : Nat} {c : Mx} {i j : Nat} (h : Rc n c i j) : ∃ t, St c j (t + 1) i := by
  refine Rc.least (d := fun i j => ∃ t, St c j (t + 1) i) (fun i j h => ⟨0, St.one.2 h⟩) (fun i k j _ h1 h2 => ?_) h
  obtain ⟨a, h1⟩ := h1
  obtain ⟨b, h2⟩ := h2
  exact ⟨a + 1 + b, St.trans h2 h1⟩
/-- The shortest walk has so many steps (one at least). -/
def Ds (c : Mx) (to t i : Nat) : Prop := 0 < t ∧ St c to t i ∧ ∀ s, 0 < s → s < t → ¬ St c to s i
theorem Ds.one {c : Mx} {to a b i : Nat} (h : Ds c to a i) (g : Ds c to b i) : a = b := by
  rcases Nat.lt_trichotomy a b with q | q | q
  · exact absurd h.2.1 (g.2.2 a h.1 q)
  · exact q
  · exact absurd g.2.1 (h.2.2 b g.1 q)
theorem Ds.of {c : Mx} {to i : Nat} : ∀ (m t : Nat), t ≤ m → 0 < t → St c to t i → ∃ s, s ≤ t ∧ Ds c to s i := by
  intro m
  induction m with
  | zero => intro t h h0; omega
  | succ m ih =>
    intro t h h0 hs
    by_cases q : ∃ s, 0 < s ∧ s < t ∧ St c to s i
    · obtain ⟨s, q1, q2, q3⟩ := q
      obtain ⟨u, u1, u2⟩ := ih s (by omega) q1 q3
      exact ⟨u, by omega, u2⟩
    · exact ⟨t, Nat.le_refl _, h0, hs, fun s q1 q2 q3 => q ⟨s, q1, q2, q3⟩⟩
theorem Ds.up {c : Mx} {to t i k : Nat} (h : c i k = true) (hd : Ds c to t k) : ∃ s, s ≤ t + 1 ∧ Ds c to s i := Ds.of (t + 1) (t + 1) (Nat.le_refl _) (by omega) ⟨k, h, hd.2.1⟩
theorem Ds.next {c : Mx} {to t i : Nat} (h : Ds c to (t + 1) i) (h0 : 0 < t) : ∃ k, c i k = true ∧ Ds c to t k := by
  obtain ⟨k, h1, h2⟩ := h.2.1
  obtain ⟨s, s1, s2⟩ := Ds.of t t (Nat.le_refl _) h0 h2
  by_cases e : s = t
  · subst e; exact ⟨k, h1, s2⟩
  · exact absurd ⟨k, h1, s2.2.1⟩ (h.2.2 (s + 1) (by omega) (by omega))
theorem Ds.first {c : Mx} {to i : Nat} : Ds c to 1 i ↔ c i to = true := by
  constructor
  · intro h; exact St.one.1 h.2.1
  · intro h; exact ⟨by omega, St.one.2 h, fun s _ _ => by omega⟩
theorem Ds.lt {n : Nat} {c : Mx} (hc : ∀ i j, c i j = true → i < n ∧ j < n) {to t i : Nat} (h : Ds c to t i) : i < n ∧ to < n := by
  have h0 := h.1
  obtain ⟨s, rfl⟩ : ∃ s, t = s + 1 := ⟨t - 1, by omega⟩
  have := St.rc hc s h.2.1
  exact Rc.least (d := fun i j => i < n ∧ j < n) hc (fun _ _ _ _ a b => ⟨a.1, b.2⟩) this
theorem Ds.chain {n : Nat} {c : Mx} (hc : ∀ i j, c i j = true → i < n ∧ j < n) {to : Nat} : ∀ (t : Nat) {i : Nat}, Ds c to (t + 1) i → ∃ l : List Nat, l.length = t + 1 ∧ l.Nodup ∧ ∀ x ∈ l, x < n ∧ ∃ s, s ≤ t + 1 ∧ Ds c to s x := by
  intro t
  induction t with
  | zero => intro i h; exact ⟨[i], rfl, List.nodup_cons.2 ⟨by simp, List.nodup_nil⟩, fun x hx => by rw [List.mem_singleton.1 hx]; exact ⟨(h.lt hc).1, 1, Nat.le_refl _, h⟩⟩
  | succ t ih =>
    intro i h
    obtain ⟨k, _, h2⟩ := h.next (by omega)
    obtain ⟨l, l1, l2, l3⟩ := ih h2
    refine ⟨i :: l, by rw [List.length_cons, l1], List.nodup_cons.2 ⟨fun q => ?_, l2⟩, fun x hx => ?_⟩
    · obtain ⟨_, s, s1, s2⟩ := l3 i q
      have := s2.one h
      omega
    · rcases List.mem_cons.1 hx with e | e
      · rw [e]; exact ⟨(h.lt hc).1, t + 1 + 1, Nat.le_refl _, h⟩
      · obtain ⟨a, s, s1, s2⟩ := l3 x e
        exact ⟨a, s, by omega, s2⟩
theorem Ds.few {n : Nat} {c : Mx} (hc : ∀ i j, c i j = true → i < n ∧ j < n) {to t i : Nat} (h : Ds c to t i) : t ≤ n := by
  have h0 := h.1
  obtain ⟨s, rfl⟩ : ∃ s, t = s + 1 := ⟨t - 1, by omega⟩
  obtain ⟨l, l1, l2, l3⟩ := Ds.chain hc s h
  rw [← l1]
  exact few_below n l l2 (fun x hx => (l3 x hx).1)
theorem Ds.of_rc {n : Nat} {c : Mx} {i j : Nat} (h : Rc n c i j) : ∃ t, Ds c j t i := by
  obtain ⟨t, ht⟩ := St.of_rc h
  obtain ⟨s, _, hs⟩ := Ds.of (t + 1) (t + 1) (Nat.le_refl _) (by omega) ht
  exact ⟨s, hs⟩
theorem Ds.rc {n : Nat} {c : Mx} (hc : ∀ i j, c i j = true → i < n ∧ j < n) {to t i : Nat} (h : Ds c to t i) : Rc n c i to := by
  have h0 := h.1
  obtain ⟨s, rfl⟩ : ∃ s, t = s + 1 := ⟨t - 1, by omega⟩
  exact St.rc hc s h.2.1
/-- The way back: at each place the least rule from which what is left is so much. -/
structure PtI (c : Mx) (r m : Nat) (l : List Nat) : Prop where
  n : l.length = m
  h : l[0]? = some r
  s : ∀ (i : Nat) x y, l[i]? = some x → l[i + 1]? = some y → c x y = true ∧ Ds c r (m - (i + 1)) y ∧ ∀ k, c x k = true → Ds c r (m - (i + 1)) k → y ≤ k
theorem least_of {p : Nat → Prop} : ∀ (n k : Nat), k < n → p k → ∃ y, p y ∧ ∀ k, p k → y ≤ k := by
  intro n
  induction n with
  | zero => intro k h; omega
  | succ n ih =>
    intro k h hp
    by_cases q : ∃ j, j < k ∧ p j
    · obtain ⟨j, q1, q2⟩ := q
      exact ih j (by omega) q2
    · exact ⟨k, hp, fun j hj => Nat.le_of_not_lt fun e => q ⟨j, e, hj⟩⟩
theorem ptI_ex {c : Mx} {r : Nat} : ∀ (t m x : Nat), Ds c r (t + 1) x → t < m → ∃ l : List Nat, l.length = t + 1 ∧ l[0]? = some x ∧ ∀ (i : Nat) x y, l[i]? = some x → l[i + 1]? = some y → c x y = true ∧ Ds c r (t - i) y ∧ ∀ k, c x k = true → Ds c r (t - i) k → y ≤ k := by
  intro t
  induction t with
  | zero =>
    intro m x _ _
    exact ⟨[x], rfl, rfl, fun i a b _ h => by
      have := (List.getElem?_eq_some_iff.1 h).1
      simp at this⟩
  | succ t ih =>
    intro m x hd hm
    obtain ⟨k, k1, k2⟩ := hd.next (by omega)
    obtain ⟨y, ⟨y1, y2⟩, y3⟩ := least_of (p := fun k => c x k = true ∧ Ds c r (t + 1) k) (k + 1) k (by omega) ⟨k1, k2⟩
    obtain ⟨l, l1, l2, l3⟩ := ih m y y2 (by omega)
    refine ⟨x :: l, by rw [List.length_cons, l1], rfl, fun i a b ha hb => ?_⟩
    cases i with
    | zero =>
      have ha : some x = some a := ha
      cases ha
      have hb : l[0]? = some b := hb
      rw [l2] at hb
      cases hb
      exact ⟨y1, y2, fun k q1 q2 => y3 k ⟨q1, q2⟩⟩
    | succ i =>
      have ha : l[i]? = some a := ha
      have hb : l[i + 1]? = some b := hb
      have := l3 i a b ha hb
      rw [show t + 1 - (i + 1) = t - i from by omega]
      exact this
theorem PtI.ex {c : Mx} {r m : Nat} (hd : Ds c r m r) : ∃ l, PtI c r m l := by
  have h0 := hd.1
  obtain ⟨t, rfl⟩ : ∃ t, m = t + 1 := ⟨m - 1, by omega⟩
  obtain ⟨l, l1, l2, l3⟩ := ptI_ex t (t + 1) r hd (by omega)
  refine ⟨l, l1, l2, fun i x y hx hy => ?_⟩
  rw [show t + 1 - (i + 1) = t - i from by omega]
  exact l3 i x y hx hy
theorem PtI.ds {c : Mx} {r m : Nat} {l : List Nat} (h : PtI c r m l) (hd : Ds c r m r) {i x : Nat} (hx : l[i]? = some x) : Ds c r (m - i) x := by
  cases i with
  | zero =>
    rw [h.h] at hx
    cases hx
    exact hd
  | succ i =>
    have hi := (List.getElem?_eq_some_iff.1 hx).1
    exact (h.s i l[i] x (List.getElem?_eq_getElem (by omega)) hx).2.1
theorem PtI.one {c : Mx} {r m : Nat} {l g : List Nat} (h : PtI c r m l) (k : PtI c r m g) : l = g := by
  have key : ∀ (i : Nat), i < m → l[i]? = g[i]? := fun i => by
    induction i with
    | zero => intro _; rw [h.h, k.h]
    | succ i ih =>
      intro hi
      have n1 := h.n
      have n2 := k.n
      have e1 : l[i]? = some l[i] := List.getElem?_eq_getElem (by rw [h.n]; omega)
      have e2 := e1
      rw [ih (by omega)] at e2
      have f1 : l[i + 1]? = some l[i + 1] := List.getElem?_eq_getElem (by rw [h.n]; omega)
      have f2 : g[i + 1]? = some g[i + 1] := List.getElem?_eq_getElem (by rw [k.n]; omega)
      have a := h.s i _ _ e1 f1
      have b := k.s i _ _ e2 f2
      have := a.2.2 _ b.1 b.2.1
      have := b.2.2 _ a.1 a.2.1
      rw [f1, f2]
      congr 1
      omega
  apply List.ext_getElem?
  intro i
  by_cases q : i < m
  · exact key i q
  · rw [List.getElem?_eq_none (by rw [h.n]; omega), List.getElem?_eq_none (by rw [k.n]; omega)]
/-- What a grammar's cycle is: of the least rule that comes back to itself. -/
def CyR (n : Nat) (c : Mx) (l : List Nat) : Prop := (l = [] ∧ ∀ r, ¬ Rc n c r r) ∨ ∃ r m, Ds c r m r ∧ (∀ q, q < r → ¬ Rc n c q q) ∧ PtI c r m l
theorem CyR.one {n : Nat} {c : Mx} (hc : ∀ i j, c i j = true → i < n ∧ j < n) {l g : List Nat} (h : CyR n c l) (k : CyR n c g) : l = g := by
  rcases h with ⟨h1, h2⟩ | ⟨r, m, h1, h2, h3⟩
  · rcases k with ⟨k1, _⟩ | ⟨s, o, k1, _, _⟩
    · rw [h1, k1]
    · exact absurd (k1.rc hc) (h2 s)
  · rcases k with ⟨_, k2⟩ | ⟨s, o, k1, k2, k3⟩
    · exact absurd (h1.rc hc) (k2 r)
    · rcases Nat.lt_trichotomy r s with q | q | q
      · exact absurd (h1.rc hc) (k2 r q)
      · subst q
        have e := h1.one k1
        subst e
        exact h3.one k3
      · exact absurd (k1.rc hc) (h2 s q)
theorem CyR.nil {n : Nat} {c : Mx} (hc : ∀ i j, c i j = true → i < n ∧ j < n) {l : List Nat} (h : CyR n c l) : l = [] ↔ ∀ r, ¬ Rc n c r r := by
  rcases h with ⟨h1, h2⟩ | ⟨r, m, h1, h2, h3⟩
  · exact ⟨fun _ => h2, fun _ => h1⟩
  · constructor
    · intro e
      have := h3.n
      have := h1.1
      rw [e] at *
      simp at *
      omega
    · intro q
      exact absurd (h1.rc hc) (q r)
/-- Rules are come to, shorter ways first. come: in their order; pi: by which place each was come to; of those ahead of place a all heads are looked at, of that one's those below b. -/
structure BfI (n : Nat) (c : Mx) (r : Nat) (come pi : List Nat) (a b : Nat) : Prop where
  z : come[0]? = some r
  lp : pi.length = come.length
  nd : come.Nodup
  lt : ∀ x ∈ come, x < n
  p : ∀ (j : Nat) x, 0 < j → come[j]? = some x → ∃ i y, pi[j]? = some i ∧ i < j ∧ come[i]? = some y ∧ c y x = true ∧ (i < a ∨ i = a ∧ x < b)
  mo : ∀ (j k i i2 : Nat), 0 < j → j < k → pi[j]? = some i → pi[k]? = some i2 → i ≤ i2 ∧ (i = i2 → ∀ x y, come[j]? = some x → come[k]? = some y → x < y)
  h : ∀ (i : Nat) y k, come[i]? = some y → c y k = true → (i < a ∨ i = a ∧ k < b) → k ≠ r ∧ ∃ j i2 : Nat, come[j]? = some k ∧ 0 < j ∧ pi[j]? = some i2 ∧ i2 ≤ i
theorem BfI.start {n : Nat} {c : Mx} {r : Nat} (hr : r < n) : BfI n c r [r] [0] 0 0 := by
  refine ⟨rfl, rfl, List.nodup_cons.2 ⟨by simp, List.nodup_nil⟩, fun x hx => by rw [List.mem_singleton.1 hx]; exact hr, fun j x h0 hx => ?_, fun j k i i2 h0 hj hi hk => ?_, fun i y k _ _ h => ?_⟩
  · have := (List.getElem?_eq_some_iff.1 hx).1
    simp at this
    omega
  · have := (List.getElem?_eq_some_iff.1 hk).1
    simp at this
    omega
  · omega
theorem BfI.few {n : Nat} {c : Mx} {r : Nat} {come pi : List Nat} {a b : Nat} (h : BfI n c r come pi a b) : come.length ≤ n := few_below n come h.nd h.lt
theorem BfI.skip {n : Nat} {c : Mx} {r : Nat} {come pi : List Nat} {a b b2 y : Nat} (h : BfI n c r come pi a b) (hy : come[a]? = some y) (hb : b ≤ b2) (hk : ∀ k, b ≤ k → k < b2 → c y k = false) : BfI n c r come pi a b2 := by
  refine ⟨h.z, h.lp, h.nd, h.lt, fun j x h0 hx => ?_, h.mo, fun i z k hz hc hi => ?_⟩
  · obtain ⟨i, y2, p1, p2, p3, p4, p5⟩ := h.p j x h0 hx
    exact ⟨i, y2, p1, p2, p3, p4, by omega⟩
  · refine h.h i z k hz hc ?_
    rcases hi with e | ⟨e, q⟩
    · exact .inl e
    · subst e
      rw [hy] at hz
      cases hz
      by_cases w : k < b
      · exact .inr ⟨rfl, w⟩
      · rw [hk k (by omega) q] at hc
        cases hc
theorem BfI.next {n : Nat} {c : Mx} {r : Nat} {come pi : List Nat} {a b y : Nat} (h : BfI n c r come pi a b) (hy : come[a]? = some y) (hk : ∀ k, b ≤ k → c y k = false) : BfI n c r come pi (a + 1) 0 := by
  refine ⟨h.z, h.lp, h.nd, h.lt, fun j x h0 hx => ?_, h.mo, fun i z k hz hc hi => ?_⟩
  · obtain ⟨i, y2, p1, p2, p3, p4, p5⟩ := h.p j x h0 hx
    exact ⟨i, y2, p1, p2, p3, p4, by omega⟩
  · refine h.h i z k hz hc ?_
    by_cases e : i = a
    · subst e
      rw [hy] at hz
      cases hz
      by_cases w : k < b
      · exact .inr ⟨rfl, w⟩
      · rw [hk k (by omega)] at hc
        cases hc
    · omega
theorem BfI.old {n : Nat} {c : Mx} {r : Nat} {come pi : List Nat} {a k y : Nat} (h : BfI n c r come pi a k) (hy : come[a]? = some y) (hr : k ≠ r) (hm : k ∈ come) : BfI n c r come pi a (k + 1) := by
  refine ⟨h.z, h.lp, h.nd, h.lt, fun j x h0 hx => ?_, h.mo, fun i z q hz hc hi => ?_⟩
  · obtain ⟨i, y2, p1, p2, p3, p4, p5⟩ := h.p j x h0 hx
    exact ⟨i, y2, p1, p2, p3, p4, by omega⟩
  · by_cases e : i = a ∧ q = k
    · obtain ⟨rfl, rfl⟩ := e
      refine ⟨hr, ?_⟩
      obtain ⟨j, hj⟩ := List.getElem?_of_mem hm
      have j0 : 0 < j := by
        rcases Nat.eq_zero_or_pos j with e | e
        · subst e
          rw [h.z] at hj
          cases hj
          exact absurd rfl hr
        · exact e
      obtain ⟨i2, y2, p1, p2, p3, p4, p5⟩ := h.p j q j0 hj
      exact ⟨j, i2, hj, j0, p1, by omega⟩
    · exact h.h i z q hz hc (by omega)
theorem BfI.push {n : Nat} {c : Mx} {r : Nat} {come pi : List Nat} {a k y : Nat} (hc : ∀ i j, c i j = true → i < n ∧ j < n) (h : BfI n c r come pi a k) (hy : come[a]? = some y) (hr : k ≠ r) (hk : c y k = true) (hm : k ∉ come) : BfI n c r (come ++ [k]) (pi ++ [a]) a (k + 1) := by
  have ha := (List.getElem?_eq_some_iff.1 hy).1
  have hlp := h.lp
  have old : ∀ (j : Nat) x, (come ++ [k])[j]? = some x → j < come.length → come[j]? = some x := fun j x hx hj => by rwa [List.getElem?_append_left hj] at hx
  have new : ∀ (j : Nat) x, (come ++ [k])[j]? = some x → ¬ j < come.length → j = come.length ∧ x = k := fun j x hx hj => by
    have := (List.getElem?_eq_some_iff.1 hx).1
    rw [List.length_append, List.length_singleton] at this
    have e : j = come.length := by omega
    subst e
    rw [List.getElem?_append_right (Nat.le_refl _), Nat.sub_self] at hx
    cases hx
    exact ⟨rfl, rfl⟩
  have oldp : ∀ (j : Nat) x, (pi ++ [a])[j]? = some x → j < come.length → pi[j]? = some x := fun j x hx hj => by rwa [List.getElem?_append_left (by omega)] at hx
  have newp : ∀ (j : Nat) x, (pi ++ [a])[j]? = some x → ¬ j < come.length → j = come.length ∧ x = a := fun j x hx hj => by
    have := (List.getElem?_eq_some_iff.1 hx).1
    rw [List.length_append, List.length_singleton] at this
    have e : j = pi.length := by omega
    subst e
    rw [List.getElem?_append_right (Nat.le_refl _), Nat.sub_self] at hx
    cases hx
    exact ⟨hlp, rfl⟩
  have up : ∀ (j : Nat) x, come[j]? = some x → (come ++ [k])[j]? = some x := fun j x hx => by
    rw [List.getElem?_append_left (List.getElem?_eq_some_iff.1 hx).1]; exact hx
  have upp : ∀ (j : Nat) x, pi[j]? = some x → (pi ++ [a])[j]? = some x := fun j x hx => by
    rw [List.getElem?_append_left (List.getElem?_eq_some_iff.1 hx).1]; exact hx
  refine ⟨up _ _ h.z, by rw [List.length_append, List.length_append, hlp]; rfl, ?_, fun x hx => ?_, fun j x h0 hx => ?_, fun j q i i2 h0 hj hi hq => ?_, fun i z q hz hcz hi => ?_⟩
  · rw [List.nodup_append]
    refine ⟨h.nd, List.nodup_cons.2 ⟨by simp, List.nodup_nil⟩, fun x hx z hz e => ?_⟩
    rw [List.mem_singleton.1 hz] at e
    subst e
    exact hm hx
  · rcases List.mem_append.1 hx with e | e
    · exact h.lt x e
    · rw [List.mem_singleton.1 e]; exact (hc y k hk).2
  · by_cases e : j < come.length
    · obtain ⟨i, y2, p1, p2, p3, p4, p5⟩ := h.p j x h0 (old j x hx e)
      exact ⟨i, y2, upp _ _ p1, p2, up _ _ p3, p4, by omega⟩
    · obtain ⟨rfl, rfl⟩ := new j x hx e
      exact ⟨a, y, by rw [← hlp, List.getElem?_append_right (Nat.le_refl _), Nat.sub_self]; rfl, ha, up _ _ hy, hk, .inr ⟨rfl, by omega⟩⟩
  · have hjl : j < come.length := by
      have := (List.getElem?_eq_some_iff.1 hq).1
      rw [List.length_append, List.length_singleton] at this
      omega
    have hi2 := oldp j i hi hjl
    by_cases e : q < come.length
    · obtain ⟨m1, m2⟩ := h.mo j q i i2 h0 hj hi2 (oldp q i2 hq e)
      exact ⟨m1, fun e2 x z hx hz => m2 e2 x z (old j x hx hjl) (old q z hz e)⟩
    · obtain ⟨rfl, rfl⟩ := newp q i2 hq e
      have ej : come[j]? = some come[j] := List.getElem?_eq_getElem hjl
      obtain ⟨i3, y2, p1, p2, p3, p4, p5⟩ := h.p j _ h0 ej
      rw [hi2] at p1
      cases p1
      refine ⟨by omega, fun e2 x z hx hz => ?_⟩
      obtain ⟨_, rfl⟩ := new _ z hz e
      have hx := old j x hx hjl
      rw [ej] at hx
      have hx : come[j] = x := Option.some.inj hx
      omega
  · have hzl : i < come.length := by omega
    have hz := old i z hz hzl
    by_cases e : i = a ∧ q = k
    · obtain ⟨rfl, rfl⟩ := e
      exact ⟨hr, come.length, i, by rw [List.getElem?_append_right (Nat.le_refl _), Nat.sub_self]; rfl, by omega, by rw [← hlp, List.getElem?_append_right (Nat.le_refl _), Nat.sub_self]; rfl, Nat.le_refl _⟩
    · obtain ⟨g1, j, i2, g2, g3, g4, g5⟩ := h.h i z q hz hcz (by omega)
      exact ⟨g1, j, i2, up _ _ g2, g3, upp _ _ g4, g5⟩
/-- None comes back. -/
theorem BfI.none {n : Nat} {c : Mx} {r : Nat} {come pi : List Nat} (_hc : ∀ i j, c i j = true → i < n ∧ j < n) (h : BfI n c r come pi come.length 0) : ¬ Rc n c r r := by
  have key : ∀ (t i x : Nat), come[i]? = some x → ¬ St c r (t + 1) x := by
    intro t
    induction t with
    | zero =>
      intro i x hx hs
      exact (h.h i x r hx (St.one.1 hs) (.inl (List.getElem?_eq_some_iff.1 hx).1)).1 rfl
    | succ t ih =>
      intro i x hx hs
      obtain ⟨k, k1, k2⟩ := hs
      obtain ⟨_, j, _, hj, _⟩ := h.h i x k hx k1 (.inl (List.getElem?_eq_some_iff.1 hx).1)
      exact ih j k hj k2
  intro q
  obtain ⟨t, ht⟩ := St.of_rc q
  exact key t 0 r h.z ht
/-- The first that comes back stands at the end of the way that the document tells; each stands ahead of the next on it. -/
theorem BfI.found {n : Nat} {c : Mx} {r m : Nat} {come pi l : List Nat} {a b y : Nat} (h : BfI n c r come pi a b) (hy : come[a]? = some y) (hyr : c y r = true) (hd : Ds c r m r) (hl : PtI c r m l) :
    l[m - 1]? = some y ∧ ∀ (i : Nat) x z, l[i]? = some x → l[i + 1]? = some z → z ≠ r ∧ ∃ j i2 : Nat, come[j]? = some z ∧ 0 < j ∧ pi[j]? = some i2 ∧ come[i2]? = some x := by
  have m0 := hd.1
  have key : ∀ (i : Nat), i < m → ∃ j x : Nat, l[i]? = some x ∧ come[j]? = some x ∧ j ≤ a ∧ (∀ (k : Nat) z s, come[k]? = some z → Ds c r s z → s ≤ m - i → j ≤ k) ∧ ∀ i0 x0, i = i0 + 1 → l[i0]? = some x0 → 0 < j ∧ ∃ i2 : Nat, pi[j]? = some i2 ∧ come[i2]? = some x0 := by
    intro i
    induction i with
    | zero =>
      intro _
      exact ⟨0, r, hl.h, h.z, Nat.zero_le _, fun _ _ _ _ _ _ => Nat.zero_le _, fun i0 x0 e => by omega⟩
    | succ i ih =>
      intro hi
      obtain ⟨j, x, x1, x2, x3, x4, _⟩ := ih (by omega)
      have hx := hl.ds hd x1
      have hja : j < a := by
        rcases Nat.lt_or_ge j a with q | q
        · exact q
        · have e : j = a := by omega
          subst e
          rw [hy] at x2
          cases x2
          have := hx.one (Ds.first.2 hyr)
          omega
      have n1 := hl.n
      have hz : l[i + 1]? = some l[i + 1] := List.getElem?_eq_getElem (by rw [hl.n]; exact hi)
      obtain ⟨z1, z2, z3⟩ := hl.s i x _ x1 hz
      obtain ⟨_, j2, i2, w1, w2, w3, w4⟩ := h.h j x _ x2 z1 (.inl hja)
      obtain ⟨i3, y3, p1, p2, p3, p4, _⟩ := h.p j2 _ w2 w1
      rw [w3] at p1
      cases p1
      obtain ⟨s, s1, s2⟩ := Ds.up p4 z2
      have := x4 i2 y3 s p3 s2 (by omega)
      have e : i2 = j := by omega
      subst e
      have least : ∀ (k : Nat) z s, come[k]? = some z → Ds c r s z → s ≤ m - (i + 1) → j2 ≤ k := by
        intro k z s hk hs hm
        have k0 : 0 < k := by
          rcases Nat.eq_zero_or_pos k with e | e
          · subst e
            rw [h.z] at hk
            cases hk
            have := hs.one hd
            omega
          · exact e
        obtain ⟨i4, y4, g1, g2, g3, g4, _⟩ := h.p k z k0 hk
        obtain ⟨u, u1, u2⟩ := Ds.up g4 hs
        have hge := x4 i4 y4 u g3 u2 (by omega)
        rcases Nat.lt_or_ge k j2 with q | q
        · obtain ⟨m1, m2⟩ := h.mo k j2 i4 i2 k0 q g1 w3
          have e : i4 = i2 := by omega
          subst e
          have hlt := m2 rfl z _ hk w1
          rw [x2] at g3
          cases g3
          have := u2.one hx
          have e2 : s = m - (i + 1) := by omega
          subst e2
          have := z3 z g4 hs
          omega
        · exact q
      have hle : j2 ≤ a := least a y 1 hy (Ds.first.2 hyr) (by omega)
      refine ⟨j2, _, hz, w1, hle, least, fun i0 x0 e hx0 => ?_⟩
      have : i = i0 := by omega
      subst this
      rw [x1] at hx0
      cases hx0
      exact ⟨w2, i2, w3, x2⟩
  refine ⟨?_, fun i x z hx hz => ?_⟩
  · obtain ⟨j, x, x1, x2, x3, x4, _⟩ := key (m - 1) (by omega)
    have hx := hl.ds hd x1
    rw [show m - (m - 1) = 1 from by omega] at hx
    rcases Nat.lt_or_ge j a with q | q
    · exact absurd rfl (h.h j x r x2 (Ds.first.1 hx) (.inl q)).1
    · have e : j = a := by omega
      subst e
      rw [hy] at x2
      cases x2
      exact x1
  · have hi := (List.getElem?_eq_some_iff.1 hz).1
    have hzd := hl.ds hd hz
    refine ⟨fun e => ?_, ?_⟩
    · subst e
      have := hzd.one hd
      rw [hl.n] at hi
      omega
    · obtain ⟨j, x2, x3, x4, _, _, x5⟩ := key (i + 1) (by rw [← hl.n]; exact hi)
      rw [hz] at x3
      cases x3
      obtain ⟨q1, i2, q2, q3⟩ := x5 i x rfl hx
      exact ⟨j, i2, x4, q1, q2, q3⟩
end Go.Proofs.YtbipjdgholdhcabGreat.N

namespace Go.Proofs.YtbipjdgholdhcabGreat.N
open Go.RowKit Go.Maps
open Go.Proofs.YtbipjdgholdhcabGreat.T
/-- While the heads of the rule at place a are gone through: q of them are done. -/
def BfQ (n : Nat) (c : Mx) (r : Nat) (come pi : List Nat) (a y q : Nat) : Prop := come[a]? = some y ∧ ∃ b, BfI n c r come pi a b ∧ ∀ (i x : Nat), (hdl n c y)[i]? = some x → (i < q → x < b) ∧ (q ≤ i → b ≤ x)
theorem hdl_lt {n : Nat} {c : Mx} {y i j x z : Nat} (hi : (hdl n c y)[i]? = some x) (hj : (hdl n c y)[j]? = some z) (h : i < j) : x < z := by
  obtain ⟨l1, e1⟩ := List.getElem?_eq_some_iff.1 hi
  obtain ⟨l2, e2⟩ := List.getElem?_eq_some_iff.1 hj
  have := List.pairwise_iff_getElem.1 (hdl_up n c y) i j l1 l2 h
  rw [e1, e2] at this
  exact this
theorem BfQ.start {n : Nat} {c : Mx} {r : Nat} {come pi : List Nat} {a y : Nat} (h : BfI n c r come pi a 0) (hy : come[a]? = some y) : BfQ n c r come pi a y 0 := ⟨hy, 0, h, fun _i _x _ => ⟨fun q => absurd q (Nat.not_lt_zero _), fun _ => Nat.zero_le _⟩⟩
theorem BfQ.skip {n : Nat} {c : Mx} (hc : ∀ i j, c i j = true → i < n ∧ j < n) {r : Nat} {come pi : List Nat} {a y q k : Nat} (h : BfQ n c r come pi a y q) (hk : (hdl n c y)[q]? = some k) : BfI n c r come pi a k := by
  obtain ⟨hy, b, hb, hx⟩ := h
  refine hb.skip hy ((hx q k hk).2 (Nat.le_refl _)) (fun x h1 h2 => ?_)
  cases e : c y x with
  | false => rfl
  | true =>
    exfalso
    obtain ⟨i, hi⟩ := List.getElem?_of_mem ((hdl_mem hc).2 e)
    by_cases w : i < q
    · have := (hx i x hi).1 w; omega
    · by_cases w2 : i = q
      · subst w2; rw [hi] at hk; cases hk; omega
      · have := hdl_lt hk hi (by omega); omega
theorem bfq_next {n : Nat} {c : Mx} {y q k : Nat} (hk : (hdl n c y)[q]? = some k) : ∀ (i x : Nat), (hdl n c y)[i]? = some x → (i < q + 1 → x < k + 1) ∧ (q + 1 ≤ i → k + 1 ≤ x) := fun i x hi => by
  refine ⟨fun w => ?_, fun w => ?_⟩
  · by_cases e : i = q
    · subst e; rw [hi] at hk; cases hk; omega
    · have := hdl_lt hi hk (by omega); omega
  · have := hdl_lt hk hi (by omega); omega
theorem BfQ.old {n : Nat} {c : Mx} (hc : ∀ i j, c i j = true → i < n ∧ j < n) {r : Nat} {come pi : List Nat} {a y q k : Nat} (h : BfQ n c r come pi a y q) (hk : (hdl n c y)[q]? = some k) (hr : k ≠ r) (hm : k ∈ come) : BfQ n c r come pi a y (q + 1) := ⟨h.1, k + 1, (h.skip hc hk).old h.1 hr hm, bfq_next hk⟩
theorem BfQ.push {n : Nat} {c : Mx} (hc : ∀ i j, c i j = true → i < n ∧ j < n) {r : Nat} {come pi : List Nat} {a y q k : Nat} (h : BfQ n c r come pi a y q) (hk : (hdl n c y)[q]? = some k) (hr : k ≠ r) (hm : k ∉ come) : BfQ n c r (come ++ [k]) (pi ++ [a]) a y (q + 1) := by
  have hck : c y k = true := (hdl_mem hc).1 (List.mem_of_getElem? hk)
  refine ⟨?_, k + 1, BfI.push hc (h.skip hc hk) h.1 hr hck hm, bfq_next hk⟩
  rw [List.getElem?_append_left (List.getElem?_eq_some_iff.1 h.1).1]
  exact h.1
theorem BfQ.done {n : Nat} {c : Mx} (hc : ∀ i j, c i j = true → i < n ∧ j < n) {r : Nat} {come pi : List Nat} {a y : Nat} (h : BfQ n c r come pi a y (hdl n c y).length) : BfI n c r come pi (a + 1) 0 := by
  obtain ⟨hy, b, hb, hx⟩ := h
  refine hb.next hy (fun k hk => ?_)
  cases e : c y k with
  | false => rfl
  | true =>
    exfalso
    obtain ⟨i, hi⟩ := List.getElem?_of_mem ((hdl_mem hc).2 e)
    have := (hx i k hi).1 (List.getElem?_eq_some_iff.1 hi).1
    omega
/-- The arrays: who has been come to, and from whom. -/
structure WbA (r : Nat) (come pi : List Nat) (isC : Nat → Bool) (ah : Nat → Nat) : Prop where
  m : ∀ x, isC x = true ↔ (x ∈ come ∧ x ≠ r)
  a : ∀ (j x i y : Nat), 0 < j → come[j]? = some x → pi[j]? = some i → come[i]? = some y → ah x = y
theorem WbA.start (r : Nat) : WbA r [r] [0] (fun _ => false) (fun _ => 0) := by
  refine ⟨fun x => ⟨(fun h => by cases h), fun h => ?_⟩, fun j x i y h0 hx _ _ => ?_⟩
  · exact absurd (List.mem_singleton.1 h.1) h.2
  · have := (List.getElem?_eq_some_iff.1 hx).1
    simp at this
    omega
theorem WbA.push {r a y k : Nat} {come pi : List Nat} {isC : Nat → Bool} {ah : Nat → Nat} (h : WbA r come pi isC ah) (hl : pi.length = come.length) (hz : ∀ (j i : Nat), 0 < j → pi[j]? = some i → i < come.length) (hy : come[a]? = some y) (hk : k ∉ come) (hr : k ≠ r) : WbA r (come ++ [k]) (pi ++ [a]) (fun x => if x = k then true else isC x) (fun x => if x = k then y else ah x) := by
  have ha := (List.getElem?_eq_some_iff.1 hy).1
  refine ⟨fun x => ?_, fun j x i z h0 hx hi hz2 => ?_⟩
  · show (if x = k then true else isC x) = true ↔ _
    rw [List.mem_append, List.mem_singleton]
    by_cases e : x = k
    · rw [if_pos e]; exact ⟨fun _ => ⟨.inr e, by rw [e]; exact hr⟩, fun _ => rfl⟩
    · rw [if_neg e, h.m x]
      exact ⟨fun q => ⟨.inl q.1, q.2⟩, fun q => ⟨q.1.resolve_right e, q.2⟩⟩
  · show (if x = k then y else ah x) = z
    by_cases hj : j < come.length
    · rw [List.getElem?_append_left hj] at hx
      rw [List.getElem?_append_left (by omega)] at hi
      rw [List.getElem?_append_left (hz j i h0 hi)] at hz2
      rw [if_neg (fun e => hk (by rw [← e]; exact List.mem_of_getElem? hx))]
      exact h.a j x i z h0 hx hi hz2
    · have := (List.getElem?_eq_some_iff.1 hx).1
      rw [List.length_append, List.length_singleton] at this
      have e : j = come.length := by omega
      subst e
      rw [List.getElem?_append_right (Nat.le_refl _), Nat.sub_self] at hx
      rw [← hl, List.getElem?_append_right (Nat.le_refl _), Nat.sub_self] at hi
      cases hx
      cases hi
      rw [List.getElem?_append_left ha, hy] at hz2
      rw [if_pos rfl]
      exact Option.some.inj hz2
/-- Whatever is come to is come to. -/
theorem BfI.reach {n : Nat} {c : Mx} (hc : ∀ i j, c i j = true → i < n ∧ j < n) {r : Nat} {come pi : List Nat} {a b : Nat} (h : BfI n c r come pi a b) : ∀ (m j x : Nat), j < m → come[j]? = some x → x = r ∨ Rc n c r x := by
  intro m
  induction m with
  | zero => intro j x hj; omega
  | succ m ih =>
    intro j x hj hx
    by_cases j0 : 0 < j
    · obtain ⟨i, y, _, p2, p3, p4, _⟩ := h.p j x j0 hx
      rcases ih i y (by omega) p3 with e | e
      · rw [e] at p4; exact .inr (Rc.of p4)
      · exact .inr (Rc.trans (hc y x p4).1 e (Rc.of p4))
    · have e : j = 0 := by omega
      subst e
      rw [h.z] at hx
      exact .inl (Option.some.inj hx).symm
/-- What a rule's way back is. -/
def WyB (n : Nat) (c : Mx) (r : Nat) (l : List Nat) : Prop := (l = [] ∧ ¬ Rc n c r r) ∨ ∃ m, Ds c r m r ∧ PtI c r m l
/-- From the last one back along the arrays. -/
theorem WbA.back {n : Nat} {c : Mx} {r m a b y : Nat} {come pi l : List Nat} {isC : Nat → Bool} {ah : Nat → Nat} (hw : WbA r come pi isC ah) (h : BfI n c r come pi a b) (hy : come[a]? = some y) (hyr : c y r = true) (hd : Ds c r m r) (hl : PtI c r m l) : l[m - 1]? = some y ∧ ∀ (i x z : Nat), l[i]? = some x → l[i + 1]? = some z → z ≠ r ∧ z < n ∧ ah z = x := by
  obtain ⟨h1, h2⟩ := h.found hy hyr hd hl
  refine ⟨h1, fun i x z hx hz => ?_⟩
  obtain ⟨q, j, i2, q1, q2, q3, q4⟩ := h2 i x z hx hz
  exact ⟨q, h.lt z (List.mem_of_getElem? q1), hw.a j z i2 x q2 q1 q3 q4⟩
end Go.Proofs.YtbipjdgholdhcabGreat.N

namespace Go.Proofs.YtbipjdgholdhcabGreat.N
open Go.RowKit Go.Maps
open Go.Proofs.YtbipjdgholdhcabGreat.T
def Tryz.lays112_ren : Go.Shelf.Ren := ⟨fun | 112 => 69 | k => k, fun | 28 => 29 | k => k, fun k => k⟩
theorem Tryz.lays112 : Go.Proofs.Lays.n112 Tryz.prog Tryz.lays112_ren := {
  mixed := by kernel_rfl
  f112 := Tryz.func69.trans (congrArg some (by kernel_rfl))
  t0 := Tryz.underlying0
  a0 := Tryz.isAgg0
  z0 := Tryz.sizeOf0
  v0 := Tryz.zeroValue0
  t3 := Tryz.underlying3
  a3 := Tryz.isAgg3
  z3 := Tryz.sizeOf3
  v3 := Tryz.zeroValue3
  t4 := Tryz.underlying4
  a4 := Tryz.isAgg4
  z4 := Tryz.sizeOf4
  v4 := Tryz.zeroValue4
  t28 := Tryz.underlying29
  a28 := Tryz.isAgg29
  z28 := Tryz.sizeOf29
  v28 := Tryz.zeroValue29 }
/-- slices.Reverse of a row of the call's own. -/
theorem reverse_any {w : World} {base n : Nat} {v : Value} {l : List Nat} (hn : n = l.length) (hl : l.length ≤ 1000000) (h : w.ownsRow base 3 1 v n (l.map U.nI)) :
    Calls Tryz.prog 69 #[v] w fun e w' => e = .returned (.tuple #[]) ∧ w'.ownsRow base 3 1 v n (l.reverse.map U.nI) ∧ w.grownBy w' v.ownBlock := by
  subst hn
  have hm : ∀ k : List Nat, k.map U.nI = (k.map fun (x : Nat) => (x : Int)).map (Value.int .i64) := fun k => by rw [List.map_map]; rfl
  obtain ⟨zs, hz⟩ : ∃ zs : List Int, zs = l.map fun (x : Nat) => (x : Int) := ⟨_, rfl⟩
  have hzl : zs.length = l.length := by rw [hz, List.length_map]
  have hzr : l.reverse.map U.nI = zs.reverse.map (Value.int .i64) := by rw [hm, hz, List.map_reverse]
  rw [hm, ← hz] at h
  rw [hzr]
  rw [← hzl] at h ⊢
  rcases h.2 with ⟨rfl, h0⟩ | ⟨g, cap, cur, rfl, hb, hg, h1, h2, h3, h4⟩
  · have hz0 : zs = [] := List.eq_nil_of_length_eq_zero h0
    subst hz0
    refine (Any.slices_Reverse_int_empty Tryz.lays112 none 0 w).mono ?_
    rintro e w' ⟨rfl, rfl⟩
    exact ⟨rfl, World.ownsRow_nil _ _ _ _, World.grownBy.refl _ _⟩
  · have hH := Go.holds_of_blockI hg (ss := zs) (by rw [← h4, Nat.mul_one])
    refine (Any.slices_Reverse_int Tryz.lays112 g 0 cap zs w hH (by omega)).mono ?_
    rintro e w' ⟨rfl, k, rfl⟩
    have e1 := ownsRow_sortedI (n := k) (os := #[]) (ss := zs) (ts := zs.reverse) (by rw [List.length_reverse]) hb hg h1 h2 h3
    have e2 := grownBy_sortedI (w := w) (g := g) (n := k) (os := #[]) zs.reverse.toArray
    rw [Go.Sort.grow_empty] at e1 e2
    exact ⟨rfl, e1, e2⟩
end Go.Proofs.YtbipjdgholdhcabGreat.N

namespace Go.Proofs.YtbipjdgholdhcabGreat.N
open Go.RowKit Go.Maps
open Go.Proofs.YtbipjdgholdhcabGreat.T

open U (below_grown own_get own_slice)
theorem filter_succ (f : Nat → Bool) (k : Nat) : (List.range (k + 1)).filter f = if f k then (List.range k).filter f ++ [k] else (List.range k).filter f := by
  rw [List.range_succ, List.filter_append]
  cases h : f k <;> simp [h]
theorem filter_len (f : Nat → Bool) (k : Nat) : ((List.range k).filter f).length ≤ k := by
  have := List.length_filter_le f (List.range k)
  rwa [List.length_range] at this
/-- While the numbers are told. -/
structure NmS (w wr : World) (l : List Nat) (N : Nat) (v : Value) : Prop where
  b : Below w.heap.size w wr
  o : wr.ownsRow N 3 1 v l.length (l.map U.nI)
  n : w.heap.size ≤ N ∧ N ≤ wr.heap.size
theorem NmS.push {w wr w2 : World} {l : List Nat} {N k : Nat} {v v2 : Value} (h : NmS w wr l N v) (ho : w2.ownsRow N 3 1 v2 (l.length + 1) (l.map U.nI ++ [.int .i64 (k : Int)])) (hg : wr.grownBy w2 v.ownBlock) : NmS w w2 (l ++ [k]) N v2 := by
  have hlow : ∀ q, v.ownBlock = some q → N ≤ q := fun q hq => (h.o.lt q hq).1
  have hn := h.n
  refine ⟨below_grown h.b hg (fun q e => by have := hlow q e; omega), ?_, ⟨hn.1, Nat.le_trans hn.2 hg.size⟩⟩
  rw [List.length_append, List.map_append]
  exact ho
set_option maxRecDepth 100000 in
set_option maxHeartbeats 16000000 in
/-- The numbers of what is marked, rising. -/
theorem numbers_any (f : Nat → Bool) (w : World) : Calls Tryz.prog 43 #[.agg (mkA f)] w fun e w' => (∃ v, e = .returned v ∧ w'.ownsRow w.heap.size 3 1 v ((List.range 200).filter f).length (((List.range 200).filter f).map U.nI)) ∧ Below w.heap.size w w' := by
  obtain ⟨w1, hw1⟩ : ∃ w1, w1 = w.alloc (.cells (mkA f) 87) := ⟨_, rfl⟩
  have HE1 := (show Hid (w.alloc (.cells (mkA f) 87) = w1) from hw1.symm)
  have hb1 : Below w.heap.size w w1 := by rw [hw1]; exact below_box _ _
  have HR := (show Hid (w1.rangeAt w.heap.size 0 (mkL f)) from by rw [hw1]; exact (MX.new w f).at')
  have HS := (show Hid (NmS w w1 [] w.heap.size (.slice none 0 0)) from ⟨hb1, World.ownsRow_nil _ _ _ _, Nat.le_refl _, hb1.size⟩)
  have HIx := (show Hid (∀ (k : Nat) (W : World), k < 200 → (Instr.index 87 (.agg (mkA f)) (.int .i64 (k : Int))).run Tryz.prog W = .ok (.bool (f k)) W) from fun k W hk => index_mk f hk W)
  have HF := (show Hid (∀ k, (List.range (k + 1)).filter f = if f k then (List.range k).filter f ++ [k] else (List.range k).filter f) from filter_succ f)
  have HL := (show Hid (∀ k, ((List.range k).filter f).length ≤ k) from filter_len f)
  obtain ⟨A, hA⟩ : ∃ A, A = mkA f := ⟨_, rfl⟩
  have HA := (show Hid (A = mkA f) from hA)
  clear hw1 hb1
  go_enter Tryz.func43, Tryz.ntmps43
  go_wp2_with (first | rw [HE1.out] | refine wpList_loadM rfl _ rfl w.heap.size 0 f rfl HR.out ?_)
  rw [← hA]
  clear hA HE1 HR
  have HS2 := (show Hid (NmS w w1 ((List.range 0).filter f) w.heap.size (.slice none 0 0)) from HS.out)
  clear HS
  go_loopw [3, 7] (fun v t wr => ∃ (k n : Nat) (A2 : Option Addr) (c2 : Nat), k ≤ 200 ∧ t = .int .i64 (k : Int) ∧ v = .slice A2 n c2 ∧ Hid (n = ((List.range k).filter f).length) ∧ n ≤ 200 ∧ Hid (NmS w wr ((List.range k).filter f) w.heap.size (.slice A2 n c2))) (fun _ t _ => 200 - (intOf t).toNat)
  case atStart => exact ⟨0, 0, none, 0, by omega, by go_num, rfl, rfl, by omega, HS2⟩
  case round =>
    obtain ⟨k, n, A2, c2, hk, rfl, rfl, HN, hn, HW⟩ := hrel
    clear HS2
    by_cases hlt : k < 200
    · have hix : ∀ W, (Instr.index 87 (.agg A) (.int .i64 (k : Int))).run Tryz.prog W = .ok (.bool (f k)) W := fun W => by rw [HA.out]; exact HIx.out k W hlt
      have z1 : (k : Int) < 200 := by omega
      have HFk := hid_of (HF.out k)
      have HLk := (show Hid (((List.range (k + 1)).filter f).length ≤ 200) from Nat.le_trans (HL.out (k + 1)) (by omega))
      cases hb : f k with
      | false =>
        rw [hb] at hix
        have HW2 := (show Hid (NmS w wr ((List.range (k + 1)).filter f) w.heap.size (.slice A2 n c2)) from by rw [HFk.out, if_neg (by rw [hb]; exact Bool.noConfusion)]; exact HW.out)
        have HN2 := (show Hid (n = ((List.range (k + 1)).filter f).length) from by rw [HFk.out, if_neg (by rw [hb]; exact Bool.noConfusion)]; exact HN.out)
        clear hb HW HFk HLk HN HF HIx HL
        go_wp2_with fail
        go_roundw
        case rel => exact ⟨k + 1, n, A2, c2, by omega, by go_num, rfl, HN2, hn, HW2⟩
        case measure => simp [intOf]; omega
      | true =>
        rw [hb] at hix
        have HO := (show Hid (∀ W, W = wr → W.ownsRow w.heap.size 3 1 (.slice A2 n c2) n (((List.range k).filter f).map U.nI)) from fun W h => by rw [h]; have h := HW.out.o; rw [← HN.out] at h; exact h)
        have HNs := (show Hid (w.heap.size ≤ wr.heap.size) from HW.out.n.2)
        have HPu := (show Hid (∀ (g5 cap5 : Nat) (w5 : World), w5.ownsRow w.heap.size 3 1 (.slice (some ⟨g5, 0, none⟩) (n + 1) cap5) (n + 1) (((List.range k).filter f).map U.nI ++ [.int .i64 (k : Int)]) → wr.grownBy w5 (Value.slice A2 n c2).ownBlock → Hid (NmS w w5 ((List.range (k + 1)).filter f) w.heap.size (.slice (some ⟨g5, 0, none⟩) (n + 1) cap5)) ∧ Hid (n + 1 = ((List.range (k + 1)).filter f).length) ∧ n + 1 ≤ 200) from fun g5 cap5 w5 h1 h2 => by
          have e : ((List.range (k + 1)).filter f).length = n + 1 := by rw [HFk.out, if_pos hb, List.length_append, ← HN.out]; rfl
          refine ⟨?_, e.symm, by rw [← e]; exact HLk.out⟩
          show NmS _ _ _ _ _
          rw [HFk.out, if_pos hb]
          exact HW.out.push (by rw [← HN.out]; exact h1) h2)
        clear hb HW HFk HLk HN HF HIx HL
        go_wp2_with (at_builtin; refine U.wpList_app1 rfl _ _ 29 rfl (.int .i64 0) 8 Tryz.underlying29 Tryz.info3 rfl w.heap.size n _ _ rfl rfl (HO.out _ rfl) rfl (by omega) (by decide) HNs.out ?_; intro g5 cap5 w5 ho5 hg5 hat5 hl5; obtain ⟨HV5, HN5, hn5⟩ := HPu.out g5 cap5 w5 ho5 hg5; clear ho5 hg5 hat5 hl5 HPu HO HNs)
        go_roundw
        case rel => exact ⟨k + 1, n + 1, some ⟨g5, 0, none⟩, cap5, by omega, by go_num, rfl, HN5, hn5, HV5⟩
        case measure => simp [intOf]; omega
    · obtain rfl : k = 200 := by omega
      have HO := (show Hid (wr.ownsRow w.heap.size 3 1 (.slice A2 n c2) ((List.range 200).filter f).length (((List.range 200).filter f).map U.nI) ∧ Below w.heap.size w wr) from ⟨HW.out.o, HW.out.b⟩)
      clear HW HN HF HIx HL HA
      go_wp2_with fail
      go_ret
      exact ⟨⟨_, rfl, HO.out.1⟩, HO.out.2⟩
/-- Both together, so far. -/
def orF (f g : Nat → Bool) (k : Nat) : Nat → Bool := fun q => if q < k then f q || g q else f q
theorem orF_up (f g : Nat → Bool) (k : Nat) : upM (orF f g k) k (f k || g k) = orF f g (k + 1) := by
  funext q
  unfold upM orF
  by_cases e : q = k
  · subst e
    rw [if_pos rfl, if_pos (Nat.lt_succ_self q)]
  · rw [if_neg e]
    by_cases h : q < k
    · rw [if_pos h, if_pos (by omega)]
    · rw [if_neg h, if_neg (by omega)]
structure OrS (w wr : World) (f : Nat → Bool) : Prop where
  b : Below w.heap.size w wr
  x : MX wr w.heap.size f
  z : MX wr (w.heap.size + 1 + 1) (fun _ => false)
theorem OrS.set {w wr : World} {f : Nat → Bool} (h : OrS w wr f) (r : Nat) (v : Bool) : OrS w (wr.setCell ⟨w.heap.size, r, none⟩ (.bool v)) (upM f r v) :=
  ⟨h.b.setCell (p := ⟨w.heap.size, r, none⟩) (Nat.le_refl _) _, h.x.set v, h.z.same (heap_setCell_other _ ⟨w.heap.size, r, none⟩ _ _ (show w.heap.size + 1 + 1 ≠ w.heap.size by omega))⟩
set_option maxRecDepth 100000 in
set_option maxHeartbeats 16000000 in
theorem or_any (f g : Nat → Bool) (w : World) : Calls Tryz.prog 59 #[.agg (mkA f), .agg (mkA g)] w fun e w' => e = .returned (.agg (mkA fun q => f q || g q)) ∧ Below w.heap.size w w' := by
  have hv := zero_mk
  obtain ⟨w1, hw1⟩ : ∃ w1, w1 = ((w.alloc (.cells (mkA f) 87)).alloc (.cells (mkA g) 87)).alloc (.cells (mkA fun _ => false) 87) := ⟨_, rfl⟩
  have HE1 := (show Hid (((w.alloc (.cells (mkA f) 87)).alloc (.cells (mkA g) 87)).alloc (.cells (mkA fun _ => false) 87) = w1) from hw1.symm)
  have s1 := World.size_alloc w (.cells (mkA f) 87)
  have s2 := World.size_alloc (w.alloc (.cells (mkA f) 87)) (.cells (mkA g) 87)
  have HR := (show Hid (w1.rangeAt (w.heap.size + 1) 0 (mkL g)) from by
    rw [hw1]
    have h := (MX.new (w.alloc (.cells (mkA f) 87)) g).below (below_box _ (.cells (mkA fun _ => false) 87))
    rw [s1] at h
    exact h.at')
  have HS := (show Hid (OrS w w1 (orF f g 0)) from by
    refine ⟨by rw [hw1]; exact (((Below.refl _ _).alloc (Nat.le_refl _) _).alloc (by omega) _).alloc (by omega) _, ?_, ?_⟩
    · have h := ((MX.new w f).below (below_box _ (.cells (mkA g) 87))).below (below_box _ (.cells (mkA fun _ => false) 87))
      rw [hw1]
      exact h
    · have h := MX.new ((w.alloc (.cells (mkA f) 87)).alloc (.cells (mkA g) 87)) (fun _ => false)
      rw [s2, s1] at h
      rw [hw1]
      exact h)
  have HIx := (show Hid (∀ (k : Nat) (W : World), k < 200 → (Instr.index 87 (.agg (mkA g)) (.int .i64 (k : Int))).run Tryz.prog W = .ok (.bool (g k)) W) from fun k W hk => index_mk g hk W)
  have HFin := (show Hid (∀ W : World, OrS w W (orF f g 200) → W.rangeAt w.heap.size 0 (mkL (orF f g 200)) ∧ MX W (w.heap.size + 1 + 1) (fun _ => false) ∧ MX (W.setRow (w.heap.size + 1 + 1) (mkA (orF f g 200))) (w.heap.size + 1 + 1) (orF f g 200) ∧ Below w.heap.size w (W.setRow (w.heap.size + 1 + 1) (mkA (orF f g 200)))) from fun W h => ⟨h.x.at', h.z, h.z.all _, below_setRow h.b (by omega) _⟩)
  have HEq := (show Hid (mkA (orF f g 200) = mkA fun q => f q || g q) from mkA_ext fun q hq => by unfold orF; rw [if_pos hq])
  clear s1 s2 hw1
  go_enter Tryz.func59, Tryz.ntmps59
  go_wp2_with (first | rw [HE1.out] | refine wpList_loadM rfl _ rfl (w.heap.size + 1) 0 g rfl HR.out ?_)
  clear HE1 HR
  go_loopw [8] (fun t wr => ∃ k : Nat, k ≤ 200 ∧ t = .int .i64 (k : Int) ∧ Hid (OrS w wr (orF f g k))) (fun t _ => 200 - (intOf t).toNat)
  case atStart => exact ⟨0, by omega, by go_num, HS⟩
  case round =>
    obtain ⟨k, hk, rfl, HW⟩ := hrel
    clear HS
    by_cases hlt : k < 200
    · have hix : ∀ W, (Instr.index 87 (.agg (mkA g)) (.int .i64 (k : Int))).run Tryz.prog W = .ok (.bool (g k)) W := fun W => HIx.out k W hlt
      have z1 : (k : Int) < 200 := by omega
      have z0 : (0 : Int) ≤ (k : Int) := by omega
      have x0 : wr.cell? ⟨w.heap.size, k, none⟩ = some (.bool (f k)) := by
        have h := HW.out.x.cl hlt
        unfold orF at h
        rw [if_neg (Nat.lt_irrefl k)] at h
        exact h
      have f0 := HW.out.x.fz k
      cases hb : f k with
      | false =>
        rw [hb] at x0
        obtain ⟨gk, hgk⟩ : ∃ gk, gk = g k := ⟨_, rfl⟩
        rw [← hgk] at hix
        have HW2 := (show Hid (OrS w (wr.setCell ⟨w.heap.size, k, none⟩ (.bool gk)) (orF f g (k + 1))) from by
          have h := HW.out.set k (f k || g k)
          rw [orF_up, hb, ← hgk] at h
          exact h)
        clear hb hgk HW HIx HFin HEq
        go_wp2_with fail
        go_roundw
        case rel => exact ⟨k + 1, by omega, by go_num, HW2⟩
        case measure => simp [intOf]; omega
      | true =>
        rw [hb] at x0
        have HW2 := (show Hid (OrS w (wr.setCell ⟨w.heap.size, k, none⟩ (.bool true)) (orF f g (k + 1))) from by
          have h := HW.out.set k (f k || g k)
          rw [orF_up, hb] at h
          exact h)
        clear hb HW HIx HFin HEq
        go_wp2_with fail
        go_roundw
        case rel => exact ⟨k + 1, by omega, by go_num, HW2⟩
        case measure => simp [intOf]; omega
    · obtain rfl : k = 200 := by omega
      have HF := (show Hid (wr.rangeAt w.heap.size 0 (mkL (orF f g 200)) ∧ MX wr (w.heap.size + 1 + 1) (fun _ => false) ∧ MX (wr.setRow (w.heap.size + 1 + 1) (mkA (orF f g 200))) (w.heap.size + 1 + 1) (orF f g 200) ∧ Below w.heap.size w (wr.setRow (w.heap.size + 1 + 1) (mkA (orF f g 200)))) from HFin.out wr HW.out)
      clear HW HIx HFin
      generalize orF f g 200 = h at HF HEq ⊢
      go_wp2_with (first | refine wpList_loadM rfl _ rfl w.heap.size 0 h rfl HF.out.1 ?_ | refine wpList_storeM rfl _ _ rfl (w.heap.size + 1 + 1) (fun _ => false) h rfl rfl HF.out.2.1 ?_)
      refine ret_mx (s := 4) (b := w.heap.size + 1 + 1) (by rfl) (by rfl) (by rfl) HF.out.2.2.1 ?_
      exact ⟨by rw [HEq.out], HF.out.2.2.2⟩
end Go.Proofs.YtbipjdgholdhcabGreat.N
