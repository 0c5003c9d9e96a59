/- DERIVED. Plain mathematics and walks, laid together (18). -/
import Derived.Test.YtbipjdgholdhcabGreatFr17
namespace Go.Proofs.YtbipjdgholdhcabGreat.N
open Go.RowKit Go.Maps
open Go.Proofs.YtbipjdgholdhcabGreat.T
set_option maxRecDepth 100000 in
set_option maxHeartbeats 4000000 in
theorem checkP_any (gs : GL) (A : Option Addr) (c : Nat) (w : World) (hp : GI w A gs) :
    Calls Tryz.prog 35 #[.agg #[.slice A gs.length c]] w fun e w' => e = .returned (.tuple #[.agg #[.int .i64 (ckG gs).1.1, .int .i64 (ckG gs).1.2], .int .i64 (ckG gs).2]) ∧ Below w.heap.size w w' := by
  obtain ⟨w1, hw1⟩ : ∃ w1, w1 = (w.alloc (.cells #[.slice A gs.length c] 24)).alloc (.cells #[.int .i64 0, .int .i64 0] 31) := ⟨_, rfl⟩
  have HS : Hid (Below w.heap.size w w1 ∧ GX w1 w.heap.size (.slice A gs.length c) ∧ SX w1 (w.heap.size + 1) 0 0) := by
    show _ ∧ _ ∧ _
    rw [hw1]
    exact ⟨((Below.refl _ _).alloc (Nat.le_refl _) _).alloc (by rw [World.size_alloc]; omega) _, (GX.mk (heap_alloc_new w _)).below (below_box _ _), ⟨by have h := heap_alloc_new (w.alloc (.cells #[.slice A gs.length c] 24)) (.cells #[.int .i64 0, .int .i64 0] 31); rw [World.size_alloc] at h; exact h⟩⟩
  have HN := (show Hid (∀ _ : Unit, Calls Tryz.prog 53 #[.agg #[.slice A gs.length c]] w1 fun e w' => NuV w1 w' gs e ∧ Below w1.heap.size w1 w') from fun _ => numb_any gs A c hp.l hp.t w1 (hp.d.later (by rw [hw1]; exact ((Below.refl _ _).alloc (Nat.le_refl _) _).alloc (by rw [World.size_alloc]; omega) _)))
  have q1 := HS.out.2.1.cl
  clear hp
  go_enter Tryz.func35, Tryz.ntmps35
  go_wp2_with fail
  rw [← hw1]
  refine (HN.out ()).mono ?_
  rintro e w3 ⟨hv, b3⟩
  obtain ⟨mv, rfl, _⟩ := hv.form
  have HB := (show Hid (Below w.heap.size w w3) from HS.out.1.trans (b3.mono HS.out.1.size))
  have HX := (show Hid (SX w3 (w.heap.size + 1) 0 0) from HS.out.2.2.below b3)
  clear HN HS b3 q1 hw1 hv
  obtain ⟨ca, cb, cd, hcc⟩ : ∃ (ca cb : Nat) (cd : Int), ckG gs = ((ca, cb), cd) := ⟨_, _, _, rfl⟩
  have HCC := (show Hid (ckG gs = ((ca, cb), cd)) from hcc)
  rw [hcc]
  clear hcc
  have c0 := HX.out.c0
  have c1 := HX.out.c1
  have f0 := HX.out.fz 0
  have f1 := HX.out.fz 1
  have HX2 := (show Hid (SX ((w3.setCell ⟨w.heap.size + 1, 0, none⟩ (.int .i64 (ca : Int))).setCell ⟨w.heap.size + 1, 1, none⟩ (.int .i64 (cb : Int))) (w.heap.size + 1) ca cb) from HX.out.set _ _)
  have HX3 := (show Hid (SX ((((w3.setCell ⟨w.heap.size + 1, 0, none⟩ (.int .i64 (ca : Int))).setCell ⟨w.heap.size + 1, 1, none⟩ (.int .i64 (cb : Int))).setCell ⟨w.heap.size + 1, 0, none⟩ (.int .i64 (ca : Int))).setCell ⟨w.heap.size + 1, 1, none⟩ (.int .i64 (cb : Int))) (w.heap.size + 1) ca cb) from HX2.out.set _ _)
  have HB3 := (show Hid (Below w.heap.size w ((((w3.setCell ⟨w.heap.size + 1, 0, none⟩ (.int .i64 (ca : Int))).setCell ⟨w.heap.size + 1, 1, none⟩ (.int .i64 (cb : Int))).setCell ⟨w.heap.size + 1, 0, none⟩ (.int .i64 (ca : Int))).setCell ⟨w.heap.size + 1, 1, none⟩ (.int .i64 (cb : Int)))) from set_below (set_below (set_below (set_below HB.out (Nat.le_succ _)) (Nat.le_succ _)) (Nat.le_succ _)) (Nat.le_succ _))
  have HBz := (show Hid (Below w.heap.size w ((w3.setCell ⟨w.heap.size + 1, 0, none⟩ (.int .i64 (ca : Int))).setCell ⟨w.heap.size + 1, 1, none⟩ (.int .i64 (cb : Int)))) from set_below (set_below HB.out (Nat.le_succ _)) (Nat.le_succ _))
  clear HX HB
  go_wp2_with fail
  have d0 := HX3.out.c0
  have d1 := HX3.out.c1
  clear c0 c1 f0 f1 HX2 HBz
  generalize (((w3.setCell ⟨w.heap.size + 1, 0, none⟩ (.int .i64 (ca : Int))).setCell ⟨w.heap.size + 1, 1, none⟩ (.int .i64 (cb : Int))).setCell ⟨w.heap.size + 1, 0, none⟩ (.int .i64 (ca : Int))).setCell ⟨w.heap.size + 1, 1, none⟩ (.int .i64 (cb : Int)) = wZ at *
  refine bodyPost_ret (v := .tuple #[.agg #[.int .i64 (ca : Int), .int .i64 (cb : Int)], .int .i64 cd]) (by simp [results, Tryz.results35, go_sem, d0, d1]) rfl ⟨by rw [HCC.out], HB3.out⟩
end Go.Proofs.YtbipjdgholdhcabGreat.N

namespace Go.Proofs.YtbipjdgholdhcabGreat.N
open Go.RowKit Go.Maps
open Go.Proofs.YtbipjdgholdhcabGreat.T

open U (below_grown own_get own_slice TT)
/-- The rows of heads, read. -/
theorem tt_rdl {W : World} {B n : Nat} {cx : Mx} {A : Option Addr} {c : Nat} {xs : List Value} (h : TT W B 29 3 (.slice A n c) (hdT n cx n) xs) (_hl : xs.length = n) (_hn : 0 < n) : RdL W A ((List.range n).map (hdl n cx)) := fun i l hi => by
  have hin : i < n := by have := (List.getElem?_eq_some_iff.1 hi).1; rwa [List.length_map, List.length_range] at this
  rw [List.getElem?_map, List.getElem?_range hin] at hi
  have hi : hdl n cx i = l := Option.some.inj hi
  obtain ⟨x, row, h1, h2, h3⟩ := h.at' (i := i) (by unfold hdT; rw [List.length_map, List.length_range]; exact hin)
  have h2 : (hdT n cx n)[i]? = some row := h2
  unfold hdT at h2
  rw [List.getElem?_map, List.getElem?_range hin] at h2
  have h2 : (hdl n cx i).map U.nI = row := Option.some.inj h2
  rw [hi] at h2
  subst h2
  obtain ⟨b, cb, e1, _, hb, hcell, _⟩ := own_get h.o h1
  have eA : A = some ⟨b, 0, none⟩ := by injection e1
  obtain ⟨A2, c2, rfl⟩ := own_slice h3
  rw [List.length_map] at h3 hcell
  refine ⟨b, 0, A2, c2, eA, hb, by rw [Nat.zero_add]; exact hcell, fun q x hq => ?_⟩
  obtain ⟨g2, c3, e3, _, hg2, hx, _⟩ := own_get h3 (j := q) (x := U.nI x) (by rw [List.getElem?_map, hq]; rfl)
  have e4 : A2 = some ⟨g2, 0, none⟩ := by injection e3
  exact ⟨g2, 0, e4, hg2, by rw [Nat.zero_add]; exact hx⟩
/-- A verdict in a box: the cycle, and the spot. -/
structure DX (W : World) (b : Nat) (v : Value) (p q : Int) : Prop where
  heap : W.heap[b]? = some (.cells #[v, .int .i64 p, .int .i64 q] 33 (0, 0))
theorem DX.lt {W : World} {b : Nat} {v : Value} {p q : Int} (h : DX W b v p q) : b < W.heap.size := (Array.getElem?_eq_some_iff.1 h.heap).1
theorem DX.same {W W' : World} {b : Nat} {v : Value} {p q : Int} (h : DX W b v p q) (hb : W'.heap[b]? = W.heap[b]?) : DX W' b v p q := ⟨hb.trans h.heap⟩
theorem DX.below {W W' : World} {b : Nat} {v : Value} {p q : Int} (h : DX W b v p q) (hb : Below W.heap.size W W') : DX W' b v p q := h.same (hb.block b h.lt)
theorem DX.c0 {W : World} {b : Nat} {v : Value} {p q : Int} (h : DX W b v p q) : W.cell? ⟨b, 0, none⟩ = some v := by rw [cell_of_row W b 0 _ 33 (0, 0) h.heap]; rfl
theorem DX.c1 {W : World} {b : Nat} {v : Value} {p q : Int} (h : DX W b v p q) : W.cell? ⟨b, 1, none⟩ = some (.int .i64 p) := by rw [cell_of_row W b 1 _ 33 (0, 0) h.heap]; rfl
theorem DX.c2 {W : World} {b : Nat} {v : Value} {p q : Int} (h : DX W b v p q) : W.cell? ⟨b, 2, none⟩ = some (.int .i64 q) := by rw [cell_of_row W b 2 _ 33 (0, 0) h.heap]; rfl
theorem DX.fz {W : World} {b : Nat} {v : Value} {p q : Int} (h : DX W b v p q) (j : Nat) : W.frozen? ⟨b, j, none⟩ = false := frozen_of_row W b j _ 33 h.heap
theorem DX.all {W : World} {b : Nat} {v : Value} {p q : Int} (h : DX W b v p q) (v2 : Value) (p2 q2 : Int) : DX (((W.setCell ⟨b, 0, none⟩ v2).setCell ⟨b, 1, none⟩ (.int .i64 p2)).setCell ⟨b, 2, none⟩ (.int .i64 q2)) b v2 p2 q2 := by
  have h1 : DX (W.setCell ⟨b, 0, none⟩ v2) b v2 p q := ⟨by rw [heap_setCell_same W b 0 _ 33 _ h.heap]; rfl⟩
  have h2 : DX ((W.setCell ⟨b, 0, none⟩ v2).setCell ⟨b, 1, none⟩ (.int .i64 p2)) b v2 p2 q := ⟨by rw [heap_setCell_same _ b 1 _ 33 _ h1.heap]; rfl⟩
  exact ⟨by rw [heap_setCell_same _ b 2 _ 33 _ h2.heap]; rfl⟩
theorem DX.new (W : World) (v : Value) (p q : Int) : DX (W.alloc (.cells #[v, .int .i64 p, .int .i64 q] 33)) W.heap.size v p q := ⟨heap_alloc_new W _⟩
/-- What Check says: the cycle, the spot, the number. -/
def VdR (gs : GL) (l : List Nat) (p q : Nat) (e : Int) : Prop := ((ckG gs).2 ≠ 0 → l = [] ∧ (p, q) = (ckG gs).1 ∧ e = (ckG gs).2) ∧ ((ckG gs).2 = 0 → ∃ now, KnF gs now ∧ now.length = gs.length ∧ ∃ cy, CyR gs.length (hdM gs (nbE now)) cy ∧ ((cy ≠ [] ∧ l = cy ∧ p = 0 ∧ q = 0 ∧ e = 100) ∨ (cy = [] ∧ l = [] ∧ ((∃ s r, lpG gs (nbE now) gs.length = s :: r ∧ p = s.1 ∧ q = s.2 ∧ e = 101) ∨ (lpG gs (nbE now) gs.length = [] ∧ p = 0 ∧ q = 0 ∧ e = 0)))))
theorem tt_same {W W' : World} {B E I : Nat} {v : Value} {M : List (List Value)} {xs : List Value} (h : TT W B E I v M xs) (hk : ∀ k, B ≤ k → W'.heap[k]? = W.heap[k]?) : TT W' B E I v M xs :=
  ⟨own_same h.o fun k e => hk k (h.o.lt k e).1, h.len, fun i x r q1 q2 => own_same (h.each i x r q1 q2) fun k e => hk k ((h.each i x r q1 q2).lt k e).1, h.off, h.apart⟩
theorem ret_jd {fn : Func} {R : Ending → World → Prop} {act : Act} {W : World} {b : Nat} {hv v : Value} {p q cd : Int} (hF : fn.results = #[.tmp 2, .cell 3 33, .tmp 4]) (hd : act.defers = []) (h2 : act.tmps.getD 2 undef = hv) (h3 : act.tmps.getD 3 undef = .pointer (some ⟨b, 0, none⟩)) (h4 : act.tmps.getD 4 undef = .int .i64 cd) (hT : DX W b v p q) (hR : R (.returned (.tuple #[hv, .agg #[v, .int .i64 p, .int .i64 q], .int .i64 cd])) W) : bodyPost Tryz.prog fn R .ret act W := by
  have c0 : W.cell? ⟨b, 0, none⟩ = _ := hT.c0
  have c1 : W.cell? ⟨b, 1, none⟩ = _ := hT.c1
  have c2 : W.cell? ⟨b, 2, none⟩ = _ := hT.c2
  refine bodyPost_ret (v := .tuple #[hv, .agg #[v, .int .i64 p, .int .i64 q], .int .i64 cd]) ?_ hd hR
  simp only [Array.getD_eq_getD_getElem?] at h2 h3 h4
  simp [results, hF, go_sem, h2, h3, h4, c0, c1, c2]
theorem DX.drew {W : World} {b : Nat} {v : Value} {p q : Int} (h : DX W b v p q) : DX W.drew b v p q := ⟨h.heap⟩
/-- A verdict is written. -/
def sV (W : World) (b : Nat) (v : Value) (p q : Int) : World := ((W.setCell ⟨b, 0, none⟩ v).setCell ⟨b, 1, none⟩ (.int .i64 p)).setCell ⟨b, 2, none⟩ (.int .i64 q)
theorem sV_other (W : World) (b : Nat) (v : Value) (p q : Int) {k : Nat} (h : k ≠ b) : (sV W b v p q).heap[k]? = W.heap[k]? := by
  unfold sV
  rw [heap_setCell_other _ _ _ _ h, heap_setCell_other _ _ _ _ h, heap_setCell_other _ _ _ _ h]
theorem sV_dx {W : World} {b : Nat} {v : Value} {p q : Int} (h : DX W b v p q) (v2 : Value) (p2 q2 : Int) : DX (sV W b v2 p2 q2) b v2 p2 q2 := h.all v2 p2 q2
theorem sV_below {w W : World} {b : Nat} (v : Value) (p q : Int) (h : Below w.heap.size w W) (hb : w.heap.size ≤ b) : Below w.heap.size w (sV W b v p q) := ((h.setCell (p := ⟨b, 0, none⟩) hb _).setCell (p := ⟨b, 1, none⟩) hb _).setCell (p := ⟨b, 2, none⟩) hb _
/-- The head of a list of spots. -/
theorem fs_head {W : World} {B n : Nat} {A : Option Addr} {c : Nat} {s : Nat × Nat} {l : List (Nat × Nat)} (h : W.ownsRow B 31 2 (.slice A n c) n (spc (s :: l))) (hn : n = (s :: l).length) : ∃ g, A = some ⟨g, 0, none⟩ ∧ W.cell? ⟨g, 0, none⟩ = some (.int .i64 (s.1 : Int)) ∧ W.cell? ⟨g, 1, none⟩ = some (.int .i64 (s.2 : Int)) := by
  obtain ⟨g, cap, e, _⟩ := h.form (by rw [hn]; exact Nat.succ_pos _)
  injection e with e1 _ e3
  subst e1
  have hh := h.cells (g := g) rfl
  have h0 := hh 0 (.int .i64 (s.1 : Int)) rfl
  have h1 := hh 1 (.int .i64 (s.2 : Int)) rfl
  exact ⟨g, rfl, h0, h1⟩
set_option maxRecDepth 100000 in
set_option maxHeartbeats 32000000 in
theorem judged_any (gs : GL) (A : Option Addr) (c : Nat) (w : World) (hp : GI w A gs) :
    Calls Tryz.prog 21 #[.agg #[.slice A gs.length c]] w fun e w' => (∃ (hv vc : Value) (l : List Nat) (p q : Nat) (cd : Int), e = .returned (.tuple #[hv, .agg #[vc, .int .i64 (p : Int), .int .i64 (q : Int)], .int .i64 cd]) ∧ VdR gs l p q cd ∧ w'.ownsRow w.heap.size 3 1 vc l.length (l.map U.nI) ∧ (cd = 0 → ∃ now xs, KnF gs now ∧ now.length = gs.length ∧ xs.length = gs.length ∧ TT w' w.heap.size 29 3 hv (hdT gs.length (hdM gs (nbE now)) gs.length) xs)) ∧ Below w.heap.size w w' := by
  obtain ⟨w1, hw1⟩ : ∃ w1, w1 = (w.alloc (.cells #[.slice A gs.length c] 24)).alloc (.cells #[.slice none 0 0, .int .i64 0, .int .i64 0] 33) := ⟨_, rfl⟩
  have HE1 := (show Hid ((w.alloc (.cells #[.slice A gs.length c] 24)).alloc (.cells #[.slice none 0 0, .int .i64 0, .int .i64 0] 33) = w1) from hw1.symm)
  have s0 := World.size_alloc w (.cells #[.slice A gs.length c] 24)
  have HS := (show Hid (Below w.heap.size w w1 ∧ GX w1 w.heap.size (.slice A gs.length c) ∧ DX w1 (w.heap.size + 1) (.slice none 0 0) 0 0 ∧ w1.heap.size = w.heap.size + 2) from by
    refine ⟨by rw [hw1]; exact ((Below.refl _ _).alloc (Nat.le_refl _) _).alloc (by omega) _, by rw [hw1]; exact (GX.mk (heap_alloc_new w _)).below (below_box _ _), ?_, by rw [hw1, World.size_alloc, s0]⟩
    have h := DX.new (w.alloc (.cells #[.slice A gs.length c] 24)) (.slice none 0 0) 0 0
    rw [s0, ← hw1] at h
    exact h)
  have HVw := (show Hid (∀ _ : Unit, Calls Tryz.prog 23 #[.agg #[.slice A gs.length c]] w1 fun e w' => VwR w1 w' gs A c e ∧ Below w1.heap.size w1 w') from fun _ => viewOf_any gs A c w1 (hp.later HS.out.1))
  have HP := (show Hid (GI w A gs) from hp)
  have q1 := HS.out.2.1.cl
  clear hw1 s0 hp
  go_enter Tryz.func21, Tryz.ntmps21
  go_wp2_with (rw [HE1.out])
  refine (HVw.out ()).mono ?_
  rintro e w2 ⟨hvw, b2⟩
  have HS2 := (show Hid (Below w.heap.size w w2 ∧ GX w2 w.heap.size (.slice A gs.length c) ∧ DX w2 (w.heap.size + 1) (.slice none 0 0) 0 0 ∧ w.heap.size + 2 ≤ w2.heap.size) from by
    obtain ⟨h1, h2, h3, h4⟩ := HS.out
    exact ⟨h1.trans (b2.mono h1.size), h2.below b2, h3.below b2, by have := b2.size; omega⟩)
  clear HVw HE1 q1 HS b2
  by_cases hz : (ckG gs).2 = 0
  · obtain ⟨mb, Ak, ck, now, rfl, hm, hk, hkf, hnl, hok, _⟩ := hvw.2 hz
    have hR := ckG_ok.1 hz
    have hn2 := hR.n2
    have hn1 := hR.n1
    obtain ⟨w3, hw3⟩ : ∃ w3, w3 = w2.alloc (.cells #[.slice A gs.length c, .map (some mb), .slice Ak gs.length ck] 66) := ⟨_, rfl⟩
    have HE3 := (show Hid (w2.alloc (.cells #[.slice A gs.length c, .map (some mb), .slice Ak gs.length ck] 66) = w3) from hw3.symm)
    have hb3 : Below w2.heap.size w2 w3 := by rw [hw3]; exact below_box _ _
    have b3s := (show Hid (w2.heap.size ≤ w3.heap.size) from hb3.size)
    have HX3 := (show Hid (VX w3 w2.heap.size (.slice A gs.length c) (.map (some mb)) (.slice Ak gs.length ck)) from by rw [hw3]; exact VX.new w2 _ _ _)
    have HB3 := (show Hid (Below w.heap.size w w3) from HS2.out.1.trans (hb3.mono HS2.out.1.size))
    have HD3 := (show Hid (DX w3 (w.heap.size + 1) (.slice none 0 0) 0 0) from HS2.out.2.2.1.below hb3)
    have HV := (show Hid (VwO w3 gs A mb Ak now) from ⟨hR, HP.out.later HB3.out, hm.later hb3, hk.later hb3, hnl⟩)
    have HKn := (show Hid (KnF gs now ∧ now.length = gs.length ∧ (ckG gs).2 = 0) from ⟨hkf, hnl, hz⟩)
    have y0 := HX3.out.c0
    have y1 := HX3.out.c1
    have y2 := HX3.out.c2
    have HHe := (show Hid (∀ _ : Unit, Calls Tryz.prog 36 #[.agg #[.slice A gs.length c, .map (some mb), .slice Ak gs.length ck]] w3 fun e w' => (∃ v xs, e = .returned v ∧ xs.length = gs.length ∧ TT w' w3.heap.size 29 3 v (hdT gs.length (hdM gs (nbE now)) gs.length) xs) ∧ Below w3.heap.size w3 w') from fun _ => vheads_any mb A Ak c ck w3 HV.out)
    have HR := (show Hid (RtG gs) from hR)
    clear hvw hm hk hkf hnl hok hz hR hw3 hb3
    go_wp2_with (rw [HE3.out])
    refine (HHe.out ()).mono ?_
    rintro e w4 ⟨⟨vh, xs, rfl, hxl, hT⟩, b4⟩
    obtain ⟨Ah, ch, hAh⟩ := own_slice hT.o
    rw [hxl] at hAh
    subst hAh
    have HT4 := (show Hid (TT w4 w3.heap.size 29 3 (.slice Ah gs.length ch) (hdT gs.length (hdM gs (nbE now)) gs.length) xs ∧ xs.length = gs.length) from ⟨hT, hxl⟩)
    have HS3 := (show Hid (w.heap.size + 2 ≤ w3.heap.size) from Nat.le_trans HS2.out.2.2.2 b3s.out)
    have HS4 := (show Hid (w.heap.size + 2 ≤ w4.heap.size) from Nat.le_trans HS3.out b4.size)
    have HB4 := (show Hid (Below w.heap.size w w4) from HB3.out.trans (b4.mono HB3.out.size))
    have HCy := (show Hid (∀ _ : Unit, Calls Tryz.prog 37 #[.slice Ah gs.length ch] w4 fun e w' => (∃ v l, e = .returned v ∧ CyR gs.length (hdM gs (nbE now)) l ∧ w'.ownsRow w4.heap.size 3 1 v l.length (l.map U.nI)) ∧ Below w4.heap.size w4 w') from fun _ => cycle_any (hdM_lt HR.out) hn2 Ah ch w4 (tt_rdl hT hxl hn1))
    have HX4 := (show Hid (VX w4 w2.heap.size (.slice A gs.length c) (.map (some mb)) (.slice Ak gs.length ck) ∧ DX w4 (w.heap.size + 1) (.slice none 0 0) 0 0 ∧ VwO w4 gs A mb Ak now ∧ w3.heap.size ≤ w4.heap.size) from ⟨HX3.out.below b4, HD3.out.below b4, HV.out.later b4, b4.size⟩)
    clear hxl hT b4 HHe HE3 y0 y1 y2 HX3 HD3 HV
    go_wp2_with fail
    refine (HCy.out ()).mono ?_
    rintro e w5 ⟨⟨vc, cy, rfl, hcy, hoc⟩, b5⟩
    obtain ⟨Ac, cc, rfl⟩ := own_slice hoc
    have HB5 := (show Hid (Below w.heap.size w w5) from HB4.out.trans (b5.mono HB4.out.size))
    have HX5 := (show Hid (VX w5 w2.heap.size (.slice A gs.length c) (.map (some mb)) (.slice Ak gs.length ck) ∧ DX w5 (w.heap.size + 1) (.slice none 0 0) 0 0 ∧ VwO w5 gs A mb Ak now) from ⟨HX4.out.1.below b5, HX4.out.2.1.below b5, HX4.out.2.2.1.later b5⟩)
    have HT5 := (show Hid (TT w5 w3.heap.size 29 3 (.slice Ah gs.length ch) (hdT gs.length (hdM gs (nbE now)) gs.length) xs ∧ xs.length = gs.length) from ⟨HT4.out.1.below b5, HT4.out.2⟩)
    have HC5 := (show Hid (CyR gs.length (hdM gs (nbE now)) cy ∧ w5.ownsRow w4.heap.size 3 1 (.slice Ac cy.length cc) cy.length (cy.map U.nI)) from ⟨hcy, hoc⟩)
    clear hcy hoc b5 HCy HX4 HT4
    by_cases hc0 : cy = []
    · have hcz : (.slice Ac cy.length cc : Value) = .slice Ac 0 cc := by rw [hc0]; rfl
      rw [hcz]
      clear hcz
      have HC0 := (show Hid (cy = []) from hc0)
      clear hc0
      have y0 := HX5.out.1.c0
      have y1 := HX5.out.1.c1
      have y2 := HX5.out.1.c2
      have HLo := (show Hid (∀ _ : Unit, Calls Tryz.prog 38 #[.agg #[.slice A gs.length c, .map (some mb), .slice Ak gs.length ck]] w5 fun e w' => (∃ v, e = .returned v ∧ w'.ownsRow w5.heap.size 31 2 v (lpG gs (nbE now) gs.length).length (spc (lpG gs (nbE now) gs.length))) ∧ Below w5.heap.size w5 w') from fun _ => vloops_any mb A Ak c ck w5 HX5.out.2.2)
      go_wp2_with fail
      refine (HLo.out ()).mono ?_
      rintro e w6 ⟨⟨vl, rfl, hol⟩, b6⟩
      obtain ⟨Al, cl, rfl⟩ := own_fs hol
      have HB6 := (show Hid (Below w.heap.size w w6) from HB5.out.trans (b6.mono HB5.out.size))
      have HD6 := (show Hid (DX w6 (w.heap.size + 1) (.slice none 0 0) 0 0) from HX5.out.2.1.below b6)
      have HT6 := (show Hid (TT w6 w3.heap.size 29 3 (.slice Ah gs.length ch) (hdT gs.length (hdM gs (nbE now)) gs.length) xs ∧ xs.length = gs.length) from ⟨HT5.out.1.below b6, HT5.out.2⟩)
      have d0 := HD6.out.c0
      have d1 := HD6.out.c1
      have d2 := HD6.out.c2
      have f0 := HD6.out.fz 0
      have f1 := HD6.out.fz 1
      have f2 := HD6.out.fz 2
      obtain ⟨ls, hls⟩ : ∃ ls, ls = lpG gs (nbE now) gs.length := ⟨_, rfl⟩
      have HLs := (show Hid (ls = lpG gs (nbE now) gs.length ∧ w6.ownsRow w5.heap.size 31 2 (.slice Al ls.length cl) ls.length (spc ls)) from ⟨hls, by rw [hls]; exact hol⟩)
      rw [← hls]
      clear hol hls b6 HLo y0 y1 y2 HX5 HT5
      cases ls with
      | nil =>
        have HVd := (show Hid (VdR gs [] 0 0 0) from ⟨fun q => absurd HKn.out.2.2 q, fun _ => ⟨now, HKn.out.1, HKn.out.2.1, cy, HC5.out.1, .inr ⟨HC0.out, rfl, .inr ⟨HLs.out.1.symm, rfl, rfl, rfl⟩⟩⟩⟩)
        obtain ⟨w7, hw7⟩ : ∃ w7, w7 = sV w6 (w.heap.size + 1) (.slice none 0 0) 0 0 := ⟨_, rfl⟩
        have HE7 := (show Hid (((w6.setCell ⟨w.heap.size + 1, 0, none⟩ (.slice none 0 0)).setCell ⟨w.heap.size + 1, 1, none⟩ (.int .i64 0)).setCell ⟨w.heap.size + 1, 2, none⟩ (.int .i64 0) = w7) from hw7.symm)
        have HT7 := (show Hid (TT w7 w3.heap.size 29 3 (.slice Ah gs.length ch) (hdT gs.length (hdM gs (nbE now)) gs.length) xs ∧ xs.length = gs.length) from ⟨tt_same HT6.out.1 fun k hk => by rw [hw7]; exact sV_other _ _ _ _ _ (by have := HS3.out; omega), HT6.out.2⟩)
        have HB7 := (show Hid (Below w.heap.size w w7 ∧ DX w7 (w.heap.size + 1) (.slice none 0 0) 0 0) from by rw [hw7]; exact ⟨sV_below _ _ _ HB6.out (Nat.le_succ _), sV_dx HD6.out _ _ _⟩)
        clear hw7
        go_wp2_with (rw [HE7.out])
        refine ret_jd (b := w.heap.size + 1) (by rfl) (by rfl) (by rfl) (by rfl) (by rfl) HB7.out.2 ⟨⟨_, _, [], 0, 0, 0, rfl, HVd.out, World.ownsRow_nil _ _ _ _, fun _ => ⟨now, xs, HKn.out.1, HKn.out.2.1, HT7.out.2, HT7.out.1.base (by have := HS3.out; omega)⟩⟩, HB7.out.1⟩
      | cons s ls =>
        obtain ⟨sp, sr⟩ := s
        obtain ⟨g, rfl, hc1⟩ := fs_head HLs.out.2 rfl
        have HVd := (show Hid (VdR gs [] sp sr 101) from ⟨fun q => absurd HKn.out.2.2 q, fun _ => ⟨now, HKn.out.1, HKn.out.2.1, cy, HC5.out.1, .inr ⟨HC0.out, rfl, .inl ⟨(sp, sr), ls, HLs.out.1.symm, rfl, rfl, rfl⟩⟩⟩⟩)
        have l0 := hc1.1
        have l1 := hc1.2
        have HB7 := (show Hid (Below w.heap.size w (sV w6 (w.heap.size + 1) (.slice none 0 0) sp sr).drew ∧ DX (sV w6 (w.heap.size + 1) (.slice none 0 0) sp sr).drew (w.heap.size + 1) (.slice none 0 0) sp sr) from ⟨(sV_below _ _ _ HB6.out (Nat.le_succ _)).drew, (sV_dx HD6.out _ _ _).drew⟩)
        clear HT6 hc1
        have hlen : ((sp, sr) :: ls).length = ls.length + 1 := rfl
        rw [hlen]
        clear hlen
        generalize ls.length = m
        have hm : (0 : Int) < (m + 1 : Nat) := by omega
        have hm2 : 0 < m + 1 := by omega
        go_wp2_with fail
        go_region
        all_goals (go_wp2_with fail)
        refine ret_jd (b := w.heap.size + 1) (by rfl) (by rfl) (by rfl) (by rfl) (by rfl) HB7.out.2 ⟨⟨_, _, [], sp, sr, 101, rfl, HVd.out, World.ownsRow_nil _ _ _ _, fun q => absurd q (by decide)⟩, HB7.out.1⟩
    · have HVd := (show Hid (VdR gs cy 0 0 100) from ⟨fun q => absurd HKn.out.2.2 q, fun _ => ⟨now, HKn.out.1, HKn.out.2.1, cy, HC5.out.1, .inl ⟨hc0, rfl, rfl, rfl, rfl⟩⟩⟩)
      have hm2 : 0 < cy.length := List.length_pos_iff.2 hc0
      obtain ⟨m, hm⟩ : ∃ m, m = cy.length := ⟨_, rfl⟩
      have HO5 := (show Hid (w5.ownsRow w4.heap.size 3 1 (.slice Ac m cc) cy.length (cy.map U.nI)) from by rw [hm]; exact HC5.out.2)
      have HD5 := (show Hid (DX w5 (w.heap.size + 1) (.slice none 0 0) 0 0) from HX5.out.2.1)
      rw [← hm] at hm2 ⊢
      clear hm hc0
      have hm3 : (0 : Int) < (m : Nat) := by omega
      have d0 := HD5.out.c0
      have d1 := HD5.out.c1
      have d2 := HD5.out.c2
      have f0 := HD5.out.fz 0
      have f1 := HD5.out.fz 1
      have f2 := HD5.out.fz 2
      obtain ⟨w7, hw7⟩ : ∃ w7, w7 = sV w5 (w.heap.size + 1) (.slice Ac m cc) 0 0 := ⟨_, rfl⟩
      have HE7 := (show Hid (((w5.setCell ⟨w.heap.size + 1, 0, none⟩ (.slice Ac m cc)).setCell ⟨w.heap.size + 1, 1, none⟩ (.int .i64 0)).setCell ⟨w.heap.size + 1, 2, none⟩ (.int .i64 0) = w7) from hw7.symm)
      have HO7 := (show Hid (w7.ownsRow w4.heap.size 3 1 (.slice Ac m cc) cy.length (cy.map U.nI)) from own_same HO5.out fun k e => by
        have h1 := (HO5.out.lt k e).1
        rw [hw7]
        exact sV_other _ _ _ _ _ (by have := HS4.out; omega))
      have HB7 := (show Hid (Below w.heap.size w w7 ∧ DX w7 (w.heap.size + 1) (.slice Ac m cc) 0 0) from by rw [hw7]; exact ⟨sV_below _ _ _ HB5.out (Nat.le_succ _), sV_dx HD5.out _ _ _⟩)
      clear hw7
      go_wp2_with (rw [HE7.out])
      refine ret_jd (b := w.heap.size + 1) (by rfl) (by rfl) (by rfl) (by rfl) (by rfl) HB7.out.2 ⟨⟨_, _, cy, 0, 0, 100, rfl, HVd.out, own_base HO7.out (by have := HS4.out; omega), fun q => absurd q (by decide)⟩, HB7.out.1⟩
  · have e1 := hvw.1 hz
    subst e1
    have tz : ((ckG gs).2 != 0) = true := by rw [bne, beq_eq_false_iff_ne.2 hz]; rfl
    obtain ⟨ca, cb, cd, hcc⟩ : ∃ (ca cb : Nat) (cd : Int), ckG gs = ((ca, cb), cd) := ⟨_, _, _, rfl⟩
    have HVd := (show Hid (VdR gs [] ca cb cd) from ⟨fun _ => ⟨rfl, by rw [hcc], by rw [hcc]⟩, fun q => absurd q hz⟩)
    have HCd := (show Hid (cd ≠ 0) from by rw [hcc] at hz; exact hz)
    rw [hcc] at tz ⊢
    have tz : (cd != 0) = true := tz
    obtain ⟨w3, hw3⟩ : ∃ w3, w3 = w2.alloc (.cells #[.slice none 0 0, .map none, .slice none 0 0] 66) := ⟨_, rfl⟩
    have HE3 := (show Hid (w2.alloc (.cells #[.slice none 0 0, .map none, .slice none 0 0] 66) = w3) from hw3.symm)
    have hb3 : Below w2.heap.size w2 w3 := by rw [hw3]; exact below_box _ _
    have HB3 := (show Hid (Below w.heap.size w w3 ∧ DX w3 (w.heap.size + 1) (.slice none 0 0) 0 0) from ⟨HS2.out.1.trans (hb3.mono HS2.out.1.size), HS2.out.2.2.1.below hb3⟩)
    have q3 : (w2.alloc (.cells #[.slice none 0 0, .map none, .slice none 0 0] 66)).cell? ⟨w.heap.size, 0, none⟩ = some (.slice A gs.length c) := by rw [← hw3]; exact (HS2.out.2.1.below hb3).cl
    have HCk := (show Hid (∀ _ : Unit, Calls Tryz.prog 35 #[.agg #[.slice A gs.length c]] w3 fun e w' => e = .returned (.tuple #[.agg #[.int .i64 (ca : Int), .int .i64 (cb : Int)], .int .i64 cd]) ∧ Below w3.heap.size w3 w') from fun _ => by
      have h := checkP_any gs A c w3 (HP.out.later HB3.out.1)
      rw [hcc] at h
      exact h)
    clear hvw hz hcc hw3 hb3 HS2 HP
    go_wp2_with fail
    rw [HE3.out]
    refine (HCk.out ()).mono ?_
    rintro e w4 ⟨rfl, b4⟩
    obtain ⟨w5, hw5⟩ : ∃ w5, w5 = w4.alloc (.cells #[.int .i64 (ca : Int), .int .i64 (cb : Int)] 31) := ⟨_, rfl⟩
    have HE5 := (show Hid (w4.alloc (.cells #[.int .i64 (ca : Int), .int .i64 (cb : Int)] 31) = w5) from hw5.symm)
    have hb5 : Below w4.heap.size w4 w5 := by rw [hw5]; exact below_box _ _
    have hs5 : SX w5 w4.heap.size ca cb := by rw [hw5]; exact ⟨heap_alloc_new w4 _⟩
    have s0 := hs5.c0
    have s1 := hs5.c1
    have HD5 := (show Hid (DX w5 (w.heap.size + 1) (.slice none 0 0) 0 0 ∧ Below w.heap.size w w5) from ⟨(HB3.out.2.below b4).below hb5, (HB3.out.1.trans (b4.mono HB3.out.1.size)).trans (hb5.mono (HB3.out.1.trans (b4.mono HB3.out.1.size)).size)⟩)
    have d0 := HD5.out.1.c0
    have d1 := HD5.out.1.c1
    have d2 := HD5.out.1.c2
    have f0 := HD5.out.1.fz 0
    have f1 := HD5.out.1.fz 1
    have f2 := HD5.out.1.fz 2
    clear b4 HCk HE3 q3 HB3 hb5 hs5 hw5
    go_wp2_with (rw [HE5.out])
    go_region
    all_goals (go_wp2_with fail)
    have HB7 := (show Hid (Below w.heap.size w (sV w5 (w.heap.size + 1) (.slice none 0 0) ca cb).drew ∧ DX (sV w5 (w.heap.size + 1) (.slice none 0 0) ca cb).drew (w.heap.size + 1) (.slice none 0 0) ca cb) from ⟨(sV_below _ _ _ HD5.out.2 (Nat.le_succ _)).drew, (sV_dx HD5.out.1 _ _ _).drew⟩)
    refine ret_jd (b := w.heap.size + 1) (by rfl) (by rfl) (by rfl) (by rfl) (by rfl) HB7.out.2 ⟨⟨_, _, [], ca, cb, cd, rfl, HVd.out, World.ownsRow_nil _ _ _ _, fun q => absurd q HCd.out⟩, HB7.out.1⟩
end Go.Proofs.YtbipjdgholdhcabGreat.N

namespace Go.Proofs.YtbipjdgholdhcabGreat.N
open Go.RowKit Go.Maps
open Go.Proofs.YtbipjdgholdhcabGreat.T

open U (below_grown own_get own_slice TT)
theorem ret_ck {fn : Func} {R : Ending → World → Prop} {act : Act} {W : World} {b : Nat} {v : Value} {p q cd : Int} (hF : fn.results = #[.cell 2 33, .tmp 3]) (hd : act.defers = []) (h3 : act.tmps.getD 2 undef = .pointer (some ⟨b, 0, none⟩)) (h4 : act.tmps.getD 3 undef = .int .i64 cd) (hT : DX W b v p q) (hR : R (.returned (.tuple #[.agg #[v, .int .i64 p, .int .i64 q], .int .i64 cd])) W) : bodyPost Tryz.prog fn R .ret act W := by
  have c0 : W.cell? ⟨b, 0, none⟩ = _ := hT.c0
  have c1 : W.cell? ⟨b, 1, none⟩ = _ := hT.c1
  have c2 : W.cell? ⟨b, 2, none⟩ = _ := hT.c2
  refine bodyPost_ret (v := .tuple #[.agg #[v, .int .i64 p, .int .i64 q], .int .i64 cd]) ?_ hd hR
  simp only [Array.getD_eq_getD_getElem?] at h3 h4
  simp [results, hF, go_sem, h3, h4, c0, c1, c2]
theorem own_one {W : World} {B e s n : Nat} {v : Value} {xs : List Value} (h : W.ownsRow B e s v n xs) : v.oneCell' = true := by
  rcases h.2 with ⟨rfl, _⟩ | ⟨g, cap, cur, rfl, _⟩ <;> rfl
/-- What Heads says, by the program. -/
def HdR (gs : GL) (w w' : World) (i : Int) (e : Ending) : Prop := ((ckG gs).2 ≠ 0 → e = .returned (.tuple #[.slice none 0 0, .int .i64 (ckG gs).2])) ∧ ((ckG gs).2 = 0 → (i < 0 ∨ (gs.length : Int) ≤ i → e = .returned (.tuple #[.slice none 0 0, .int .i64 1])) ∧ (∀ r : Nat, i = (r : Int) → r < gs.length → ∃ now v, KnF gs now ∧ now.length = gs.length ∧ e = .returned (.tuple #[v, .int .i64 0]) ∧ w'.ownsRow w.heap.size 3 1 v (hdl gs.length (hdM gs (nbE now)) r).length ((hdl gs.length (hdM gs (nbE now)) r).map U.nI)))
/-- What Loops says, by the program. -/
def LoR (gs : GL) (w w' : World) (e : Ending) : Prop := ((ckG gs).2 ≠ 0 → e = .returned (.tuple #[.slice none 0 0, .int .i64 (ckG gs).2])) ∧ ((ckG gs).2 = 0 → ∃ now v, KnF gs now ∧ now.length = gs.length ∧ e = .returned (.tuple #[v, .int .i64 0]) ∧ w'.ownsRow w.heap.size 31 2 v (lpG gs (nbE now) gs.length).length (spc (lpG gs (nbE now) gs.length)))

set_option maxRecDepth 100000 in
set_option maxHeartbeats 16000000 in
/-- Check, by the program. -/
theorem fcheck_any (gs : GL) (A : Option Addr) (c : Nat) (w : World) (hp : GI w A gs) :
    Calls Tryz.prog 7 #[.agg #[.slice A gs.length c]] w fun e w' => (∃ (vc : Value) (l : List Nat) (p q : Nat) (cd : Int), e = .returned (.tuple #[.agg #[vc, .int .i64 (p : Int), .int .i64 (q : Int)], .int .i64 cd]) ∧ VdR gs l p q cd ∧ w'.ownsRow w.heap.size 3 1 vc l.length (l.map U.nI)) ∧ Below w.heap.size w w' := by
  obtain ⟨w1, hw1⟩ : ∃ w1, w1 = (w.alloc (.cells #[.slice A gs.length c] 24)).alloc (.cells #[.slice none 0 0, .int .i64 0, .int .i64 0] 33) := ⟨_, rfl⟩
  have HE1 := (show Hid ((w.alloc (.cells #[.slice A gs.length c] 24)).alloc (.cells #[.slice none 0 0, .int .i64 0, .int .i64 0] 33) = w1) from hw1.symm)
  have s0 := World.size_alloc w (.cells #[.slice A gs.length c] 24)
  have HS := (show Hid (Below w.heap.size w w1 ∧ GX w1 w.heap.size (.slice A gs.length c) ∧ DX w1 (w.heap.size + 1) (.slice none 0 0) 0 0 ∧ w1.heap.size = w.heap.size + 2) from by
    refine ⟨by rw [hw1]; exact ((Below.refl _ _).alloc (Nat.le_refl _) _).alloc (by omega) _, by rw [hw1]; exact (GX.mk (heap_alloc_new w _)).below (below_box _ _), ?_, by rw [hw1, World.size_alloc, s0]⟩
    have h := DX.new (w.alloc (.cells #[.slice A gs.length c] 24)) (.slice none 0 0) 0 0
    rw [s0, ← hw1] at h
    exact h)
  have HJ := (show Hid (∀ _ : Unit, Calls Tryz.prog 21 #[.agg #[.slice A gs.length c]] w1 fun e w' => (∃ (hv vc : Value) (l : List Nat) (p q : Nat) (cd : Int), e = .returned (.tuple #[hv, .agg #[vc, .int .i64 (p : Int), .int .i64 (q : Int)], .int .i64 cd]) ∧ VdR gs l p q cd ∧ w'.ownsRow w1.heap.size 3 1 vc l.length (l.map U.nI) ∧ (cd = 0 → ∃ now xs, KnF gs now ∧ now.length = gs.length ∧ xs.length = gs.length ∧ TT w' w1.heap.size 29 3 hv (hdT gs.length (hdM gs (nbE now)) gs.length) xs)) ∧ Below w1.heap.size w1 w') from fun _ => judged_any gs A c w1 (hp.later HS.out.1))
  have q1 := HS.out.2.1.cl
  clear hw1 s0 hp
  go_enter Tryz.func7, Tryz.ntmps7
  go_wp2_with (rw [HE1.out])
  refine (HJ.out ()).mono ?_
  rintro e w2 ⟨⟨hv, vc, l, p, q, cd, rfl, hvd, ho, _⟩, b2⟩
  obtain ⟨Ac, cc, rfl⟩ := own_slice ho
  have HV := (show Hid (VdR gs l p q cd) from hvd)
  obtain ⟨w3, hw3⟩ : ∃ w3, w3 = w2.alloc (.cells #[(.slice Ac l.length cc), .int .i64 (p : Int), .int .i64 (q : Int)] 33) := ⟨_, rfl⟩
  have HE3 := (show Hid (w2.alloc (.cells #[(.slice Ac l.length cc), .int .i64 (p : Int), .int .i64 (q : Int)] 33) = w3) from hw3.symm)
  have hb3 : Below w2.heap.size w2 w3 := by rw [hw3]; exact below_box _ _
  have hd3 : DX w3 w2.heap.size (.slice Ac l.length cc) p q := by rw [hw3]; exact DX.new w2 _ _ _
  have c0 := hd3.c0
  have c1 := hd3.c1
  have c2 := hd3.c2
  have HD3 := (show Hid (DX w3 (w.heap.size + 1) (.slice none 0 0) 0 0) from (HS.out.2.2.1.below b2).below hb3)
  have d0 := HD3.out.c0
  have d1 := HD3.out.c1
  have d2 := HD3.out.c2
  have f0 := HD3.out.fz 0
  have f1 := HD3.out.fz 1
  have f2 := HD3.out.fz 2
  obtain ⟨w4, hw4⟩ : ∃ w4, w4 = sV w3 (w.heap.size + 1) (.slice Ac l.length cc) p q := ⟨_, rfl⟩
  have HE4 := (show Hid (((w3.setCell ⟨w.heap.size + 1, 0, none⟩ (.slice Ac l.length cc)).setCell ⟨w.heap.size + 1, 1, none⟩ (.int .i64 (p : Int))).setCell ⟨w.heap.size + 1, 2, none⟩ (.int .i64 (q : Int)) = w4) from hw4.symm)
  have hbb : Below w.heap.size w w3 := (HS.out.1.trans (b2.mono HS.out.1.size)).trans (hb3.mono (HS.out.1.trans (b2.mono HS.out.1.size)).size)
  have HB4 := (show Hid (Below w.heap.size w w4 ∧ DX w4 (w.heap.size + 1) (.slice Ac l.length cc) p q) from by rw [hw4]; exact ⟨sV_below _ _ _ hbb (Nat.le_succ _), sV_dx HD3.out _ _ _⟩)
  have HO := (show Hid (w4.ownsRow w.heap.size 3 1 (.slice Ac l.length cc) l.length (l.map U.nI)) from by
    have h3 := own_below ho hb3
    have h4 : w4.ownsRow w1.heap.size 3 1 (.slice Ac l.length cc) l.length (l.map U.nI) := own_same h3 fun k e => by
      have h1 := (h3.lt k e).1
      have h2 := HS.out.2.2.2
      rw [hw4]
      exact sV_other _ _ _ _ _ (by omega)
    have h2 := HS.out.2.2.2
    exact own_base h4 (by omega))
  clear hvd ho b2 hw3 hb3 hd3 hw4 hbb HS HE1 HJ q1 HD3
  go_wp2_with (first | rw [HE3.out] | rw [HE4.out])
  refine ret_ck (b := w.heap.size + 1) (by rfl) (by rfl) (by rfl) (by rfl) HB4.out.2 ⟨⟨_, l, p, q, cd, rfl, HV.out, HO.out⟩, HB4.out.1⟩

set_option maxRecDepth 100000 in
set_option maxHeartbeats 16000000 in
/-- Loops, by the program. -/
theorem floops_any (gs : GL) (A : Option Addr) (c : Nat) (w : World) (hp : GI w A gs) :
    Calls Tryz.prog 28 #[.agg #[.slice A gs.length c]] w fun e w' => LoR gs w w' e ∧ Below w.heap.size w w' := by
  obtain ⟨w1, hw1⟩ : ∃ w1, w1 = w.alloc (.cells #[.slice A gs.length c] 24) := ⟨_, rfl⟩
  have HE1 := (show Hid (w.alloc (.cells #[.slice A gs.length c] 24) = w1) from hw1.symm)
  have HS := (show Hid (Below w.heap.size w w1 ∧ GX w1 w.heap.size (.slice A gs.length c)) from by rw [hw1]; exact ⟨below_box _ _, GX.mk (heap_alloc_new w _)⟩)
  have HVw := (show Hid (∀ _ : Unit, Calls Tryz.prog 23 #[.agg #[.slice A gs.length c]] w1 fun e w' => VwR w1 w' gs A c e ∧ Below w1.heap.size w1 w') from fun _ => viewOf_any gs A c w1 (hp.later HS.out.1))
  have HP := (show Hid (GI w A gs) from hp)
  have q1 := HS.out.2.cl
  clear hw1 hp
  go_enter Tryz.func28, Tryz.ntmps28
  go_wp2_with (rw [HE1.out])
  refine (HVw.out ()).mono ?_
  rintro e w2 ⟨hvw, b2⟩
  have HS2 := (show Hid (Below w.heap.size w w2 ∧ GX w2 w.heap.size (.slice A gs.length c)) from ⟨HS.out.1.trans (b2.mono HS.out.1.size), HS.out.2.below b2⟩)
  clear HVw HE1 q1 HS b2
  by_cases hz : (ckG gs).2 = 0
  · obtain ⟨mb, Ak, ck, now, rfl, hm, hk, hkf, hnl, hok, _⟩ := hvw.2 hz
    have hR := ckG_ok.1 hz
    have hn2 := hR.n2
    obtain ⟨w3, hw3⟩ : ∃ w3, w3 = w2.alloc (.cells #[.slice A gs.length c, .map (some mb), .slice Ak gs.length ck] 66) := ⟨_, rfl⟩
    have HE3 := (show Hid (w2.alloc (.cells #[.slice A gs.length c, .map (some mb), .slice Ak gs.length ck] 66) = w3) from hw3.symm)
    have hb3 : Below w2.heap.size w2 w3 := by rw [hw3]; exact below_box _ _
    have HX3 := (show Hid (VX w3 w2.heap.size (.slice A gs.length c) (.map (some mb)) (.slice Ak gs.length ck)) from by rw [hw3]; exact VX.new w2 _ _ _)
    have HB3 := (show Hid (Below w.heap.size w w3) from HS2.out.1.trans (hb3.mono HS2.out.1.size))
    have HV := (show Hid (VwO w3 gs A mb Ak now) from ⟨hR, HP.out.later HB3.out, hm.later hb3, hk.later hb3, hnl⟩)
    have HKn := (show Hid (KnF gs now ∧ now.length = gs.length ∧ (ckG gs).2 = 0) from ⟨hkf, hnl, hz⟩)
    have y0 := HX3.out.c0
    have y1 := HX3.out.c1
    have y2 := HX3.out.c2
    have q3 := (HS2.out.2.below hb3).cl
    clear hvw hm hk hkf hnl hok hz hR hw3 hb3 HX3 HS2 HP
    have HLo := (show Hid (∀ _ : Unit, Calls Tryz.prog 38 #[.agg #[.slice A gs.length c, .map (some mb), .slice Ak gs.length ck]] w3 fun e w' => (∃ v, e = .returned v ∧ w'.ownsRow w3.heap.size 31 2 v (lpG gs (nbE now) gs.length).length (spc (lpG gs (nbE now) gs.length))) ∧ Below w3.heap.size w3 w') from fun _ => vloops_any mb A Ak c ck w3 HV.out)
    go_wp2_with (rw [HE3.out])
    refine (HLo.out ()).mono ?_
    rintro e w4 ⟨⟨v, rfl, ho⟩, b4⟩
    have HF := (show Hid (w4.ownsRow w.heap.size 31 2 v (lpG gs (nbE now) gs.length).length (spc (lpG gs (nbE now) gs.length)) ∧ Below w.heap.size w w4) from ⟨own_base ho HB3.out.size, HB3.out.trans (b4.mono HB3.out.size)⟩)
    clear ho b4 HLo HE3 y0 y1 y2 q3
    go_wp2_with fail
    refine bodyPost_ret (v := .tuple #[v, .int .i64 0]) (by simp [results, Tryz.results28, go_sem]) rfl ?_
    exact ⟨⟨fun q => absurd HKn.out.2.2 q, fun _ => ⟨now, v, HKn.out.1, HKn.out.2.1, rfl, HF.out.1⟩⟩, HF.out.2⟩
  · have e1 := hvw.1 hz
    subst e1
    have tz : ((ckG gs).2 != 0) = true := by rw [bne, beq_eq_false_iff_ne.2 hz]; rfl
    have HZ := (show Hid ((ckG gs).2 ≠ 0) from hz)
    obtain ⟨w3, hw3⟩ : ∃ w3, w3 = w2.alloc (.cells #[.slice none 0 0, .map none, .slice none 0 0] 66) := ⟨_, rfl⟩
    have HE3 := (show Hid (w2.alloc (.cells #[.slice none 0 0, .map none, .slice none 0 0] 66) = w3) from hw3.symm)
    have HB3 := (show Hid (Below w.heap.size w w3) from by rw [hw3]; exact HS2.out.1.trans ((below_box _ _).mono HS2.out.1.size))
    clear hvw hz hw3 HS2 HP
    go_wp2_with fail
    rw [HE3.out]
    refine bodyPost_ret (v := .tuple #[.slice none 0 0, .int .i64 (ckG gs).2]) (by simp [results, Tryz.results28, go_sem]) rfl ?_
    exact ⟨⟨fun _ => rfl, fun q => absurd q HZ.out⟩, HB3.out⟩

set_option maxRecDepth 100000 in
set_option maxHeartbeats 16000000 in
/-- Heads, by the program. -/
theorem fheads_any (gs : GL) (A : Option Addr) (c : Nat) (i : Int) (w : World) (hp : GI w A gs) :
    Calls Tryz.prog 11 #[.agg #[.slice A gs.length c], .int .i64 i] w fun e w' => HdR gs w w' i e ∧ Below w.heap.size w w' := by
  obtain ⟨w1, hw1⟩ : ∃ w1, w1 = w.alloc (.cells #[.slice A gs.length c] 24) := ⟨_, rfl⟩
  have HE1 := (show Hid (w.alloc (.cells #[.slice A gs.length c] 24) = w1) from hw1.symm)
  have HS := (show Hid (Below w.heap.size w w1 ∧ GX w1 w.heap.size (.slice A gs.length c)) from by rw [hw1]; exact ⟨below_box _ _, GX.mk (heap_alloc_new w _)⟩)
  have HVw := (show Hid (∀ _ : Unit, Calls Tryz.prog 23 #[.agg #[.slice A gs.length c]] w1 fun e w' => VwR w1 w' gs A c e ∧ Below w1.heap.size w1 w') from fun _ => viewOf_any gs A c w1 (hp.later HS.out.1))
  have HP := (show Hid (GI w A gs) from hp)
  have q1 := HS.out.2.cl
  clear hw1 hp
  go_enter Tryz.func11, Tryz.ntmps11
  go_wp2_with (rw [HE1.out])
  refine (HVw.out ()).mono ?_
  rintro e w2 ⟨hvw, b2⟩
  have HS2 := (show Hid (Below w.heap.size w w2 ∧ GX w2 w.heap.size (.slice A gs.length c)) from ⟨HS.out.1.trans (b2.mono HS.out.1.size), HS.out.2.below b2⟩)
  clear HVw HE1 q1 HS b2
  by_cases hz : (ckG gs).2 = 0
  · obtain ⟨mb, Ak, ck, now, rfl, hm, hk, hkf, hnl, hok, _⟩ := hvw.2 hz
    have hR := ckG_ok.1 hz
    have hn2 := hR.n2
    obtain ⟨w3, hw3⟩ : ∃ w3, w3 = w2.alloc (.cells #[.slice A gs.length c, .map (some mb), .slice Ak gs.length ck] 66) := ⟨_, rfl⟩
    have HE3 := (show Hid (w2.alloc (.cells #[.slice A gs.length c, .map (some mb), .slice Ak gs.length ck] 66) = w3) from hw3.symm)
    have hb3 : Below w2.heap.size w2 w3 := by rw [hw3]; exact below_box _ _
    have HX3 := (show Hid (VX w3 w2.heap.size (.slice A gs.length c) (.map (some mb)) (.slice Ak gs.length ck)) from by rw [hw3]; exact VX.new w2 _ _ _)
    have HB3 := (show Hid (Below w.heap.size w w3) from HS2.out.1.trans (hb3.mono HS2.out.1.size))
    have HV := (show Hid (VwO w3 gs A mb Ak now) from ⟨hR, HP.out.later HB3.out, hm.later hb3, hk.later hb3, hnl⟩)
    have HKn := (show Hid (KnF gs now ∧ now.length = gs.length ∧ (ckG gs).2 = 0) from ⟨hkf, hnl, hz⟩)
    have y0 := HX3.out.c0
    have y1 := HX3.out.c1
    have y2 := HX3.out.c2
    have q3 := (HS2.out.2.below hb3).cl
    clear hvw hm hk hkf hnl hok hz hR hw3 hb3 HX3 HS2 HP
    by_cases h0 : i < 0
    · have HI := (show Hid (i < 0) from h0)
      go_wp2_with (rw [HE3.out])
      refine bodyPost_ret (v := .tuple #[.slice none 0 0, .int .i64 1]) (by simp [results, Tryz.results11, go_sem]) rfl ?_
      exact ⟨⟨fun q => absurd HKn.out.2.2 q, fun _ => ⟨fun _ => rfl, fun r e1 _ => by have := HI.out; omega⟩⟩, HB3.out⟩
    · obtain ⟨r, rfl⟩ : ∃ r : Nat, i = (r : Int) := ⟨i.toNat, by omega⟩
      by_cases h1 : r < gs.length
      · have h2 : ¬ (gs.length : Int) ≤ (r : Int) := by omega
        obtain ⟨g, hg⟩ : ∃ g, gs[r]? = some g := ⟨_, List.getElem?_eq_getElem h1⟩
        have HI := (show Hid (r < gs.length) from h1)
        have HHe := (show Hid (∀ _ : Unit, Calls Tryz.prog 24 #[.agg #[.slice A gs.length c, .map (some mb), .slice Ak gs.length ck], .int .i64 (r : Int)] w3 fun e w' => (∃ v, e = .returned v ∧ w'.ownsRow w3.heap.size 3 1 v (hdl gs.length (hdM gs (nbE now)) r).length ((hdl gs.length (hdM gs (nbE now)) r).map U.nI)) ∧ Below w3.heap.size w3 w') from fun _ => headsOf_any mb A Ak c ck hg w3 HV.out)
        clear hg
        go_wp2_with (rw [HE3.out])
        refine (HHe.out ()).mono ?_
        rintro e w4 ⟨⟨v, rfl, ho⟩, b4⟩
        have HF := (show Hid (w4.ownsRow w.heap.size 3 1 v (hdl gs.length (hdM gs (nbE now)) r).length ((hdl gs.length (hdM gs (nbE now)) r).map U.nI) ∧ Below w.heap.size w w4) from ⟨own_base ho HB3.out.size, HB3.out.trans (b4.mono HB3.out.size)⟩)
        clear ho b4 HHe HE3 y0 y1 y2 q3
        go_wp2_with fail
        refine bodyPost_ret (v := .tuple #[v, .int .i64 0]) (by simp [results, Tryz.results11, go_sem]) rfl ?_
        exact ⟨⟨fun q => absurd HKn.out.2.2 q, fun _ => ⟨fun q => by have := HI.out; omega, fun r2 e1 _ => by
          have e2 : r = r2 := by omega
          subst e2
          exact ⟨now, v, HKn.out.1, HKn.out.2.1, rfl, HF.out.1⟩⟩⟩, HF.out.2⟩
      · have h2 : (gs.length : Int) ≤ (r : Int) := by omega
        have HI := (show Hid (¬ r < gs.length) from h1)
        go_wp2_with (rw [HE3.out])
        refine bodyPost_ret (v := .tuple #[.slice none 0 0, .int .i64 1]) (by simp [results, Tryz.results11, go_sem]) rfl ?_
        exact ⟨⟨fun q => absurd HKn.out.2.2 q, fun _ => ⟨fun _ => rfl, fun r2 e1 h3 => by have := HI.out; omega⟩⟩, HB3.out⟩
  · have e1 := hvw.1 hz
    subst e1
    have tz : ((ckG gs).2 != 0) = true := by rw [bne, beq_eq_false_iff_ne.2 hz]; rfl
    have HZ := (show Hid ((ckG gs).2 ≠ 0) from hz)
    obtain ⟨w3, hw3⟩ : ∃ w3, w3 = w2.alloc (.cells #[.slice none 0 0, .map none, .slice none 0 0] 66) := ⟨_, rfl⟩
    have HE3 := (show Hid (w2.alloc (.cells #[.slice none 0 0, .map none, .slice none 0 0] 66) = w3) from hw3.symm)
    have HB3 := (show Hid (Below w.heap.size w w3) from by rw [hw3]; exact HS2.out.1.trans ((below_box _ _).mono HS2.out.1.size))
    clear hvw hz hw3 HS2 HP
    go_wp2_with fail
    rw [HE3.out]
    refine bodyPost_ret (v := .tuple #[.slice none 0 0, .int .i64 (ckG gs).2]) (by simp [results, Tryz.results11, go_sem]) rfl ?_
    exact ⟨⟨fun _ => rfl, fun q => absurd q HZ.out⟩, HB3.out⟩
end Go.Proofs.YtbipjdgholdhcabGreat.N

namespace Go.Proofs.YtbipjdgholdhcabGreat.N
open Go.RowKit Go.Maps
open Go.Proofs.YtbipjdgholdhcabGreat.T

open U (below_grown own_get own_slice TT)
theorem Tryz.infoBs : (Tryz.prog.info? 82).map (fun i => (i.zero, i.size, i.bytes)) = some (some (.slice none 0 0), 1, 24) := by kernel_rfl
/-- Rows of marks: the heads of the rules. -/
def hbT (n : Nat) (c : Mx) (k : Nat) : List (List Value) := (List.range k).map fun i => ((List.range n).map (c i)).map Value.bool
theorem hbT_succ (n : Nat) (c : Mx) (k : Nat) : hbT n c (k + 1) = hbT n c k ++ [((List.range n).map (c k)).map Value.bool] := by unfold hbT; rw [List.range_succ, List.map_append]; rfl
theorem rdB_own {W : World} {B n g cap : Nat} {l : List Bool} (h : W.ownsRow B 4 1 (.slice (some ⟨g, 0, none⟩) n cap) n (l.map Value.bool)) : RdB W g l := fun j b hj => by
  obtain ⟨g', c', e, _, _, x, _⟩ := own_get h (j := j) (x := .bool b) (by rw [List.getElem?_map, hj]; rfl)
  have e1 : g = g' := by injection e with e1; injection e1 with e1; injection e1
  subst e1
  exact x
/-- The document's heads of a rule are a row of the matrix. -/
theorem headsM_any {gs : GL} (hR : RtG gs) (nb : List Bool) (hlo : nb.length = gs.length) {r : Nat} (hr0 : r < gs.length) (A : Option Addr) (c gI ci : Nat) (w : World) (hp : GI w A gs) (hr : RdB w gI nb) :
    Calls Tryz.prog 49 #[.agg #[.slice A gs.length c], .int .i64 (r : Int), .slice (some ⟨gI, 0, none⟩) gs.length ci] w fun e w' => (∃ (v : Value), e = .returned v ∧ w'.ownsRow w.heap.size 4 1 v gs.length (((List.range gs.length).map (hdM gs nb r)).map Value.bool)) ∧ Below w.heap.size w w' := by
  obtain ⟨⟨gn, L⟩, hg⟩ : ∃ g, gs[r]? = some g := ⟨_, List.getElem?_eq_getElem hr0⟩
  refine (headsD_any hR nb hlo hg A c gI ci w hp hr).mono ?_
  rintro e w' ⟨⟨v, out, rfl, hl, hq, ho⟩, hb⟩
  have e1 := bits_of (c := hdM gs nb r) hl (fun q => by rw [hq q]; unfold hdM; rw [hg])
  rw [e1] at ho
  exact ⟨⟨v, rfl, ho⟩, hb⟩
structure AhS (w2 wr : World) (n : Nat) (cx : Mx) (k : Nat) (v : Value) : Prop where
  b : Below w2.heap.size w2 wr
  t : ∃ xs, xs.length = k ∧ TT wr w2.heap.size 82 4 v (hbT n cx k) xs
theorem AhS.later {w2 wr w3 : World} {n : Nat} {cx : Mx} {k : Nat} {v : Value} (h : AhS w2 wr n cx k v) (hb : Below wr.heap.size wr w3) : AhS w2 w3 n cx k v := by
  obtain ⟨xs, h1, h2⟩ := h.t
  exact ⟨h.b.trans (hb.mono h.b.size), ⟨xs, h1, h2.below hb⟩⟩
set_option maxRecDepth 100000 in
set_option maxHeartbeats 16000000 in
/-- The document: the heads of all rules. -/
theorem allHeads_any {gs : GL} (hR : RtG gs) {now : List Em} (hk : KnF gs now) (hnl : now.length = gs.length) (A : Option Addr) (c : Nat) (w : World) (hp : GI w A gs) :
    Calls Tryz.prog 46 #[.agg #[.slice A gs.length c]] w fun e w' => (∃ v xs, e = .returned v ∧ xs.length = gs.length ∧ TT w' w.heap.size 82 4 v (hbT gs.length (hdM gs (nbE now)) gs.length) xs) ∧ Below w.heap.size w w' := by
  have hn2 := hR.n2
  have hn1 := hR.n1
  obtain ⟨w1, hw1⟩ : ∃ w1, w1 = w.alloc (.cells #[.slice A gs.length c] 24) := ⟨_, rfl⟩
  have HE1 := (show Hid (w.alloc (.cells #[.slice A gs.length c] 24) = w1) from hw1.symm)
  have HS1 := (show Hid (Below w.heap.size w w1 ∧ GX w1 w.heap.size (.slice A gs.length c)) from by rw [hw1]; exact ⟨below_box _ _, GX.mk (heap_alloc_new w _)⟩)
  have HN := (show Hid (∀ _ : Unit, Calls Tryz.prog 50 #[.agg #[.slice A gs.length c]] w1 fun e w' => (∃ v, e = .returned v ∧ w'.ownsRow w1.heap.size 4 1 v gs.length ((now.map Em.nu).map Value.bool)) ∧ Below w1.heap.size w1 w') from fun _ => nullableD_any hR hk hnl A c w1 (hp.later HS1.out.1))
  have HR := (show Hid (RtG gs ∧ (nbE now).length = gs.length ∧ 0 < gs.length) from ⟨hR, by unfold nbE; rw [List.length_map]; exact hnl, hn1⟩)
  have HP := (show Hid (GI w A gs) from hp)
  have q1 := HS1.out.2.cl
  clear hR hk hnl hp hw1 hn1
  go_enter Tryz.func46, Tryz.ntmps46
  go_wp2_with (rw [HE1.out])
  refine (HN.out ()).mono ?_
  rintro e w2 ⟨⟨v2, rfl, ho2⟩, b2⟩
  obtain ⟨gI, ci, rfl, _⟩ := ho2.form HR.out.2.2
  have HB2 := (show Hid (Below w.heap.size w w2 ∧ GX w2 w.heap.size (.slice A gs.length c) ∧ RdB w2 gI (nbE now)) from ⟨HS1.out.1.trans (b2.mono HS1.out.1.size), HS1.out.2.below b2, rdB_own ho2⟩)
  have HS := (show Hid (AhS w2 w2 gs.length (hdM gs (nbE now)) 0 (.slice none 0 0)) from ⟨Below.refl _ _, ⟨[], rfl, TT.nil _ _ _ _⟩⟩)
  clear HE1 q1 HN HS1 ho2 b2
  go_wp2_with fail
  go_loopw [4, 5] (fun v t wr => ∃ (k : Nat), k ≤ gs.length ∧ t = .int .i64 (k : Int) ∧ Hid (AhS w2 wr gs.length (hdM gs (nbE now)) k v)) (fun _ t _ => gs.length - (intOf t).toNat)
  case atStart => exact ⟨0, Nat.zero_le _, by go_num, HS⟩
  case round =>
    obtain ⟨k, hk, rfl, HW⟩ := hrel
    clear HS
    have q1 := (HB2.out.2.1.below HW.out.b).cl
    by_cases hlt : k < gs.length
    · have HH := (show Hid (∀ _ : Unit, Calls Tryz.prog 49 #[.agg #[.slice A gs.length c], .int .i64 (k : Int), .slice (some ⟨gI, 0, none⟩) gs.length ci] wr fun e w' => (∃ (v : Value), e = .returned v ∧ w'.ownsRow wr.heap.size 4 1 v gs.length (((List.range gs.length).map (hdM gs (nbE now) k)).map Value.bool)) ∧ Below wr.heap.size wr w') from fun _ => headsM_any HR.out.1 (nbE now) HR.out.2.1 hlt A c gI ci wr (HP.out.later (HB2.out.1.trans (HW.out.b.mono HB2.out.1.size))) (HB2.out.2.2.later HW.out.b))
      go_wp2_with fail
      refine (HH.out ()).mono ?_
      rintro e w4 ⟨⟨y, rfl, hy⟩, b4⟩
      obtain ⟨xs, hxl, hT⟩ := HW.out.t
      obtain ⟨A3, c3, hA3⟩ := own_slice hT.o
      have HW4 := (show Hid (AhS w2 w4 gs.length (hdM gs (nbE now)) k u4) from HW.out.later b4)
      have HO4 := (show Hid (w4.ownsRow w2.heap.size 82 1 u4 k xs) from by rw [← hxl]; exact U.own_below hT.o b4)
      have HN4 := (show Hid (w2.heap.size ≤ w4.heap.size) from HW4.out.b.size)
      have HPu := (show Hid (∀ (g5 cap5 : Nat) (w5 : World), w5.ownsRow w2.heap.size 82 1 (.slice (some ⟨g5, 0, none⟩) (k + 1) cap5) (k + 1) (xs ++ [y]) → w4.grownBy w5 u4.ownBlock → (u4.ownBlock = some g5 ∨ g5 = w4.heap.size + 1) → AhS w2 w5 gs.length (hdM gs (nbE now)) (k + 1) (.slice (some ⟨g5, 0, none⟩) (k + 1) cap5)) from fun g5 cap5 w5 h1 h2 h3 => by
        have hT4 := hT.below b4
        have hlow : ∀ q, u4.ownBlock = some q → w2.heap.size ≤ q := fun q hq => (hT.o.lt q hq).1
        refine ⟨below_grown HW4.out.b h2 hlow, ⟨xs ++ [y], by rw [List.length_append, hxl]; rfl, ?_⟩⟩
        rw [hbT_succ]
        refine hT4.push (by rw [List.length_map, List.length_map, List.length_range]; exact U.own_base hy HW.out.b.size) (fun q hq => hT.new (hy.lt q hq).1) (by rw [hxl]; exact h1) h2 (fun q hq => ?_)
        cases hq
        rcases h3 with e | e
        · exact .inl e
        · refine .inr ?_
          show w4.heap.size ≤ g5
          omega)
      have o1 : y.oneCell' = true := own_one hy
      obtain ⟨Ay, cy, hAy⟩ := own_slice hy
      subst hA3
      subst hAy
      clear hy b4 hT HW HH q1 hxl
      go_wp2_with (at_builtin; refine U.wpList_app1 rfl _ _ 93 rfl (.slice none 0 0) 24 Tryz.underlying93 Tryz.infoBs rfl w2.heap.size k _ _ rfl rfl HO4.out rfl (by omega) (by decide) HN4.out ?_; intro g5 cap5 w5 ho5 hg5 hat5 hl5; have HV5 := hid_of (HPu.out g5 cap5 w5 ho5 hg5 hat5); clear ho5 hg5 hat5 hl5 HPu HO4 HN4)
      go_roundw
      case rel => exact ⟨k + 1, by omega, by go_num, HV5⟩
      case measure => simp [intOf]; omega
    · obtain rfl : k = gs.length := by omega
      obtain ⟨xs, hxl, hT⟩ := HW.out.t
      have HO := (show Hid (TT wr w.heap.size 82 4 u4 (hbT gs.length (hdM gs (nbE now)) gs.length) xs ∧ xs.length = gs.length ∧ Below w.heap.size w wr) from ⟨hT.base HB2.out.1.size, hxl, HB2.out.1.trans (HW.out.b.mono HB2.out.1.size)⟩)
      clear hT hxl HW
      go_wp2_with fail
      go_ret
      exact ⟨⟨_, xs, rfl, HO.out.2.1, HO.out.1⟩, HO.out.2.2⟩
end Go.Proofs.YtbipjdgholdhcabGreat.N

namespace Go.Proofs.YtbipjdgholdhcabGreat.N
open Go.RowKit Go.Maps
open Go.Proofs.YtbipjdgholdhcabGreat.T

open U (below_grown own_get own_slice TT info_split)
/-- A matrix, told by rows of marks. -/
def RdM (W : World) (A : Option Addr) (n : Nat) (cx : Mx) : Prop := ∀ i, i < n → ∃ b g2 c2, A = some ⟨b, 0, none⟩ ∧ b < W.heap.size ∧ W.cell? ⟨b, i, none⟩ = some (.slice (some ⟨g2, 0, none⟩) n c2) ∧ g2 < W.heap.size ∧ ∀ q, q < n → W.cell? ⟨g2, q, none⟩ = some (.bool (cx i q))
theorem RdM.later {W W' : World} {A : Option Addr} {n : Nat} {cx : Mx} (h : RdM W A n cx) (hb : Below W.heap.size W W') : RdM W' A n cx := fun i hi => by
  obtain ⟨b, g2, c2, rfl, lb, x, lg, y⟩ := h i hi
  exact ⟨b, g2, c2, rfl, Nat.lt_of_lt_of_le lb hb.size, (hb.cell (p := ⟨b, i, none⟩) lb).trans x, Nat.lt_of_lt_of_le lg hb.size, fun q hq => (hb.cell (p := ⟨g2, q, none⟩) lg).trans (y q hq)⟩
theorem rdM_tt {W : World} {B n : Nat} {cx : Mx} {A : Option Addr} {c : Nat} {xs : List Value} (h : TT W B 82 4 (.slice A n c) (hbT n cx n) xs) (hl : xs.length = n) : RdM W A n cx := fun i hi => by
  obtain ⟨x, row, h1, h2, h3⟩ := h.at' (i := i) (by unfold hbT; rw [List.length_map, List.length_range]; exact hi)
  have h2 : (hbT n cx n)[i]? = some row := h2
  unfold hbT at h2
  rw [List.getElem?_map, List.getElem?_range hi] at h2
  have h2 : ((List.range n).map (cx i)).map Value.bool = row := Option.some.inj h2
  subst h2
  obtain ⟨b, cb, e1, _, hb, hcell, _⟩ := own_get h.o h1
  have eA : A = some ⟨b, 0, none⟩ := by injection e1
  rw [List.length_map, List.length_map, List.length_range] at h3
  have h4 := h3
  obtain ⟨g2, c2, rfl, _, lg⟩ := h4.form (by omega)
  have hb2 : b < W.heap.size := World.block_lt_of_cell? W _ hcell
  refine ⟨b, g2, c2, eA, hb2, hcell, lg, fun q hq => ?_⟩
  obtain ⟨g5, c5, e5, _, _, x5, _⟩ := own_get h3 (j := q) (x := .bool (cx i q)) (by rw [List.getElem?_map, List.getElem?_map, List.getElem?_range hq]; rfl)
  have e6 : g2 = g5 := by injection e5 with e1; injection e1 with e1; injection e1
  subst e6
  exact x5
/-- The row of distances, while it is reckoned. -/
structure FrS (w wr : World) (n gO : Nat) (out : List Int) : Prop where
  b : Below w.heap.size w wr
  o : wr.ownsRow w.heap.size 3 1 (.slice (some ⟨gO, 0, none⟩) n n) n (out.map (Value.int .i64))
  l : out.length = n
theorem FrS.put {w wr : World} {n gO : Nat} {out : List Int} (h : FrS w wr n gO out) (r : Nat) (v : Int) : FrS w (wr.setCell ⟨gO, r, none⟩ (.int .i64 v)) n gO (out.set r v) := by
  obtain ⟨s1, s2⟩ := h.o.stored r (.int .i64 v)
  refine ⟨below_grown h.b s2 (fun k e => by cases e; exact (h.o.lt gO rfl).1), ?_, by rw [List.length_set]; exact h.l⟩
  rw [List.map_set]
  exact s1
theorem FrS.at' {w wr : World} {n gO : Nat} {out : List Int} (h : FrS w wr n gO out) {j : Nat} {v : Int} (hj : out[j]? = some v) : wr.cell? ⟨gO, j, none⟩ = some (.int .i64 v) ∧ wr.frozen? ⟨gO, j, none⟩ = false := by
  obtain ⟨g', c', e, _, _, x, f⟩ := own_get h.o (j := j) (x := .int .i64 v) (by rw [List.getElem?_map, hj]; rfl)
  have e1 : gO = g' := by injection e with e1; injection e1 with e1; injection e1
  subst e1
  exact ⟨x, f⟩
/-- One entry of the document's distances, while the heads are gone through. -/
def FaW (n : Nat) (c : Mx) (to m j k : Nat) (out : List Int) : Prop := (∃ v, out[j]? = some v ∧ 0 ≤ v ∧ FaI n c to m (j + 1) out) ∨ (out[j]? = some (-1) ∧ FaI n c to m j out ∧ ∀ q, q < k → c j q = true → out[q]? ≠ some (m : Int))
theorem FaW.start {n : Nat} {c : Mx} {to m j : Nat} {out : List Int} (h : FaI n c to m j out) (hj : j < n) : FaW n c to m j 0 out := by
  obtain ⟨v, hv⟩ : ∃ v, out[j]? = some v := ⟨_, List.getElem?_eq_getElem (by rw [h.l]; exact hj)⟩
  by_cases h0 : 0 ≤ v
  · exact .inl ⟨v, hv, h0, h.has hv h0⟩
  · refine .inr ⟨?_, h, fun q hq => by omega⟩
    rcases h.d j v hv with ⟨e, _⟩ | ⟨t, e, _⟩
    · rw [← e]; exact hv
    · omega
theorem FaW.fin {n : Nat} {c : Mx} {to m j k : Nat} {out : List Int} (hc : ∀ i j, c i j = true → i < n ∧ j < n) (h : FaW n c to m j k out) (h0 : 0 < m) (hk : (∃ v, out[j]? = some v ∧ 0 ≤ v) ∨ k = n) : FaI n c to m (j + 1) out := by
  rcases h with ⟨_, _, _, h⟩ | ⟨h1, h2, h3⟩
  · exact h
  · rcases hk with ⟨v, q1, q2⟩ | rfl
    · rw [h1] at q1; have := Option.some.inj q1; omega
    · exact h2.no hc h0 h1 (fun q hq => h3 q (hc j q hq).2 hq)
theorem FaW.no {n : Nat} {c : Mx} {to m j k : Nat} {out : List Int} (h : FaW n c to m j k out) (hj : out[j]? = some (-1)) (hk : ¬ (c j k = true ∧ out[k]? = some (m : Int))) : FaW n c to m j (k + 1) out := by
  rcases h with ⟨v, q1, q2, _⟩ | ⟨h1, h2, h3⟩
  · rw [hj] at q1; have := Option.some.inj q1; omega
  · refine .inr ⟨h1, h2, fun q hq hc e => ?_⟩
    by_cases e2 : q = k
    · subst e2; exact hk ⟨hc, e⟩
    · exact h3 q (by omega) hc e
theorem FaW.yes {n : Nat} {c : Mx} {to m j k k2 : Nat} {out : List Int} (h : FaW n c to m j k out) (hj : out[j]? = some (-1)) (hk : out[k]? = some (m : Int)) (hc : c j k = true) : FaW n c to m j k2 (out.set j ((m + 1 : Nat) : Int)) := by
  rcases h with ⟨v, q1, q2, _⟩ | ⟨h1, h2, _⟩
  · rw [hj] at q1; have := Option.some.inj q1; omega
  · exact .inl ⟨((m + 1 : Nat) : Int), by rw [List.getElem?_set]; have := (List.getElem?_eq_some_iff.1 h1).1; simp [this], by omega, h2.set h1 hk hc⟩
set_option maxRecDepth 100000 in
set_option maxHeartbeats 32000000 in
/-- The document's distances. -/
theorem far_any {n : Nat} {cx : Mx} (hc : ∀ i j, cx i j = true → i < n ∧ j < n) (hn : n ≤ 200) {r : Nat} (hr : r < n) (A : Option Addr) (c : Nat) (w : World) (hp : RdM w A n cx) :
    Calls Tryz.prog 60 #[.slice A n c, .int .i64 (r : Int)] w fun e w' => (∃ gO out, e = .returned (.slice (some ⟨gO, 0, none⟩) n n) ∧ FaD n cx r out ∧ FrS w w' n gO out) ∧ Below w.heap.size w w' := by
  obtain ⟨i0, hinf, hz0, hz1, hz2⟩ := info_split Tryz.info3
  obtain ⟨w3, hmk3, ho3, hg3⟩ := run_make_full (P := Tryz.prog) w w.heap.size 29 3 i0 (.int .i64 0) 1 Tryz.underlying29 hinf hz0 hz1 .i64 .i64 n (by rw [hz2]; omega) (by unfold maxLen; omega) (by omega)
  have HS := (show Hid (FrS w w3 n w.heap.size (List.replicate n 0)) from by
    refine ⟨below_grown (Below.refl _ _) hg3 (fun k e => by cases e), ?_, List.length_replicate⟩
    have e : (madeCells (Value.cells (.int .i64 0)) (n * 1)).toList = List.replicate n (Value.int .i64 0) := by rw [Nat.mul_one]; exact toList_madeCells_one _ _
    rw [e] at ho3
    rw [List.map_replicate]
    exact ho3)
  have HB0 := (show Hid (FaB n cx r 0 (List.replicate n 0)) from ⟨List.length_replicate, fun i v h => absurd h (Nat.not_lt_zero _)⟩)
  have HC := (show Hid ((∀ i j, cx i j = true → i < n ∧ j < n) ∧ n ≤ 200) from ⟨hc, hn⟩)
  have HP := (show Hid (RdM w A n cx) from hp)
  have z8 : (0 : Int) ≤ (r : Int) := by omega
  have z9 : (r : Int) < (n : Int) := by omega
  clear hc hp hinf hz0 hz1 hz2 i0 ho3 hg3
  go_enter Tryz.func60, Tryz.ntmps60
  go_wp2_with fail
  clear hmk3
  generalize w.heap.size = gO at HS ⊢
  go_loopw [6] (fun t wr => ∃ (j : Nat) (out : List Int), j ≤ n ∧ t = .int .i64 (j : Int) ∧ Hid (FrS w wr n gO out) ∧ Hid (FaB n cx r j out)) (fun t _ => n - (intOf t).toNat)
  case atStart => exact ⟨0, _, Nat.zero_le _, by go_num, HS, HB0⟩
  case round =>
    obtain ⟨j, out, hj, rfl, HW, HB⟩ := hrel
    clear HS HB0
    by_cases hlt : j < n
    · obtain ⟨v, hv⟩ : ∃ v, out[j]? = some v := ⟨_, List.getElem?_eq_getElem (by rw [HW.out.l]; exact hlt)⟩
      obtain ⟨xo, fo⟩ := HW.out.at' hv
      obtain ⟨w5, hw5⟩ : ∃ w5, w5 = wr.setCell ⟨gO, j, none⟩ (.int .i64 (-1)) := ⟨_, rfl⟩
      have HE5 := (show Hid (wr.setCell ⟨gO, j, none⟩ (.int .i64 (-1)) = w5) from hw5.symm)
      have HW5 := (show Hid (FrS w w5 n gO (out.set j (-1))) from by rw [hw5]; exact HW.out.put j (-1))
      obtain ⟨b, g2, c2, rfl, lb, x1, lg, y1⟩ := HP.out j hlt
      have x1' := (HW5.out.b.cell (p := ⟨b, j, none⟩) lb).trans x1
      have y1' := (HW5.out.b.cell (p := ⟨g2, r, none⟩) lg).trans (y1 r hr)
      obtain ⟨xo5, fo5⟩ := HW5.out.at' (j := j) (v := -1) (by rw [List.getElem?_set]; have := (List.getElem?_eq_some_iff.1 hv).1; simp [this])
      have z0 : (0 : Int) ≤ (j : Int) := by omega
      have z1 : (j : Int) < (n : Int) := by omega
      have HSt := (show Hid (FaB n cx r (j + 1) (out.set j (if cx j r then 1 else -1))) from HB.out.step)
      clear hw5 hv lb x1 lg y1 HW HB
      cases hcx : cx j r with
      | true =>
        rw [hcx] at y1'
        have HB2 := (show Hid (FaB n cx r (j + 1) ((out.set j (-1)).set j 1)) from by rw [List.set_set]; have h := HSt.out; rw [hcx, if_pos rfl] at h; exact h)
        have HW6 := (show Hid (FrS w (w5.setCell ⟨gO, j, none⟩ (.int .i64 1)) n gO ((out.set j (-1)).set j 1)) from HW5.out.put j 1)
        clear hcx HSt HW5
        go_wp2_with (rw [HE5.out])
        go_roundw
        case rel => exact ⟨j + 1, _, by omega, by go_num, HW6, HB2⟩
        case measure => simp [intOf]; omega
      | false =>
        rw [hcx] at y1'
        have HB2 := (show Hid (FaB n cx r (j + 1) (out.set j (-1))) from by have h := HSt.out; rw [hcx, if_neg Bool.noConfusion] at h; exact h)
        clear hcx HSt
        go_wp2_with (rw [HE5.out])
        go_roundw
        case rel => exact ⟨j + 1, _, by omega, by go_num, HW5, HB2⟩
        case measure => simp [intOf]; omega
    · obtain rfl : j = n := by omega
      have HI0 := (show Hid (FaI j cx r 1 0 out) from HB.out.fin)
      clear HB
      go_wp2_with fail
      go_loopw [7] (fun t wr => ∃ (m : Nat) (out : List Int), 1 ≤ m ∧ m ≤ j ∧ t = .int .i64 (m : Int) ∧ Hid (FrS w wr j gO out) ∧ Hid (FaI j cx r m 0 out)) (fun t _ => j - (intOf t).toNat)
      case atStart => exact ⟨1, out, Nat.le_refl _, by omega, by go_num, HW, HI0⟩
      case round =>
        obtain ⟨m, out, hm1, hm2, rfl, HW2, HI⟩ := hrel
        clear HW HI0
        by_cases hmj : m < j
        · go_wp2_with fail
          go_loopw [8] (fun t wr => ∃ (i : Nat) (out : List Int), i ≤ j ∧ t = .int .i64 (i : Int) ∧ Hid (FrS w wr j gO out) ∧ Hid (FaI j cx r m i out)) (fun t _ => j - (intOf t).toNat)
          case atStart => exact ⟨0, out, Nat.zero_le _, by go_num, HW2, HI⟩
          case round =>
            obtain ⟨i, out, hi, rfl, HW3, HI3⟩ := hrel
            clear HW2 HI
            by_cases hij : i < j
            · have HF0 := (show Hid (FaW j cx r m i 0 out) from FaW.start HI3.out hij)
              clear HI3
              go_wp2_with fail
              go_loopw [9] (fun t wr => ∃ (k : Nat) (out : List Int), k ≤ j ∧ t = .int .i64 (k : Int) ∧ Hid (FrS w wr j gO out) ∧ Hid (FaW j cx r m i k out)) (fun t _ => j - (intOf t).toNat)
              case atStart => exact ⟨0, out, Nat.zero_le _, by go_num, HW3, HF0⟩
              case round =>
                obtain ⟨k, out, hk, rfl, HW4, HF⟩ := hrel
                clear HW3 HF0
                obtain ⟨v, hv⟩ : ∃ v, out[i]? = some v := ⟨_, List.getElem?_eq_getElem (by rw [HW4.out.l]; exact hij)⟩
                obtain ⟨xo, fo⟩ := HW4.out.at' hv
                have z0 : (0 : Int) ≤ (i : Int) := by omega
                have z1 : (i : Int) < (j : Int) := by omega
                by_cases hv0 : 0 ≤ v
                · have hv1 : ¬ v < 0 := by omega
                  have HI4 := (show Hid (FaI j cx r m (i + 1) out) from HF.out.fin HC.out.1 hm1 (.inl ⟨v, hv, hv0⟩))
                  clear HF hv
                  go_wp2_with fail
                  go_roundw
                  case rel => exact ⟨i + 1, out, by omega, by go_num, HW4, HI4⟩
                  case measure => simp [intOf]; omega
                · have hvm : v = -1 := by
                    rcases HF.out with ⟨v2, q1, q2, _⟩ | ⟨q1, _⟩
                    · rw [hv] at q1; have := Option.some.inj q1; omega
                    · rw [hv] at q1; exact Option.some.inj q1
                  subst hvm
                  by_cases hkj : k < j
                  · obtain ⟨b, g2, c2, rfl, lb, x1, lg, y1⟩ := HP.out i hij
                    have x1' := (HW4.out.b.cell (p := ⟨b, i, none⟩) lb).trans x1
                    have y1' := (HW4.out.b.cell (p := ⟨g2, k, none⟩) lg).trans (y1 k hkj)
                    obtain ⟨v2, hv2⟩ : ∃ v2, out[k]? = some v2 := ⟨_, List.getElem?_eq_getElem (by rw [HW4.out.l]; exact hkj)⟩
                    obtain ⟨xk, _⟩ := HW4.out.at' hv2
                    have z2 : (0 : Int) ≤ (k : Int) := by omega
                    have z3 : (k : Int) < (j : Int) := by omega
                    have HV := (show Hid (out[i]? = some (-1) ∧ out[k]? = some v2) from ⟨hv, hv2⟩)
                    clear hv hv2 lb x1 lg y1 hv0
                    cases hcx : cx i k with
                    | false =>
                      rw [hcx] at y1'
                      have HF2 := (show Hid (FaW j cx r m i (k + 1) out) from HF.out.no HV.out.1 (fun q => by rw [hcx] at q; exact absurd q.1 Bool.noConfusion))
                      clear hcx HF HV
                      go_wp2_with fail
                      go_roundw
                      case rel => exact ⟨k + 1, out, by omega, by go_num, HW4, HF2⟩
                      case measure => simp [intOf]; omega
                    | true =>
                      rw [hcx] at y1'
                      by_cases hvv : v2 = (m : Int)
                      · subst hvv
                        have HF2 := (show Hid (FaW j cx r m i (k + 1) (out.set i ((m : Int) + 1))) from HF.out.yes HV.out.1 HV.out.2 hcx)
                        have HW5 := (show Hid (FrS w (wr.setCell ⟨gO, i, none⟩ (.int .i64 ((m : Int) + 1))) j gO (out.set i ((m : Int) + 1))) from HW4.out.put i _)
                        clear hcx HF HV HW4
                        go_wp2_with fail
                        go_roundw
                        case rel => exact ⟨k + 1, _, by omega, by go_num, HW5, HF2⟩
                        case measure => simp [intOf]; omega
                      · have HF2 := (show Hid (FaW j cx r m i (k + 1) out) from HF.out.no HV.out.1 (fun q => by have h := HV.out.2; rw [q.2] at h; exact hvv (Option.some.inj h).symm))
                        have hve : (v2 == (m : Int)) = false := beq_eq_false_iff_ne.2 hvv
                        clear hcx HF HV
                        go_wp2_with fail
                        go_roundw
                        case rel => exact ⟨k + 1, out, by omega, by go_num, HW4, HF2⟩
                        case measure => simp [intOf]; omega
                  · obtain rfl : k = j := by omega
                    have HI4 := (show Hid (FaI k cx r m (i + 1) out) from HF.out.fin HC.out.1 hm1 (.inr rfl))
                    clear HF hv hv0
                    go_wp2_with fail
                    go_roundw
                    case rel => exact ⟨i + 1, out, by omega, by go_num, HW4, HI4⟩
                    case measure => simp [intOf]; omega
            · obtain rfl : i = j := by omega
              have HI4 := (show Hid (FaI i cx r (m + 1) 0 out) from HI3.out.round)
              clear HI3
              go_wp2_with fail
              go_roundw
              case rel => exact ⟨m + 1, out, by omega, by omega, by go_num, HW3, HI4⟩
              case measure => simp [intOf]; omega
        · obtain rfl : m = j := by omega
          have HF := (show Hid (FaD m cx r out) from FaI.fin HC.out.1 HI.out)
          clear HI
          go_wp2_with fail
          go_ret
          exact ⟨⟨gO, out, rfl, HF.out, HW2.out⟩, HW2.out.b⟩
end Go.Proofs.YtbipjdgholdhcabGreat.N
