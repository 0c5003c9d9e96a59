/- DERIVED. Plain mathematics and walks, laid together (15). -/
import Derived.Test.YtbipjdgholdhcabGreatFr14
namespace Go.Proofs.YtbipjdgholdhcabGreat.N
open Go.RowKit Go.Maps
open Go.Proofs.YtbipjdgholdhcabGreat.T

open U (below_grown own_get own_slice TT)
theorem Tryz.infoIs : (Tryz.prog.info? 29).map (fun i => (i.zero, i.size, i.bytes)) = some (some (.slice none 0 0), 1, 24) := by kernel_rfl
/-- Rows of rules' heads. -/
def hdT (n : Nat) (c : Mx) (k : Nat) : List (List Value) := (List.range k).map fun i => (hdl n c i).map U.nI
theorem hdT_succ (n : Nat) (c : Mx) (k : Nat) : hdT n c (k + 1) = hdT n c k ++ [(hdl n c k).map U.nI] := by unfold hdT; rw [List.range_succ, List.map_append]; rfl
structure HsS (w wr : World) (r m kv : Value) (n : Nat) (cx : Mx) (N k : Nat) (v : Value) : Prop where
  b : Below w.heap.size w wr
  x : VX wr w.heap.size r m kv
  t : ∃ xs, xs.length = k ∧ TT wr N 29 3 v (hdT n cx k) xs
  n : w.heap.size + 1 ≤ N ∧ N ≤ wr.heap.size
theorem HsS.later {w wr w2 : World} {r m kv : Value} {n : Nat} {cx : Mx} {N k : Nat} {v : Value} (h : HsS w wr r m kv n cx N k v) (hb : Below wr.heap.size wr w2) : HsS w w2 r m kv n cx N k v := by
  obtain ⟨xs, h1, h2⟩ := h.t
  exact ⟨h.b.trans (hb.mono h.b.size), h.x.below hb, ⟨xs, h1, h2.below hb⟩, h.n.1, Nat.le_trans h.n.2 hb.size⟩
set_option maxRecDepth 100000 in
set_option maxHeartbeats 16000000 in
theorem vheads_any {gs : GL} {now : List Em} (mb : Nat) (A Ak : Option Addr) (c ck : Nat) (w : World) (hv : VwO w gs A mb Ak now) :
    Calls Tryz.prog 36 #[.agg #[.slice A gs.length c, .map (some mb), .slice Ak gs.length ck]] w fun e w' => (∃ v xs, e = .returned v ∧ xs.length = gs.length ∧ TT w' w.heap.size 29 3 v (hdT gs.length (hdM gs (nbE now)) gs.length) xs) ∧ Below w.heap.size w w' := by
  have hn2 := hv.R.n2
  obtain ⟨w1, hw1⟩ : ∃ w1, w1 = w.alloc (.cells #[.slice A gs.length c, .map (some mb), .slice Ak gs.length ck] 66) := ⟨_, rfl⟩
  have HE1 := (show Hid (w.alloc (.cells #[.slice A gs.length c, .map (some mb), .slice Ak gs.length ck] 66) = w1) from hw1.symm)
  have hb1 : Below w.heap.size w w1 := by rw [hw1]; exact below_box _ _
  have hs1 : w1.heap.size = w.heap.size + 1 := by rw [hw1, World.size_alloc]
  have hx1 : VX w1 w.heap.size (.slice A gs.length c) (.map (some mb)) (.slice Ak gs.length ck) := by rw [hw1]; exact VX.new w _ _ _
  have HS := (show Hid (HsS w w1 (.slice A gs.length c) (.map (some mb)) (.slice Ak gs.length ck) gs.length (hdM gs (nbE now)) (w.heap.size + 1) 0 (.slice none 0 0)) from ⟨hb1, hx1, ⟨[], rfl, TT.nil _ _ _ _⟩, Nat.le_refl _, by omega⟩)
  have HV := (show Hid (VwO w gs A mb Ak now) from hv)
  have y0 : w1.cell? ⟨w.heap.size, 0, none⟩ = _ := hx1.c0
  clear hw1 hb1 hs1 hx1 hv
  go_enter Tryz.func36, Tryz.ntmps36
  go_wp2_with (rw [HE1.out])
  clear HE1 y0
  go_loopw [3, 8] (fun v t wr => ∃ (k : Nat), k ≤ gs.length ∧ t = .int .i64 (k : Int) ∧ Hid (HsS w wr (.slice A gs.length c) (.map (some mb)) (.slice Ak gs.length ck) gs.length (hdM gs (nbE now)) (w.heap.size + 1) k v)) (fun _ t _ => gs.length - (intOf t).toNat)
  case atStart => exact ⟨0, Nat.zero_le _, by go_num, HS⟩
  case round =>
    obtain ⟨k, hk, rfl, HW⟩ := hrel
    clear HS
    by_cases hlt : k < gs.length
    · obtain ⟨⟨gn, L⟩, hg⟩ : ∃ g, gs[k]? = some g := ⟨_, List.getElem?_eq_getElem hlt⟩
      have y0 := HW.out.x.c0
      have y1 := HW.out.x.c1
      have y2 := HW.out.x.c2
      have HH := (show Hid (∀ _ : Unit, Calls Tryz.prog 24 #[.agg #[.slice A gs.length c, .map (some mb), .slice Ak gs.length ck], .int .i64 (k : Int)] wr fun e w' => (∃ v, e = .returned v ∧ w'.ownsRow wr.heap.size 3 1 v (hdl gs.length (hdM gs (nbE now)) k).length ((hdl gs.length (hdM gs (nbE now)) k).map U.nI)) ∧ Below wr.heap.size wr w') from fun _ => headsOf_any mb A Ak c ck hg wr (HV.out.later HW.out.b))
      clear hg
      go_wp2_with fail
      refine (HH.out ()).mono ?_
      rintro e w4 ⟨⟨y, rfl, hy⟩, b4⟩
      obtain ⟨xs, hxl, hT⟩ := HW.out.t
      obtain ⟨A3, c3, hA3⟩ := own_slice hT.o
      have HW4 := (show Hid (HsS w w4 (.slice A gs.length c) (.map (some mb)) (.slice Ak gs.length ck) gs.length (hdM gs (nbE now)) (w.heap.size + 1) k u3) from HW.out.later b4)
      have HO4 := (show Hid (w4.ownsRow (w.heap.size + 1) 29 1 u3 k xs) from by rw [← hxl]; exact U.own_below hT.o b4)
      have HN4 := (show Hid (w.heap.size + 1 ≤ w4.heap.size) from HW4.out.n.2)
      have HPu := (show Hid (∀ (g5 cap5 : Nat) (w5 : World), w5.ownsRow (w.heap.size + 1) 29 1 (.slice (some ⟨g5, 0, none⟩) (k + 1) cap5) (k + 1) (xs ++ [y]) → w4.grownBy w5 u3.ownBlock → (u3.ownBlock = some g5 ∨ g5 = w4.heap.size + 1) → HsS w w5 (.slice A gs.length c) (.map (some mb)) (.slice Ak gs.length ck) gs.length (hdM gs (nbE now)) (w.heap.size + 1) (k + 1) (.slice (some ⟨g5, 0, none⟩) (k + 1) cap5)) from fun g5 cap5 w5 h1 h2 h3 => by
        have hT4 := hT.below b4
        have hn := HW.out.n
        have hlow : ∀ q, u3.ownBlock = some q → w.heap.size + 1 ≤ q := fun q hq => (hT.o.lt q hq).1
        refine ⟨below_grown HW4.out.b h2 (fun q e => by have := hlow q e; omega), HW4.out.x.same (h2.block _ HW4.out.x.lt (fun e => by have := hlow _ e.symm; omega)), ⟨xs ++ [y], by rw [List.length_append, hxl]; rfl, ?_⟩, hn.1, Nat.le_trans HW4.out.n.2 h2.size⟩
        rw [hdT_succ]
        refine hT4.push (by rw [List.length_map]; exact U.own_base hy hn.2) (fun q hq => hT.new (hy.lt q hq).1) (by rw [hxl]; exact h1) h2 (fun q hq => ?_)
        cases hq
        rcases h3 with e | e
        · exact .inl e
        · refine .inr ?_
          show w4.heap.size ≤ g5
          omega)
      have o1 : y.oneCell' = true := by
        obtain ⟨Ay, cy, rfl⟩ := own_slice hy
        rfl
      obtain ⟨Ay, cy, hAy⟩ := own_slice hy
      generalize (hdl gs.length (hdM gs (nbE now)) k).length = ly at hAy
      subst hA3
      subst hAy
      clear hy b4 hT HW HH y0 y1 y2 hxl
      go_wp2_with (at_builtin; refine U.wpList_app1 rfl _ _ 59 rfl (.slice none 0 0) 24 Tryz.underlying59 Tryz.infoIs rfl (w.heap.size + 1) k _ _ rfl rfl HO4.out rfl (by omega) (by decide) HN4.out ?_; intro g5 cap5 w5 ho5 hg5 hat5 hl5; have HV5 := hid_of (HPu.out g5 cap5 w5 ho5 hg5 hat5); clear ho5 hg5 hat5 hl5 HPu HO4 HN4)
      go_roundw
      case rel => exact ⟨k + 1, by omega, by go_num, HV5⟩
      case measure => simp [intOf]; omega
    · obtain rfl : k = gs.length := by omega
      obtain ⟨xs, hxl, hT⟩ := HW.out.t
      have HO := (show Hid (TT wr w.heap.size 29 3 u3 (hdT gs.length (hdM gs (nbE now)) gs.length) xs ∧ xs.length = gs.length ∧ Below w.heap.size w wr) from ⟨hT.base (Nat.le_succ _), hxl, HW.out.b⟩)
      clear hT hxl HW HV
      go_wp2_with fail
      go_ret
      exact ⟨⟨_, xs, rfl, HO.out.2.1, HO.out.1⟩, HO.out.2.2⟩
end Go.Proofs.YtbipjdgholdhcabGreat.N

namespace Go.Proofs.YtbipjdgholdhcabGreat.N
open Go.RowKit Go.Maps
open Go.Proofs.YtbipjdgholdhcabGreat.T

open U (below_grown own_get own_slice)
/-- Numbers, 200 of them, in a box. -/
def aiL (f : Nat → Nat) : List Value := (List.range 200).map fun q => .int .i64 (f q : Int)
def aiA (f : Nat → Nat) : Array Value := (aiL f).toArray
theorem aiA_size (f : Nat → Nat) : (aiA f).size = 200 := by unfold aiA aiL; rw [List.size_toArray, List.length_map, List.length_range]
theorem aiA_get (f : Nat → Nat) {q : Nat} (h : q < 200) : (aiA f)[q]? = some (.int .i64 (f q : Int)) := by
  unfold aiA aiL
  rw [List.getElem?_toArray, List.getElem?_map, List.getElem?_range h]
  rfl
theorem Tryz.zeros116 : (Tryz.prog.info? 120).map (fun i => (i.zero, i.size)) = some (some (.agg (aiA fun _ => 0)), 200) := by kernel_rfl
theorem zero_ai (w : World) : (zeroValue 120).run Tryz.prog w = .ok (.agg (aiA fun _ => 0)) w := (zero_of_info Tryz.zeros116).1 w
structure IX (W : World) (b : Nat) (f : Nat → Nat) : Prop where
  heap : W.heap[b]? = some (.cells (aiA f) 120 (0, 0))
theorem IX.lt {W : World} {b : Nat} {f : Nat → Nat} (h : IX W b f) : b < W.heap.size := (Array.getElem?_eq_some_iff.1 h.heap).1
theorem IX.same {W W' : World} {b : Nat} {f : Nat → Nat} (h : IX W b f) (hb : W'.heap[b]? = W.heap[b]?) : IX W' b f := ⟨hb.trans h.heap⟩
theorem IX.below {W W' : World} {b : Nat} {f : Nat → Nat} (h : IX W b f) (hb : Below W.heap.size W W') : IX W' b f := h.same (hb.block b h.lt)
theorem IX.cl {W : World} {b : Nat} {f : Nat → Nat} (h : IX W b f) {q : Nat} (hq : q < 200) : W.cell? ⟨b, q, none⟩ = some (.int .i64 (f q : Int)) := by rw [cell_of_row W b q _ 120 (0, 0) h.heap, aiA_get f hq]
theorem IX.fz {W : World} {b : Nat} {f : Nat → Nat} (h : IX W b f) (q : Nat) : W.frozen? ⟨b, q, none⟩ = false := frozen_of_row W b q _ 120 h.heap
theorem IX.set {W : World} {b r : Nat} {f : Nat → Nat} (h : IX W b f) (v : Nat) : IX (W.setCell ⟨b, r, none⟩ (.int .i64 (v : Int))) b (fun q => if q = r then v else f q) := ⟨by
  rw [heap_setCell_same _ b r _ 120 _ h.heap]
  congr 2
  apply Array.ext_getElem?
  intro q
  rw [Array.getElem?_setIfInBounds]
  by_cases hq : q < 200
  · rw [aiA_get (fun q => if q = r then v else f q) hq]
    by_cases e : r = q
    · subst e
      rw [if_pos rfl, if_pos (by rw [aiA_size]; exact hq), if_pos rfl]
    · rw [if_neg e, aiA_get f hq, if_neg (Ne.symm e)]
  · rw [Array.getElem?_eq_none (xs := aiA (fun q => if q = r then v else f q)) (by rw [aiA_size]; omega)]
    split
    · split
      · next h1 h2 => rw [aiA_size] at h2; omega
      · rfl
    · rw [Array.getElem?_eq_none (by rw [aiA_size]; omega)]⟩
/-- Lists of numbers, read through a slice of slices. -/
def RdL (W : World) (A : Option Addr) (M : List (List Nat)) : Prop := ∀ (i : Nat) l, M[i]? = some l → ∃ b o A2 c2, A = some ⟨b, o, none⟩ ∧ b < W.heap.size ∧ W.cell? ⟨b, o + i, none⟩ = some (.slice A2 l.length c2) ∧ ∀ (q x : Nat), l[q]? = some x → ∃ g2 o2, A2 = some ⟨g2, o2, none⟩ ∧ g2 < W.heap.size ∧ W.cell? ⟨g2, o2 + q, none⟩ = some (.int .i64 (x : Int))
theorem RdL.later {W W' : World} {A : Option Addr} {M : List (List Nat)} (h : RdL W A M) (hb : Below W.heap.size W W') : RdL W' A M := fun i l hl => by
  obtain ⟨b, o, A2, c2, h1, h2, h3, h4⟩ := h i l hl
  refine ⟨b, o, A2, c2, h1, Nat.lt_of_lt_of_le h2 hb.size, (hb.cell (p := ⟨b, o + i, none⟩) h2).trans h3, fun q x hq => ?_⟩
  obtain ⟨g2, o2, k1, k2, k3⟩ := h4 q x hq
  exact ⟨g2, o2, k1, Nat.lt_of_lt_of_le k2 hb.size, (hb.cell (p := ⟨g2, o2 + q, none⟩) k2).trans k3⟩
structure WbS (w wr : World) (come : List Nat) (isC : Nat → Bool) (ah : Nat → Nat) (v : Value) : Prop where
  b : Below w.heap.size w wr
  m : MX wr w.heap.size isC
  i : IX wr (w.heap.size + 1) ah
  o : wr.ownsRow (w.heap.size + 2) 3 1 v come.length (come.map U.nI)
  n : w.heap.size + 2 ≤ wr.heap.size
theorem WbS.mark {w wr : World} {come : List Nat} {isC : Nat → Bool} {ah : Nat → Nat} {v : Value} (h : WbS w wr come isC ah v) (k y : Nat) : WbS w ((wr.setCell ⟨w.heap.size, k, none⟩ (.bool true)).setCell ⟨w.heap.size + 1, k, none⟩ (.int .i64 (y : Int))) come (fun x => if x = k then true else isC x) (fun x => if x = k then y else ah x) v := by
  have hlow : ∀ q, v.ownBlock = some q → w.heap.size + 2 ≤ q := fun q hq => (h.o.lt q hq).1
  have key : ∀ j, j ≠ w.heap.size → j ≠ w.heap.size + 1 → ((wr.setCell ⟨w.heap.size, k, none⟩ (.bool true)).setCell ⟨w.heap.size + 1, k, none⟩ (.int .i64 (y : Int))).heap[j]? = wr.heap[j]? := fun j h1 h2 => (heap_setCell_other _ ⟨w.heap.size + 1, k, none⟩ j _ h2).trans (heap_setCell_other _ ⟨w.heap.size, k, none⟩ j _ h1)
  refine ⟨(h.b.setCell (p := ⟨w.heap.size, k, none⟩) (Nat.le_refl _) _).setCell (p := ⟨w.heap.size + 1, k, none⟩) (Nat.le_succ _) _, ?_, ?_, own_same h.o (fun q hq => key q (by have := hlow q hq; omega) (by have := hlow q hq; omega)), by rw [World.size_setCell, World.size_setCell]; exact h.n⟩
  · exact (h.m.set true).same (heap_setCell_other _ ⟨w.heap.size + 1, k, none⟩ _ _ (show w.heap.size ≠ w.heap.size + 1 by omega))
  · exact (h.i.same (heap_setCell_other _ ⟨w.heap.size, k, none⟩ _ _ (show w.heap.size + 1 ≠ w.heap.size by omega))).set y
theorem WbS.push {w wr w2 : World} {come : List Nat} {isC : Nat → Bool} {ah : Nat → Nat} {v v2 : Value} {k : Nat} (h : WbS w wr come isC ah v) (ho : w2.ownsRow (w.heap.size + 2) 3 1 v2 (come.length + 1) (come.map U.nI ++ [.int .i64 (k : Int)])) (hg : wr.grownBy w2 v.ownBlock) : WbS w w2 (come ++ [k]) isC ah v2 := by
  have hlow : ∀ q, v.ownBlock = some q → w.heap.size + 2 ≤ q := fun q hq => (h.o.lt q hq).1
  have hn := h.n
  refine ⟨below_grown h.b hg (fun q e => by have := hlow q e; omega), h.m.same (hg.block _ h.m.lt (fun e => by have := hlow _ e.symm; omega)), h.i.same (hg.block _ h.i.lt (fun e => by have := hlow _ e.symm; omega)), ?_, Nat.le_trans hn hg.size⟩
  rw [List.length_append, List.map_append]
  exact ho
/-- The way, as far as it is told: back from its end. -/
structure WkS (w wr : World) (ah : Nat → Nat) (l : List Nat) (v : Value) : Prop where
  b : Below w.heap.size w wr
  i : IX wr (w.heap.size + 1) ah
  o : wr.ownsRow (w.heap.size + 2) 3 1 v l.length (l.map U.nI)
  n : w.heap.size + 2 ≤ wr.heap.size
theorem WkS.push {w wr w2 : World} {l : List Nat} {ah : Nat → Nat} {v v2 : Value} {k : Nat} (h : WkS w wr ah l v) (ho : w2.ownsRow (w.heap.size + 2) 3 1 v2 (l.length + 1) (l.map U.nI ++ [.int .i64 (k : Int)])) (hg : wr.grownBy w2 v.ownBlock) : WkS w w2 ah (l ++ [k]) v2 := by
  have hlow : ∀ q, v.ownBlock = some q → w.heap.size + 2 ≤ q := fun q hq => (h.o.lt q hq).1
  have hn := h.n
  refine ⟨below_grown h.b hg (fun q e => by have := hlow q e; omega), h.i.same (hg.block _ h.i.lt (fun e => by have := hlow _ e.symm; omega)), ?_, Nat.le_trans hn hg.size⟩
  rw [List.length_append, List.map_append]
  exact ho
theorem rev_drop {l : List Nat} {g x : Nat} (h : l[g]? = some x) : (l.drop g).reverse = (l.drop (g + 1)).reverse ++ [x] := by
  obtain ⟨hg, e⟩ := List.getElem?_eq_some_iff.1 h
  rw [List.drop_eq_getElem_cons hg, List.reverse_cons, e]

set_option maxRecDepth 100000 in
set_option maxHeartbeats 64000000 in
theorem wayBack_any {n : Nat} {cx : Mx} (hc : ∀ i j, cx i j = true → i < n ∧ j < n) (hn : n ≤ 200) {r : Nat} (hr : r < n) (A : Option Addr) (c : Nat) (w : World) (hp : RdL w A ((List.range n).map (hdl n cx))) :
    Calls Tryz.prog 54 #[.slice A n c, .int .i64 (r : Int)] w fun e w' => (∃ v l, e = .returned v ∧ WyB n cx r l ∧ w'.ownsRow w.heap.size 3 1 v l.length (l.map U.nI)) ∧ Below w.heap.size w w' := by
  have hv := zero_mk
  have hv2 := zero_ai
  obtain ⟨w1, hw1⟩ : ∃ w1, w1 = (w.alloc (.cells (mkA fun _ => false) 87)).alloc (.cells (aiA fun _ => 0) 120) := ⟨_, rfl⟩
  have HE1 := (show Hid ((w.alloc (.cells (mkA fun _ => false) 87)).alloc (.cells (aiA fun _ => 0) 120) = w1) from hw1.symm)
  obtain ⟨w2, hw2⟩ : ∃ w2, w2 = w1.alloc (.cells #[.int .i64 (r : Int)] 3) := ⟨_, rfl⟩
  have HE2 := (show Hid (w1.alloc (.cells #[.int .i64 (r : Int)] 3) = w2) from hw2.symm)
  have s0 := World.size_alloc w (.cells (mkA fun _ => false) 87)
  have s1 : w1.heap.size = w.heap.size + 2 := by rw [hw1, World.size_alloc, s0]
  have HS := (show Hid (WbS w w2 [r] (fun _ => false) (fun _ => 0) (.slice (some ⟨w.heap.size + 1 + 1, 0, none⟩) 1 1)) from by
    have hb1 : Below w.heap.size w w1 := by rw [hw1]; exact ((Below.refl _ _).alloc (Nat.le_refl _) _).alloc (by omega) _
    have hb2 : Below w1.heap.size w1 w2 := by rw [hw2]; exact below_box _ _
    have hm1 : MX w1 w.heap.size (fun _ => false) := by rw [hw1]; exact (MX.new w _).below (below_box _ _)
    have hi1 : IX w1 (w.heap.size + 1) (fun _ => 0) := by
      have h := heap_alloc_new (w.alloc (.cells (mkA fun _ => false) 87)) (.cells (aiA fun _ => 0) 120)
      rw [s0, ← hw1] at h
      exact ⟨h⟩
    refine ⟨hb1.trans (hb2.mono hb1.size), hm1.below hb2, hi1.below hb2, ?_, by have := hb2.size; omega⟩
    rw [show w.heap.size + 1 + 1 = w1.heap.size from s1.symm]
    refine ⟨rfl, .inr ⟨w1.heap.size, 1, #[.int .i64 (r : Int)], rfl, by omega, ?_, Nat.le_refl _, by unfold maxLen; omega, rfl, rfl⟩⟩
    rw [hw2]
    exact heap_alloc_new w1 _)
  have HB := (show Hid (BfI n cx r [r] [0] 0 0) from BfI.start hr)
  have HA := (show Hid (WbA r [r] [0] (fun _ => false) (fun _ => 0)) from WbA.start r)
  have HRd := (show Hid (RdL w A ((List.range n).map (hdl n cx))) from hp)
  have HC := (show Hid ((∀ i j, cx i j = true → i < n ∧ j < n) ∧ n ≤ 200 ∧ r < n) from ⟨hc, hn, hr⟩)
  have hne1 : w1.heap.size = w.heap.size + 1 + 1 := s1
  clear hw1 hw2 s0 s1 hc hp
  go_enter Tryz.func54, Tryz.ntmps54
  go_wp2_with (first | rw [HE1.out] | rw [HE2.out])
  go_step3
  go_wp2_with (first | rw [HE1.out] | rw [HE2.out])
  go_step3
  go_wp2_with (first | rw [HE1.out] | rw [HE2.out])
  clear HE1 HE2 hv hv2
  go_loopw [7, 8, 9] (fun v v8 t wr => ∃ (a nn : Nat) (come pi : List Nat) (isC : Nat → Bool) (ah : Nat → Nat) (A7 : Option Addr) (c7 : Nat), a ≤ nn ∧ nn ≤ 200 ∧ t = .int .i64 (a : Int) ∧ v = .slice A7 nn c7 ∧ v8 = .slice none 0 0 ∧ Hid (nn = come.length) ∧ Hid (BfI n cx r come pi a 0) ∧ Hid (WbA r come pi isC ah) ∧ Hid (WbS w wr come isC ah (.slice A7 nn c7))) (fun _ _ t _ => 201 - (intOf t).toNat)
  case atStart => exact ⟨0, 1, [r], [0], fun _ => false, fun _ => 0, some ⟨w.heap.size + 1 + 1, 0, none⟩, 1, by omega, by omega, by go_num, rfl, rfl, rfl, HB, HA, HS⟩
  case round =>
    obtain ⟨a, nn, come, pi, isC, ah, A7, c7, ha, hnn, rfl, rfl, rfl, HN, HBa, HAa, HW⟩ := hrel
    clear HS HB HA
    by_cases hlt : a < nn
    · obtain ⟨y, hy⟩ : ∃ y, come[a]? = some y := ⟨_, List.getElem?_eq_getElem (by rw [← HN.out]; exact hlt)⟩
      have hyn : y < n := HBa.out.lt y (List.mem_of_getElem? hy)
      obtain ⟨g7, e7, he7, _, hg7, x7, _⟩ := own_get HW.out.o (j := a) (x := U.nI y) (by rw [List.getElem?_map, hy]; rfl)
      have h7 : A7 = some ⟨g7, 0, none⟩ := by injection he7
      clear he7
      subst h7
      unfold U.nI at x7
      obtain ⟨b, o, A2, c2, rfl, lb, xb, hrow⟩ := HRd.out y (hdl n cx y) (by rw [List.getElem?_map, List.getElem?_range hyn]; rfl)
      have xb' := (HW.out.b.cell (p := ⟨b, o + y, none⟩) lb).trans xb
      obtain ⟨ln, hln⟩ : ∃ ln, ln = (hdl n cx y).length := ⟨_, rfl⟩
      have HLn := (show Hid (ln = (hdl n cx y).length ∧ ln ≤ 200) from ⟨hln, by rw [hln]; exact Nat.le_trans (hdl_len n cx y) hn⟩)
      rw [← hln] at xb'
      have HRow := (show Hid (∀ (q x : Nat), (hdl n cx y)[q]? = some x → ∃ g2 o2, A2 = some ⟨g2, o2, none⟩ ∧ g2 < w.heap.size ∧ w.cell? ⟨g2, o2 + q, none⟩ = some (.int .i64 (x : Int))) from hrow)
      have HY := (show Hid (come[a]? = some y) from hy)
      have HQ := (show Hid (BfQ n cx r come pi a y 0) from BfQ.start HBa.out hy)
      have z0 : (0 : Int) ≤ (a : Int) := by omega
      have z1 : (a : Int) < (nn : Int) := by omega
      have z2 : (0 : Int) ≤ (y : Int) := by omega
      have z3 : (y : Int) < (n : Int) := by omega
      clear hy hln xb hrow lb HBa hg7
      go_wp2_with fail
      clear x7 xb'
      obtain ⟨wC, hwC⟩ : ∃ wC, wC = wr := ⟨_, rfl⟩
      subst hwC
      go_loopw [7, 8, 29] (fun v v8 t wr => ∃ (q nn : Nat) (come pi : List Nat) (isC : Nat → Bool) (ah : Nat → Nat) (A7 : Option Addr) (c7 : Nat), q ≤ ln ∧ nn ≤ 200 ∧ t = .int .i64 (q : Int) ∧ v = .slice A7 nn c7 ∧ v8 = .slice none 0 0 ∧ a < nn ∧ Hid (nn = come.length) ∧ Hid (BfQ n cx r come pi a y q) ∧ Hid (WbA r come pi isC ah) ∧ Hid (WbS w wr come isC ah (.slice A7 nn c7))) (fun _ _ t _ => ln - (intOf t).toNat)
      case atStart => exact ⟨0, nn, come, pi, isC, ah, _, c7, Nat.zero_le _, hnn, by go_num, rfl, rfl, hlt, HN, HQ, HAa, HW⟩
      case round =>
        clear HQ HAa HW HN HY
        obtain ⟨q, n1, come1, pi1, isC1, ah1, A1, c1, hq, hn1, rfl, rfl, rfl, han, HN, HQ, HAa, HW⟩ := hrel
        by_cases hql : q < ln
        · obtain ⟨k, hk⟩ : ∃ k, (hdl n cx y)[q]? = some k := ⟨_, List.getElem?_eq_getElem (by rw [← HLn.out.1]; exact hql)⟩
          have hkn : k < n := (HC.out.1 y k ((hdl_mem HC.out.1).1 (List.mem_of_getElem? hk))).2
          obtain ⟨g2, o2, rfl, lg2, xk⟩ := HRow.out q k hk
          have xk' := (HW.out.b.cell (p := ⟨g2, o2 + q, none⟩) lg2).trans xk
          obtain ⟨g7, e7, he7, _, hg7, x7, _⟩ := own_get HW.out.o (j := a) (x := U.nI y) (by rw [List.getElem?_map, HQ.out.1]; rfl)
          have h7 : A1 = some ⟨g7, 0, none⟩ := by injection he7
          clear he7
          subst h7
          unfold U.nI at x7
          have z4 : (0 : Int) ≤ (q : Int) := by omega
          have z5 : (q : Int) < (ln : Int) := by omega
          have z6 : (0 : Int) ≤ (k : Int) := by omega
          have z7 : (k : Int) < 200 := by omega
          have z8 : (a : Int) < (n1 : Int) := by omega
          have hl2 : ln ≤ 200 := HLn.out.2
          by_cases hkr : k = r
          · subst hkr
            have HPt := (show Hid (∃ m l, Ds cx k m k ∧ PtI cx k m l ∧ 0 < m ∧ m ≤ n ∧ l[m - 1]? = some y ∧ ∀ (i x z : Nat), l[i]? = some x → l[i + 1]? = some z → z ≠ k ∧ z < n ∧ ah1 z = x) from by
              obtain ⟨hy1, b0, hb0, hx0⟩ := HQ.out
              have hck : cx y k = true := (hdl_mem HC.out.1).1 (List.mem_of_getElem? hk)
              have hrc : ∃ t, Ds cx k t k := by
                rcases hb0.reach HC.out.1 (a + 1) a y (by omega) hy1 with e | e
                · rw [e] at hck; exact Ds.of_rc (n := n) (Rc.of hck)
                · exact Ds.of_rc (Rc.trans (HC.out.1 y k hck).1 e (Rc.of hck))
              obtain ⟨m, hd⟩ := hrc
              obtain ⟨l, hl⟩ := PtI.ex hd
              obtain ⟨h1, h2⟩ := HAa.out.back hb0 hy1 hck hd hl
              exact ⟨m, l, hd, hl, hd.1, hd.few HC.out.1, h1, h2⟩)
            obtain ⟨m, l, hd, hl, hm0, hmn, hly, hback⟩ := HPt.out
            have HL := (show Hid (l.length = m ∧ l[0]? = some k ∧ l[m - 1]? = some y ∧ (∀ (i x z : Nat), l[i]? = some x → l[i + 1]? = some z → z ≠ k ∧ z < n ∧ ah1 z = x) ∧ WyB n cx k l ∧ m ≤ 200) from ⟨hl.n, hl.h, hly, hback, .inr ⟨m, hd, hl⟩, by omega⟩)
            have HNs := (show Hid (w.heap.size + 2 ≤ wr.heap.size) from HW.out.n)
            have HW9 := (show Hid (∀ (g9 cap9 : Nat) (w9 : World), w9.ownsRow (w.heap.size + 2) 3 1 (.slice (some ⟨g9, 0, none⟩) 1 cap9) 1 ([] ++ [.int .i64 (y : Int)]) → wr.grownBy w9 (Value.slice none 0 0).ownBlock → Hid (WkS w w9 ah1 ((l.drop (m - 1)).reverse) (.slice (some ⟨g9, 0, none⟩) 1 cap9)) ∧ w9.cell? ⟨g9, 0, none⟩ = some (.int .i64 (y : Int))) from fun g9 cap9 w9 h1 h2 => by
              have hz : (l.drop (m - 1)).reverse = [y] := by
                rw [rev_drop HL.out.2.2.1, show m - 1 + 1 = l.length from by rw [HL.out.1]; omega, List.drop_length]
                rfl
              refine ⟨?_, (h1.cells (g := g9) rfl 0 _ rfl)⟩
              show WkS _ _ _ _ _
              rw [hz]
              exact ⟨below_grown HW.out.b h2 (fun q e => by cases e), HW.out.i.same (h2.block _ HW.out.i.lt (fun e => by cases e)), h1, Nat.le_trans HW.out.n h2.size⟩)
            clear hd hl hm0 hmn hly hback HPt HAa HQ HRow HRd hk xk lg2 hg7 HW HLn HN
            go_wp2_with (at_builtin; refine U.wpList_app1 rfl _ _ 29 rfl (.int .i64 0) 8 Tryz.underlying29 Tryz.info3 rfl (w.heap.size + 2) 0 _ [] rfl rfl (World.ownsRow_nil _ _ _ _) rfl (by omega) (by decide) HNs.out ?_; intro g9 cap9 w9 ho9 hg9 hat9 hl9; obtain ⟨HV9, x9⟩ := HW9.out g9 cap9 w9 ho9 hg9; clear ho9 hg9 hat9 hl9 HW9 HNs x7 xk')
            try clear x9
            have HG0 := (show Hid (l[m - 1]? = some y ∧ 1 = m - (m - 1)) from ⟨HL.out.2.2.1, by
              have := (List.getElem?_eq_some_iff.1 HL.out.2.2.1).1
              have := HL.out.1
              omega⟩)
            go_loopg [8, 12] (m - 1) (fun g v t wr => ∃ (x n8 : Nat) (A8 : Option Addr) (c8 : Nat), t = .int .i64 (x : Int) ∧ v = .slice A8 n8 c8 ∧ n8 ≤ 200 ∧ Hid (l[g]? = some x ∧ n8 = m - g) ∧ Hid (WkS w wr ah1 ((l.drop g).reverse) (.slice A8 n8 c8)))
            case atStart => exact ⟨y, 1, some ⟨g9, 0, none⟩, cap9, by go_num, rfl, by omega, HG0, HV9⟩
            case round =>
              clear HV9 HG0
              obtain ⟨x, n8, A8, c8, rfl, rfl, hn8, HG, HK⟩ := hrel
              cases gk with
              | zero =>
                have hxk : x = k := by
                  have h := HG.out.1
                  rw [HL.out.2.1] at h
                  exact (Option.some.inj h).symm
                subst hxk
                have HRv := (show Hid (∀ _ : Unit, Calls Tryz.prog 69 #[.slice A8 n8 c8] wr fun e w' => e = .returned (.tuple #[]) ∧ w'.ownsRow (w.heap.size + 2) 3 1 (.slice A8 n8 c8) n8 (l.map U.nI) ∧ wr.grownBy w' (Value.slice A8 n8 c8).ownBlock) from fun _ => by
                  have h := HK.out.o
                  rw [List.drop_zero] at h
                  have hl8 : n8 = l.reverse.length := by rw [List.length_reverse, HL.out.1]; have := HG.out.2; omega
                  rw [← hl8] at h
                  have h2 := reverse_any hl8 (by rw [List.length_reverse, HL.out.1]; have := HL.out.2.2.2.2.2; omega) h
                  rw [List.reverse_reverse] at h2
                  exact h2)
                have HEnd := (show Hid (∀ w', w'.ownsRow (w.heap.size + 2) 3 1 (.slice A8 n8 c8) n8 (l.map U.nI) → wr.grownBy w' (Value.slice A8 n8 c8).ownBlock → w'.ownsRow w.heap.size 3 1 (.slice A8 n8 c8) l.length (l.map U.nI) ∧ Below w.heap.size w w') from fun w' h1 h2 => by
                  have hl8 : n8 = l.length := by rw [HL.out.1]; have := HG.out.2; omega
                  have hlow : ∀ q, (Value.slice A8 n8 c8).ownBlock = some q → w.heap.size + 2 ≤ q := fun q hq => (h1.lt q hq).1
                  refine ⟨by have h := U.own_base h1 (by omega : w.heap.size ≤ w.heap.size + 2); rw [hl8] at h ⊢; exact h, below_grown HK.out.b h2 (fun q e => by have := hlow q e; omega)⟩)
                clear HK HG
                go_wp2_with fail
                refine (HRv.out ()).mono ?_
                rintro e w8 ⟨rfl, ho8, hg8⟩
                have HZ := hid_of (HEnd.out w8 ho8 hg8)
                have HWy := (show Hid (WyB n cx x l) from HL.out.2.2.2.2.1)
                clear ho8 hg8 HEnd HRv HL
                go_wp2_with fail
                unfold Exit.noGoto
                go_ret
                exact ⟨⟨_, l, rfl, HWy.out, HZ.out.1⟩, HZ.out.2⟩
              | succ g =>
                obtain ⟨x0, hx0⟩ : ∃ x0, l[g]? = some x0 := ⟨_, List.getElem?_eq_getElem (by have := (List.getElem?_eq_some_iff.1 HG.out.1).1; omega)⟩
                obtain ⟨hxk, hxn, hax⟩ := HL.out.2.2.2.1 g x0 x hx0 HG.out.1
                have tx : ((x : Int) != (k : Int)) = true := by rw [bne, beq_eq_false_iff_ne.2 (by omega)]; rfl
                have i0 := HK.out.i.cl (show x < 200 by have := HC.out.2.1; omega)
                rw [hax] at i0
                have z20 : (0 : Int) ≤ (x : Int) := by omega
                have z21 : (x : Int) < 200 := by have := HC.out.2.1; omega
                have HO8 := (show Hid (wr.ownsRow (w.heap.size + 2) 3 1 (.slice A8 n8 c8) n8 (((l.drop (g + 1)).reverse).map U.nI)) from by
                  have h := HK.out.o
                  have e : (l.drop (g + 1)).reverse.length = n8 := by rw [List.length_reverse, List.length_drop, HL.out.1]; exact HG.out.2.symm
                  rw [e] at h
                  exact h)
                have HN8 := (show Hid (w.heap.size + 2 ≤ wr.heap.size) from HK.out.n)
                have HPu := (show Hid (∀ (g9 cap9 : Nat) (w9 : World), w9.ownsRow (w.heap.size + 2) 3 1 (.slice (some ⟨g9, 0, none⟩) (n8 + 1) cap9) (n8 + 1) (((l.drop (g + 1)).reverse).map U.nI ++ [.int .i64 (x0 : Int)]) → wr.grownBy w9 (Value.slice A8 n8 c8).ownBlock → Hid (WkS w w9 ah1 ((l.drop g).reverse) (.slice (some ⟨g9, 0, none⟩) (n8 + 1) cap9))) from fun g9 cap9 w9 h1 h2 => by
                  have e : (l.drop (g + 1)).reverse.length = n8 := by rw [List.length_reverse, List.length_drop, HL.out.1]; exact HG.out.2.symm
                  show WkS _ _ _ _ _
                  rw [rev_drop hx0]
                  exact HK.out.push (by rw [e]; exact h1) h2)
                have HG2 := (show Hid (l[g]? = some x0 ∧ n8 + 1 = m - g) from ⟨hx0, by
                  have h1 := (List.getElem?_eq_some_iff.1 HG.out.1).1
                  have h2 := HL.out.1
                  have h3 := HG.out.2
                  omega⟩)
                have hn9 : n8 + 1 ≤ 200 := by have h3 := HG2.out.2; have h4 := HL.out.2.2.2.2.2; omega
                clear hx0 hxk hxn hax HK HG
                go_wp2_with (at_builtin; refine U.wpList_app1 rfl _ _ 29 rfl (.int .i64 0) 8 Tryz.underlying29 Tryz.info3 rfl (w.heap.size + 2) n8 _ _ rfl rfl HO8.out rfl (by omega) (by decide) HN8.out ?_; intro g9 cap9 w9 ho9 hg9 hat9 hl9; have HV9 := HPu.out g9 cap9 w9 ho9 hg9; clear ho9 hg9 hat9 hl9 HPu HO8 HN8 i0 tx)
                go_roundg g
                case measure => omega
                case rel => exact ⟨x0, n8 + 1, some ⟨g9, 0, none⟩, cap9, by go_num, rfl, hn9, HG2, HV9⟩
          · have hkr2 : ((k : Int) == (r : Int)) = false := by rw [beq_eq_false_iff_ne]; omega
            have m0 := HW.out.m.cl (show k < 200 by omega)
            cases hic : isC1 k with
            | true =>
              rw [hic] at m0
              have HQ2 := (show Hid (BfQ n cx r come1 pi1 a y (q + 1)) from HQ.out.old HC.out.1 hk hkr ((HAa.out.m k).1 hic).1)
              clear hk xk lg2 hkr hic HQ hg7 x7
              go_wp2_with fail
              go_roundw
              case rel => exact ⟨q + 1, n1, come1, pi1, isC1, ah1, _, c1, by omega, hn1, by go_num, rfl, rfl, han, HN, HQ2, HAa, HW⟩
              case measure => simp [intOf]; omega
            | false =>
              rw [hic] at m0
              have hkm : k ∉ come1 := fun e => by
                have := (HAa.out.m k).2 ⟨e, hkr⟩
                rw [hic] at this
                cases this
              have f0 := HW.out.m.fz k
              obtain ⟨w5, hw5⟩ : ∃ w5, w5 = wr.setCell ⟨w.heap.size, k, none⟩ (.bool true) := ⟨_, rfl⟩
              have HE5 := (show Hid (wr.setCell ⟨w.heap.size, k, none⟩ (.bool true) = w5) from hw5.symm)
              obtain ⟨w6, hw6⟩ : ∃ w6, w6 = w5.setCell ⟨w.heap.size + 1, k, none⟩ (.int .i64 (y : Int)) := ⟨_, rfl⟩
              have HE6 := (show Hid (w5.setCell ⟨w.heap.size + 1, k, none⟩ (.int .i64 (y : Int)) = w6) from hw6.symm)
              have hlow := (HW.out.o.lt g7 rfl).1
              have hi5 : IX w5 (w.heap.size + 1) ah1 := by rw [hw5]; exact HW.out.i.same (heap_setCell_other _ ⟨w.heap.size, k, none⟩ _ _ (show w.heap.size + 1 ≠ w.heap.size by omega))
              have i0 := hi5.cl (show k < 200 by omega)
              have f1 := hi5.fz k
              have x7' : w5.cell? ⟨g7, a, none⟩ = some (.int .i64 (y : Int)) := by
                rw [hw5, World.cell?_of_block (a := ⟨g7, a, none⟩) (heap_setCell_other _ ⟨w.heap.size, k, none⟩ g7 _ (show g7 ≠ w.heap.size by omega))]
                exact x7
              have HW6 := (show Hid (WbS w w6 come1 (fun x => if x = k then true else isC1 x) (fun x => if x = k then y else ah1 x) (.slice (some ⟨g7, 0, none⟩) n1 c1)) from by rw [hw6, hw5]; exact HW.out.mark k y)
              have HO6 := (show Hid (w6.ownsRow (w.heap.size + 2) 3 1 (.slice (some ⟨g7, 0, none⟩) n1 c1) n1 (come1.map U.nI)) from by have h := HW6.out.o; rw [← HN.out] at h; exact h)
              have HN6 := (show Hid (w.heap.size + 2 ≤ w6.heap.size) from HW6.out.n)
              have HPu := (show Hid (∀ (g9 cap9 : Nat) (w9 : World), w9.ownsRow (w.heap.size + 2) 3 1 (.slice (some ⟨g9, 0, none⟩) (n1 + 1) cap9) (n1 + 1) (come1.map U.nI ++ [.int .i64 (k : Int)]) → w6.grownBy w9 (Value.slice (some ⟨g7, 0, none⟩) n1 c1).ownBlock → Hid (WbS w w9 (come1 ++ [k]) (fun x => if x = k then true else isC1 x) (fun x => if x = k then y else ah1 x) (.slice (some ⟨g9, 0, none⟩) (n1 + 1) cap9))) from fun g9 cap9 w9 h1 h2 => HW6.out.push (by rw [← HN.out]; exact h1) h2)
              have HQ2 := (show Hid (BfQ n cx r (come1 ++ [k]) (pi1 ++ [a]) a y (q + 1)) from HQ.out.push HC.out.1 hk hkr hkm)
              have HA2 := (show Hid (WbA r (come1 ++ [k]) (pi1 ++ [a]) (fun x => if x = k then true else isC1 x) (fun x => if x = k then y else ah1 x)) from by
                obtain ⟨_, b0, hb0, _⟩ := HQ.out
                refine HAa.out.push hb0.lp (fun j i hj0 hi => ?_) HQ.out.1 hkm hkr
                obtain ⟨x, hx⟩ : ∃ x, come1[j]? = some x := ⟨_, List.getElem?_eq_getElem (by rw [← hb0.lp]; exact (List.getElem?_eq_some_iff.1 hi).1)⟩
                obtain ⟨i2, y2, p1, p2, _⟩ := hb0.p j x hj0 hx
                rw [hi] at p1
                cases p1
                have := (List.getElem?_eq_some_iff.1 hx).1
                omega)
              have HN2 := (show Hid (n1 + 1 = (come1 ++ [k]).length ∧ n1 + 1 ≤ 200) from by
                have e : (come1 ++ [k]).length = n1 + 1 := by rw [List.length_append, ← HN.out]; rfl
                obtain ⟨_, b0, hb0, _⟩ := HQ2.out
                have := hb0.few
                exact ⟨e.symm, by omega⟩)
              have HN3 := (show Hid (n1 + 1 = (come1 ++ [k]).length) from HN2.out.1)
              have hn2 : n1 + 1 ≤ 200 := HN2.out.2
              clear hk xk lg2 hkr hic HQ hg7 x7 hw5 hw6 hlow hi5 hkm HW HAa HW6 HN2
              go_wp2_with (first | rw [HE5.out] | rw [HE6.out] | (at_builtin; refine U.wpList_app1 rfl _ _ 29 rfl (.int .i64 0) 8 Tryz.underlying29 Tryz.info3 rfl (w.heap.size + 2) n1 _ _ rfl rfl HO6.out rfl (by omega) (by decide) HN6.out ?_; intro g9 cap9 w9 ho9 hg9 hat9 hl9; have HV9 := HPu.out g9 cap9 w9 ho9 hg9; clear ho9 hg9 hat9 hl9 HPu HO6 HN6 HE5 HE6 i0 f1 x7' f0 m0 xk'))
              go_roundw
              case rel => exact ⟨q + 1, n1 + 1, come1 ++ [k], pi1 ++ [a], _, _, _, cap9, by omega, hn2, by go_num, rfl, rfl, by omega, HN3, HQ2, HA2, HV9⟩
              case measure => simp [intOf]; omega
        · obtain rfl : q = ln := by omega
          have HBn := (show Hid (BfI n cx r come1 pi1 (a + 1) 0) from by
            have h := HQ.out
            rw [HLn.out.1] at h
            exact h.done HC.out.1)
          clear HQ HRow HLn
          go_wp2_with fail
          go_roundw
          case rel => exact ⟨a + 1, n1, come1, pi1, isC1, ah1, A1, c1, by omega, hn1, by go_num, rfl, rfl, HN, HBn, HAa, HW⟩
          case measure => simp [intOf]; omega
    · obtain rfl : a = nn := by omega
      have HNo := (show Hid (WyB n cx r []) from .inl ⟨rfl, by
        have h := HBa.out
        rw [HN.out] at h
        exact h.none HC.out.1⟩)
      have HBe := (show Hid (Below w.heap.size w wr) from HW.out.b)
      clear HW HAa HBa HN HRd HC
      go_wp2_with fail
      unfold Exit.noGoto
      go_ret
      exact ⟨⟨_, [], rfl, HNo.out, World.ownsRow_nil _ _ _ _⟩, HBe.out⟩
end Go.Proofs.YtbipjdgholdhcabGreat.N

namespace Go.Proofs.YtbipjdgholdhcabGreat.N
open Go.RowKit Go.Maps
open Go.Proofs.YtbipjdgholdhcabGreat.T

open U (below_grown own_get own_slice)
/-- Numbers, read. -/
def RdI (W : World) (A : Option Addr) (l : List Nat) : Prop := ∀ (j : Nat) x, l[j]? = some x → ∃ g o, A = some ⟨g, o, none⟩ ∧ g < W.heap.size ∧ W.cell? ⟨g, o + j, none⟩ = some (.int .i64 (x : Int))
set_option maxRecDepth 100000 in
set_option maxHeartbeats 8000000 in
theorem hasAll_any (f : Nat → Bool) (l : List Nat) (hl : l.length ≤ 200) (hx : ∀ x ∈ l, x < 200) (A : Option Addr) (c : Nat) (w : World) (hp : RdI w A l) :
    Calls Tryz.prog 44 #[.agg (mkA f), .slice A l.length c] w fun e w' => e = .returned (.bool (l.all f)) ∧ Below w.heap.size w w' := by
  obtain ⟨w1, hw1⟩ : ∃ w1, w1 = w.alloc (.cells (mkA f) 87) := ⟨_, rfl⟩
  have HE1 := (show Hid (w.alloc (.cells (mkA f) 87) = w1) from hw1.symm)
  have HS := (show Hid (Below w.heap.size w w1 ∧ MX w1 w.heap.size f) from by rw [hw1]; exact ⟨below_box _ _, MX.new w f⟩)
  have HX := (show Hid (RdI w A l ∧ ∀ x ∈ l, x < 200) from ⟨hp, hx⟩)
  have HA0 := (show Hid (∀ j x, j < 0 → l[j]? = some x → f x = true) from fun j x h => absurd h (Nat.not_lt_zero _))
  clear hp hx hw1
  go_enter Tryz.func44, Tryz.ntmps44
  go_wp2_with (rw [HE1.out])
  clear HE1
  go_loopw [9] (fun t wr => ∃ k : Nat, k ≤ l.length ∧ t = .int .i64 (k : Int) ∧ wr = w1 ∧ Hid (∀ j x, j < k → l[j]? = some x → f x = true)) (fun t _ => l.length - (intOf t).toNat)
  case atStart => exact ⟨0, Nat.zero_le _, by go_num, by first | rfl | trivial, HA0⟩
  case round =>
    obtain ⟨k, hk, rfl, rfl, HA⟩ := hrel
    clear HA0
    by_cases hlt : k < l.length
    · obtain ⟨x, hx⟩ : ∃ x, l[k]? = some x := ⟨_, List.getElem?_eq_getElem hlt⟩
      obtain ⟨g, o, rfl, lg, y⟩ := HX.out.1 k x hx
      have hx2 := HX.out.2 x (List.mem_of_getElem? hx)
      have y1 := (HS.out.1.cell (p := ⟨g, o + k, none⟩) lg).trans y
      have m1 := HS.out.2.cl hx2
      have z0 : (0 : Int) ≤ (k : Int) := by omega
      have z1 : (k : Int) < (l.length : Int) := by omega
      have z2 : (0 : Int) ≤ (x : Int) := by omega
      have z3 : (x : Int) < 200 := by omega
      have HXk := (show Hid (l[k]? = some x) from hx)
      clear lg y hx
      cases hf : f x with
      | true =>
        rw [hf] at m1
        have HN := (show Hid (∀ j x, j < k + 1 → l[j]? = some x → f x = true) from fun j x2 hj h2 => by
          by_cases e : j = k
          · subst e
            rw [HXk.out] at h2
            cases h2
            exact hf
          · exact HA.out j x2 (by omega) h2)
        clear HXk HA hf
        go_wp2_with fail
        go_roundw
        case rel => exact ⟨k + 1, by omega, by go_num, by first | rfl | trivial, HN⟩
        case measure => simp [intOf]; omega
      | false =>
        rw [hf] at m1
        have HV := (show Hid (l.all f = false) from by
          cases e : l.all f with
          | false => rfl
          | true =>
            have := List.all_eq_true.1 e x (List.mem_of_getElem? HXk.out)
            rw [hf] at this
            cases this)
        have HB := (show Hid (Below w.heap.size w wr) from HS.out.1)
        clear HXk HA hf HS HX
        go_wp2_with fail
        go_ret
        exact ⟨by rw [HV.out]; rfl, HB.out⟩
    · obtain rfl : k = l.length := by omega
      have HV := (show Hid (l.all f = true) from List.all_eq_true.2 fun x hx => by
        obtain ⟨j, hj⟩ := List.getElem?_of_mem hx
        exact HA.out j x (List.getElem?_eq_some_iff.1 hj).1 hj)
      have HB := (show Hid (Below w.heap.size w wr) from HS.out.1)
      clear HA HS HX
      go_wp2_with fail
      go_ret
      exact ⟨by rw [HV.out]; rfl, HB.out⟩
end Go.Proofs.YtbipjdgholdhcabGreat.N
