/- DERIVED. Plain mathematics and walks, laid together (17). -/
import Derived.Test.YtbipjdgholdhcaaGreatFi16
namespace Go.Proofs.YtbipjdgholdhcaaGreat.N
open Go.RowKit Go.Maps
open Go.Proofs.YtbipjdgholdhcaaGreat.T

open U (below_grown own_get own_slice)
/-- Numbers, 200 of them, in a box. -/
def aiL (f : Nat → Nat) : List Value := (List.range 200).map fun q => .int .i64 (f q : Int)
def aiA (f : Nat → Nat) : Array Value := (aiL f).toArray
theorem aiA_size (f : Nat → Nat) : (aiA f).size = 200 := by unfold aiA aiL; rw [List.size_toArray, List.length_map, List.length_range]
theorem aiA_get (f : Nat → Nat) {q : Nat} (h : q < 200) : (aiA f)[q]? = some (.int .i64 (f q : Int)) := by
  unfold aiA aiL
  rw [List.getElem?_toArray, List.getElem?_map, List.getElem?_range h]
  rfl
theorem Tryz.zeros116 : (Tryz.prog.info? 116).map (fun i => (i.zero, i.size)) = some (some (.agg (aiA fun _ => 0)), 200) := by kernel_rfl
theorem zero_ai (w : World) : (zeroValue 116).run Tryz.prog w = .ok (.agg (aiA fun _ => 0)) w := (zero_of_info Tryz.zeros116).1 w
structure IX (W : World) (b : Nat) (f : Nat → Nat) : Prop where
  heap : W.heap[b]? = some (.cells (aiA f) 116 (0, 0))
theorem IX.lt {W : World} {b : Nat} {f : Nat → Nat} (h : IX W b f) : b < W.heap.size := (Array.getElem?_eq_some_iff.1 h.heap).1
theorem IX.same {W W' : World} {b : Nat} {f : Nat → Nat} (h : IX W b f) (hb : W'.heap[b]? = W.heap[b]?) : IX W' b f := ⟨hb.trans h.heap⟩
theorem IX.below {W W' : World} {b : Nat} {f : Nat → Nat} (h : IX W b f) (hb : Below W.heap.size W W') : IX W' b f := h.same (hb.block b h.lt)
theorem IX.cl {W : World} {b : Nat} {f : Nat → Nat} (h : IX W b f) {q : Nat} (hq : q < 200) : W.cell? ⟨b, q, none⟩ = some (.int .i64 (f q : Int)) := by rw [cell_of_row W b q _ 116 (0, 0) h.heap, aiA_get f hq]
theorem IX.fz {W : World} {b : Nat} {f : Nat → Nat} (h : IX W b f) (q : Nat) : W.frozen? ⟨b, q, none⟩ = false := frozen_of_row W b q _ 116 h.heap
theorem IX.set {W : World} {b r : Nat} {f : Nat → Nat} (h : IX W b f) (v : Nat) : IX (W.setCell ⟨b, r, none⟩ (.int .i64 (v : Int))) b (fun q => if q = r then v else f q) := ⟨by
  rw [heap_setCell_same _ b r _ 116 _ h.heap]
  congr 2
  apply Array.ext_getElem?
  intro q
  rw [Array.getElem?_setIfInBounds]
  by_cases hq : q < 200
  · rw [aiA_get (fun q => if q = r then v else f q) hq]
    by_cases e : r = q
    · subst e
      rw [if_pos rfl, if_pos (by rw [aiA_size]; exact hq), if_pos rfl]
    · rw [if_neg e, aiA_get f hq, if_neg (Ne.symm e)]
  · rw [Array.getElem?_eq_none (xs := aiA (fun q => if q = r then v else f q)) (by rw [aiA_size]; omega)]
    split
    · split
      · next h1 h2 => rw [aiA_size] at h2; omega
      · rfl
    · rw [Array.getElem?_eq_none (by rw [aiA_size]; omega)]⟩
/-- Lists of numbers, read through a slice of slices. -/
def RdL (W : World) (A : Option Addr) (M : List (List Nat)) : Prop := ∀ (i : Nat) l, M[i]? = some l → ∃ b o A2 c2, A = some ⟨b, o, none⟩ ∧ b < W.heap.size ∧ W.cell? ⟨b, o + i, none⟩ = some (.slice A2 l.length c2) ∧ ∀ (q x : Nat), l[q]? = some x → ∃ g2 o2, A2 = some ⟨g2, o2, none⟩ ∧ g2 < W.heap.size ∧ W.cell? ⟨g2, o2 + q, none⟩ = some (.int .i64 (x : Int))
theorem RdL.later {W W' : World} {A : Option Addr} {M : List (List Nat)} (h : RdL W A M) (hb : Below W.heap.size W W') : RdL W' A M := fun i l hl => by
  obtain ⟨b, o, A2, c2, h1, h2, h3, h4⟩ := h i l hl
  refine ⟨b, o, A2, c2, h1, Nat.lt_of_lt_of_le h2 hb.size, (hb.cell (p := ⟨b, o + i, none⟩) h2).trans h3, fun q x hq => ?_⟩
  obtain ⟨g2, o2, k1, k2, k3⟩ := h4 q x hq
  exact ⟨g2, o2, k1, Nat.lt_of_lt_of_le k2 hb.size, (hb.cell (p := ⟨g2, o2 + q, none⟩) k2).trans k3⟩
structure WbS (w wr : World) (come : List Nat) (isC : Nat → Bool) (ah : Nat → Nat) (v : Value) : Prop where
  b : Below w.heap.size w wr
  m : MX wr w.heap.size isC
  i : IX wr (w.heap.size + 1) ah
  o : wr.ownsRow (w.heap.size + 2) 3 1 v come.length (come.map U.nI)
  n : w.heap.size + 2 ≤ wr.heap.size
theorem WbS.mark {w wr : World} {come : List Nat} {isC : Nat → Bool} {ah : Nat → Nat} {v : Value} (h : WbS w wr come isC ah v) (k y : Nat) : WbS w ((wr.setCell ⟨w.heap.size, k, none⟩ (.bool true)).setCell ⟨w.heap.size + 1, k, none⟩ (.int .i64 (y : Int))) come (fun x => if x = k then true else isC x) (fun x => if x = k then y else ah x) v := by
  have hlow : ∀ q, v.ownBlock = some q → w.heap.size + 2 ≤ q := fun q hq => (h.o.lt q hq).1
  have key : ∀ j, j ≠ w.heap.size → j ≠ w.heap.size + 1 → ((wr.setCell ⟨w.heap.size, k, none⟩ (.bool true)).setCell ⟨w.heap.size + 1, k, none⟩ (.int .i64 (y : Int))).heap[j]? = wr.heap[j]? := fun j h1 h2 => (heap_setCell_other _ ⟨w.heap.size + 1, k, none⟩ j _ h2).trans (heap_setCell_other _ ⟨w.heap.size, k, none⟩ j _ h1)
  refine ⟨(h.b.setCell (p := ⟨w.heap.size, k, none⟩) (Nat.le_refl _) _).setCell (p := ⟨w.heap.size + 1, k, none⟩) (Nat.le_succ _) _, ?_, ?_, own_same h.o (fun q hq => key q (by have := hlow q hq; omega) (by have := hlow q hq; omega)), by rw [World.size_setCell, World.size_setCell]; exact h.n⟩
  · exact (h.m.set true).same (heap_setCell_other _ ⟨w.heap.size + 1, k, none⟩ _ _ (show w.heap.size ≠ w.heap.size + 1 by omega))
  · exact (h.i.same (heap_setCell_other _ ⟨w.heap.size, k, none⟩ _ _ (show w.heap.size + 1 ≠ w.heap.size by omega))).set y
theorem WbS.push {w wr w2 : World} {come : List Nat} {isC : Nat → Bool} {ah : Nat → Nat} {v v2 : Value} {k : Nat} (h : WbS w wr come isC ah v) (ho : w2.ownsRow (w.heap.size + 2) 3 1 v2 (come.length + 1) (come.map U.nI ++ [.int .i64 (k : Int)])) (hg : wr.grownBy w2 v.ownBlock) : WbS w w2 (come ++ [k]) isC ah v2 := by
  have hlow : ∀ q, v.ownBlock = some q → w.heap.size + 2 ≤ q := fun q hq => (h.o.lt q hq).1
  have hn := h.n
  refine ⟨below_grown h.b hg (fun q e => by have := hlow q e; omega), h.m.same (hg.block _ h.m.lt (fun e => by have := hlow _ e.symm; omega)), h.i.same (hg.block _ h.i.lt (fun e => by have := hlow _ e.symm; omega)), ?_, Nat.le_trans hn hg.size⟩
  rw [List.length_append, List.map_append]
  exact ho
/-- The way, as far as it is told: back from its end. -/
structure WkS (w wr : World) (ah : Nat → Nat) (l : List Nat) (v : Value) : Prop where
  b : Below w.heap.size w wr
  i : IX wr (w.heap.size + 1) ah
  o : wr.ownsRow (w.heap.size + 2) 3 1 v l.length (l.map U.nI)
  n : w.heap.size + 2 ≤ wr.heap.size
theorem WkS.push {w wr w2 : World} {l : List Nat} {ah : Nat → Nat} {v v2 : Value} {k : Nat} (h : WkS w wr ah l v) (ho : w2.ownsRow (w.heap.size + 2) 3 1 v2 (l.length + 1) (l.map U.nI ++ [.int .i64 (k : Int)])) (hg : wr.grownBy w2 v.ownBlock) : WkS w w2 ah (l ++ [k]) v2 := by
  have hlow : ∀ q, v.ownBlock = some q → w.heap.size + 2 ≤ q := fun q hq => (h.o.lt q hq).1
  have hn := h.n
  refine ⟨below_grown h.b hg (fun q e => by have := hlow q e; omega), h.i.same (hg.block _ h.i.lt (fun e => by have := hlow _ e.symm; omega)), ?_, Nat.le_trans hn hg.size⟩
  rw [List.length_append, List.map_append]
  exact ho
theorem rev_drop {l : List Nat} {g x : Nat} (h : l[g]? = some x) : (l.drop g).reverse = (l.drop (g + 1)).reverse ++ [x] := by
  obtain ⟨hg, e⟩ := List.getElem?_eq_some_iff.1 h
  rw [List.drop_eq_getElem_cons hg, List.reverse_cons, e]

set_option maxRecDepth 100000 in
set_option maxHeartbeats 64000000 in
theorem wayBack_any {n : Nat} {cx : Mx} (hc : ∀ i j, cx i j = true → i < n ∧ j < n) (hn : n ≤ 200) {r : Nat} (hr : r < n) (A : Option Addr) (c : Nat) (w : World) (hp : RdL w A ((List.range n).map (hdl n cx))) :
    Calls Tryz.prog 57 #[.slice A n c, .int .i64 (r : Int)] w fun e w' => (∃ v l, e = .returned v ∧ WyB n cx r l ∧ w'.ownsRow w.heap.size 3 1 v l.length (l.map U.nI)) ∧ Below w.heap.size w w' := by
  have hv := zero_mk
  have hv2 := zero_ai
  obtain ⟨w1, hw1⟩ : ∃ w1, w1 = (w.alloc (.cells (mkA fun _ => false) 94)).alloc (.cells (aiA fun _ => 0) 116) := ⟨_, rfl⟩
  have HE1 := (show Hid ((w.alloc (.cells (mkA fun _ => false) 94)).alloc (.cells (aiA fun _ => 0) 116) = w1) from hw1.symm)
  obtain ⟨w2, hw2⟩ : ∃ w2, w2 = w1.alloc (.cells #[.int .i64 (r : Int)] 3) := ⟨_, rfl⟩
  have HE2 := (show Hid (w1.alloc (.cells #[.int .i64 (r : Int)] 3) = w2) from hw2.symm)
  have s0 := World.size_alloc w (.cells (mkA fun _ => false) 94)
  have s1 : w1.heap.size = w.heap.size + 2 := by rw [hw1, World.size_alloc, s0]
  have HS := (show Hid (WbS w w2 [r] (fun _ => false) (fun _ => 0) (.slice (some ⟨w.heap.size + 1 + 1, 0, none⟩) 1 1)) from by
    have hb1 : Below w.heap.size w w1 := by rw [hw1]; exact ((Below.refl _ _).alloc (Nat.le_refl _) _).alloc (by omega) _
    have hb2 : Below w1.heap.size w1 w2 := by rw [hw2]; exact below_box _ _
    have hm1 : MX w1 w.heap.size (fun _ => false) := by rw [hw1]; exact (MX.new w _).below (below_box _ _)
    have hi1 : IX w1 (w.heap.size + 1) (fun _ => 0) := by
      have h := heap_alloc_new (w.alloc (.cells (mkA fun _ => false) 94)) (.cells (aiA fun _ => 0) 116)
      rw [s0, ← hw1] at h
      exact ⟨h⟩
    refine ⟨hb1.trans (hb2.mono hb1.size), hm1.below hb2, hi1.below hb2, ?_, by have := hb2.size; omega⟩
    rw [show w.heap.size + 1 + 1 = w1.heap.size from s1.symm]
    refine ⟨rfl, .inr ⟨w1.heap.size, 1, #[.int .i64 (r : Int)], rfl, by omega, ?_, Nat.le_refl _, by unfold maxLen; omega, rfl, rfl⟩⟩
    rw [hw2]
    exact heap_alloc_new w1 _)
  have HB := (show Hid (BfI n cx r [r] [0] 0 0) from BfI.start hr)
  have HA := (show Hid (WbA r [r] [0] (fun _ => false) (fun _ => 0)) from WbA.start r)
  have HRd := (show Hid (RdL w A ((List.range n).map (hdl n cx))) from hp)
  have HC := (show Hid ((∀ i j, cx i j = true → i < n ∧ j < n) ∧ n ≤ 200 ∧ r < n) from ⟨hc, hn, hr⟩)
  have hne1 : w1.heap.size = w.heap.size + 1 + 1 := s1
  clear hw1 hw2 s0 s1 hc hp
  go_enter Tryz.func57, Tryz.ntmps57
  go_wp2_with (first | rw [HE1.out] | rw [HE2.out])
  go_step3
  go_wp2_with (first | rw [HE1.out] | rw [HE2.out])
  go_step3
  go_wp2_with (first | rw [HE1.out] | rw [HE2.out])
  clear HE1 HE2 hv hv2
  go_loopw [7, 8, 9] (fun v v8 t wr => ∃ (a nn : Nat) (come pi : List Nat) (isC : Nat → Bool) (ah : Nat → Nat) (A7 : Option Addr) (c7 : Nat), a ≤ nn ∧ nn ≤ 200 ∧ t = .int .i64 (a : Int) ∧ v = .slice A7 nn c7 ∧ v8 = .slice none 0 0 ∧ Hid (nn = come.length) ∧ Hid (BfI n cx r come pi a 0) ∧ Hid (WbA r come pi isC ah) ∧ Hid (WbS w wr come isC ah (.slice A7 nn c7))) (fun _ _ t _ => 201 - (intOf t).toNat)
  case atStart => exact ⟨0, 1, [r], [0], fun _ => false, fun _ => 0, some ⟨w.heap.size + 1 + 1, 0, none⟩, 1, by omega, by omega, by go_num, rfl, rfl, rfl, HB, HA, HS⟩
  case round =>
    obtain ⟨a, nn, come, pi, isC, ah, A7, c7, ha, hnn, rfl, rfl, rfl, HN, HBa, HAa, HW⟩ := hrel
    clear HS HB HA
    by_cases hlt : a < nn
    · obtain ⟨y, hy⟩ : ∃ y, come[a]? = some y := ⟨_, List.getElem?_eq_getElem (by rw [← HN.out]; exact hlt)⟩
      have hyn : y < n := HBa.out.lt y (List.mem_of_getElem? hy)
      obtain ⟨g7, e7, he7, _, hg7, x7, _⟩ := own_get HW.out.o (j := a) (x := U.nI y) (by rw [List.getElem?_map, hy]; rfl)
      have h7 : A7 = some ⟨g7, 0, none⟩ := by injection he7
      clear he7
      subst h7
      unfold U.nI at x7
      obtain ⟨b, o, A2, c2, rfl, lb, xb, hrow⟩ := HRd.out y (hdl n cx y) (by rw [List.getElem?_map, List.getElem?_range hyn]; rfl)
      have xb' := (HW.out.b.cell (p := ⟨b, o + y, none⟩) lb).trans xb
      obtain ⟨ln, hln⟩ : ∃ ln, ln = (hdl n cx y).length := ⟨_, rfl⟩
      have HLn := (show Hid (ln = (hdl n cx y).length ∧ ln ≤ 200) from ⟨hln, by rw [hln]; exact Nat.le_trans (hdl_len n cx y) hn⟩)
      rw [← hln] at xb'
      have HRow := (show Hid (∀ (q x : Nat), (hdl n cx y)[q]? = some x → ∃ g2 o2, A2 = some ⟨g2, o2, none⟩ ∧ g2 < w.heap.size ∧ w.cell? ⟨g2, o2 + q, none⟩ = some (.int .i64 (x : Int))) from hrow)
      have HY := (show Hid (come[a]? = some y) from hy)
      have HQ := (show Hid (BfQ n cx r come pi a y 0) from BfQ.start HBa.out hy)
      have z0 : (0 : Int) ≤ (a : Int) := by omega
      have z1 : (a : Int) < (nn : Int) := by omega
      have z2 : (0 : Int) ≤ (y : Int) := by omega
      have z3 : (y : Int) < (n : Int) := by omega
      clear hy hln xb hrow lb HBa hg7
      go_wp2_with fail
      clear x7 xb'
      obtain ⟨wC, hwC⟩ : ∃ wC, wC = wr := ⟨_, rfl⟩
      subst hwC
      go_loopw [7, 8, 29] (fun v v8 t wr => ∃ (q nn : Nat) (come pi : List Nat) (isC : Nat → Bool) (ah : Nat → Nat) (A7 : Option Addr) (c7 : Nat), q ≤ ln ∧ nn ≤ 200 ∧ t = .int .i64 (q : Int) ∧ v = .slice A7 nn c7 ∧ v8 = .slice none 0 0 ∧ a < nn ∧ Hid (nn = come.length) ∧ Hid (BfQ n cx r come pi a y q) ∧ Hid (WbA r come pi isC ah) ∧ Hid (WbS w wr come isC ah (.slice A7 nn c7))) (fun _ _ t _ => ln - (intOf t).toNat)
      case atStart => exact ⟨0, nn, come, pi, isC, ah, _, c7, Nat.zero_le _, hnn, by go_num, rfl, rfl, hlt, HN, HQ, HAa, HW⟩
      case round =>
        clear HQ HAa HW HN HY
        obtain ⟨q, n1, come1, pi1, isC1, ah1, A1, c1, hq, hn1, rfl, rfl, rfl, han, HN, HQ, HAa, HW⟩ := hrel
        by_cases hql : q < ln
        · obtain ⟨k, hk⟩ : ∃ k, (hdl n cx y)[q]? = some k := ⟨_, List.getElem?_eq_getElem (by rw [← HLn.out.1]; exact hql)⟩
          have hkn : k < n := (HC.out.1 y k ((hdl_mem HC.out.1).1 (List.mem_of_getElem? hk))).2
          obtain ⟨g2, o2, rfl, lg2, xk⟩ := HRow.out q k hk
          have xk' := (HW.out.b.cell (p := ⟨g2, o2 + q, none⟩) lg2).trans xk
          obtain ⟨g7, e7, he7, _, hg7, x7, _⟩ := own_get HW.out.o (j := a) (x := U.nI y) (by rw [List.getElem?_map, HQ.out.1]; rfl)
          have h7 : A1 = some ⟨g7, 0, none⟩ := by injection he7
          clear he7
          subst h7
          unfold U.nI at x7
          have z4 : (0 : Int) ≤ (q : Int) := by omega
          have z5 : (q : Int) < (ln : Int) := by omega
          have z6 : (0 : Int) ≤ (k : Int) := by omega
          have z7 : (k : Int) < 200 := by omega
          have z8 : (a : Int) < (n1 : Int) := by omega
          have hl2 : ln ≤ 200 := HLn.out.2
          by_cases hkr : k = r
          · subst hkr
            have HPt := (show Hid (∃ m l, Ds cx k m k ∧ PtI cx k m l ∧ 0 < m ∧ m ≤ n ∧ l[m - 1]? = some y ∧ ∀ (i x z : Nat), l[i]? = some x → l[i + 1]? = some z → z ≠ k ∧ z < n ∧ ah1 z = x) from by
              obtain ⟨hy1, b0, hb0, hx0⟩ := HQ.out
              have hck : cx y k = true := (hdl_mem HC.out.1).1 (List.mem_of_getElem? hk)
              have hrc : ∃ t, Ds cx k t k := by
                rcases hb0.reach HC.out.1 (a + 1) a y (by omega) hy1 with e | e
                · rw [e] at hck; exact Ds.of_rc (n := n) (Rc.of hck)
                · exact Ds.of_rc (Rc.trans (HC.out.1 y k hck).1 e (Rc.of hck))
              obtain ⟨m, hd⟩ := hrc
              obtain ⟨l, hl⟩ := PtI.ex hd
              obtain ⟨h1, h2⟩ := HAa.out.back hb0 hy1 hck hd hl
              exact ⟨m, l, hd, hl, hd.1, hd.few HC.out.1, h1, h2⟩)
            obtain ⟨m, l, hd, hl, hm0, hmn, hly, hback⟩ := HPt.out
            have HL := (show Hid (l.length = m ∧ l[0]? = some k ∧ l[m - 1]? = some y ∧ (∀ (i x z : Nat), l[i]? = some x → l[i + 1]? = some z → z ≠ k ∧ z < n ∧ ah1 z = x) ∧ WyB n cx k l ∧ m ≤ 200) from ⟨hl.n, hl.h, hly, hback, .inr ⟨m, hd, hl⟩, by omega⟩)
            have HNs := (show Hid (w.heap.size + 2 ≤ wr.heap.size) from HW.out.n)
            have HW9 := (show Hid (∀ (g9 cap9 : Nat) (w9 : World), w9.ownsRow (w.heap.size + 2) 3 1 (.slice (some ⟨g9, 0, none⟩) 1 cap9) 1 ([] ++ [.int .i64 (y : Int)]) → wr.grownBy w9 (Value.slice none 0 0).ownBlock → Hid (WkS w w9 ah1 ((l.drop (m - 1)).reverse) (.slice (some ⟨g9, 0, none⟩) 1 cap9)) ∧ w9.cell? ⟨g9, 0, none⟩ = some (.int .i64 (y : Int))) from fun g9 cap9 w9 h1 h2 => by
              have hz : (l.drop (m - 1)).reverse = [y] := by
                rw [rev_drop HL.out.2.2.1, show m - 1 + 1 = l.length from by rw [HL.out.1]; omega, List.drop_length]
                rfl
              refine ⟨?_, (h1.cells (g := g9) rfl 0 _ rfl)⟩
              show WkS _ _ _ _ _
              rw [hz]
              exact ⟨below_grown HW.out.b h2 (fun q e => by cases e), HW.out.i.same (h2.block _ HW.out.i.lt (fun e => by cases e)), h1, Nat.le_trans HW.out.n h2.size⟩)
            clear hd hl hm0 hmn hly hback HPt HAa HQ HRow HRd hk xk lg2 hg7 HW HLn HN
            go_wp2_with (at_builtin; refine U.wpList_app1 rfl _ _ 26 rfl (.int .i64 0) 8 Tryz.underlying26 Tryz.info3 rfl (w.heap.size + 2) 0 _ [] rfl rfl (World.ownsRow_nil _ _ _ _) rfl (by omega) (by decide) HNs.out ?_; intro g9 cap9 w9 ho9 hg9 hat9 hl9; obtain ⟨HV9, x9⟩ := HW9.out g9 cap9 w9 ho9 hg9; clear ho9 hg9 hat9 hl9 HW9 HNs x7 xk')
            try clear x9
            have HG0 := (show Hid (l[m - 1]? = some y ∧ 1 = m - (m - 1)) from ⟨HL.out.2.2.1, by
              have := (List.getElem?_eq_some_iff.1 HL.out.2.2.1).1
              have := HL.out.1
              omega⟩)
            go_loopg [8, 12] (m - 1) (fun g v t wr => ∃ (x n8 : Nat) (A8 : Option Addr) (c8 : Nat), t = .int .i64 (x : Int) ∧ v = .slice A8 n8 c8 ∧ n8 ≤ 200 ∧ Hid (l[g]? = some x ∧ n8 = m - g) ∧ Hid (WkS w wr ah1 ((l.drop g).reverse) (.slice A8 n8 c8)))
            case atStart => exact ⟨y, 1, some ⟨g9, 0, none⟩, cap9, by go_num, rfl, by omega, HG0, HV9⟩
            case round =>
              clear HV9 HG0
              obtain ⟨x, n8, A8, c8, rfl, rfl, hn8, HG, HK⟩ := hrel
              cases gk with
              | zero =>
                have hxk : x = k := by
                  have h := HG.out.1
                  rw [HL.out.2.1] at h
                  exact (Option.some.inj h).symm
                subst hxk
                have HRv := (show Hid (∀ _ : Unit, Calls Tryz.prog 67 #[.slice A8 n8 c8] wr fun e w' => e = .returned (.tuple #[]) ∧ w'.ownsRow (w.heap.size + 2) 3 1 (.slice A8 n8 c8) n8 (l.map U.nI) ∧ wr.grownBy w' (Value.slice A8 n8 c8).ownBlock) from fun _ => by
                  have h := HK.out.o
                  rw [List.drop_zero] at h
                  have hl8 : n8 = l.reverse.length := by rw [List.length_reverse, HL.out.1]; have := HG.out.2; omega
                  rw [← hl8] at h
                  have h2 := reverse_any hl8 (by rw [List.length_reverse, HL.out.1]; have := HL.out.2.2.2.2.2; omega) h
                  rw [List.reverse_reverse] at h2
                  exact h2)
                have HEnd := (show Hid (∀ w', w'.ownsRow (w.heap.size + 2) 3 1 (.slice A8 n8 c8) n8 (l.map U.nI) → wr.grownBy w' (Value.slice A8 n8 c8).ownBlock → w'.ownsRow w.heap.size 3 1 (.slice A8 n8 c8) l.length (l.map U.nI) ∧ Below w.heap.size w w') from fun w' h1 h2 => by
                  have hl8 : n8 = l.length := by rw [HL.out.1]; have := HG.out.2; omega
                  have hlow : ∀ q, (Value.slice A8 n8 c8).ownBlock = some q → w.heap.size + 2 ≤ q := fun q hq => (h1.lt q hq).1
                  refine ⟨by have h := U.own_base h1 (by omega : w.heap.size ≤ w.heap.size + 2); rw [hl8] at h ⊢; exact h, below_grown HK.out.b h2 (fun q e => by have := hlow q e; omega)⟩)
                clear HK HG
                go_wp2_with fail
                refine (HRv.out ()).mono ?_
                rintro e w8 ⟨rfl, ho8, hg8⟩
                have HZ := hid_of (HEnd.out w8 ho8 hg8)
                have HWy := (show Hid (WyB n cx x l) from HL.out.2.2.2.2.1)
                clear ho8 hg8 HEnd HRv HL
                go_wp2_with fail
                unfold Exit.noGoto
                go_ret
                exact ⟨⟨_, l, rfl, HWy.out, HZ.out.1⟩, HZ.out.2⟩
              | succ g =>
                obtain ⟨x0, hx0⟩ : ∃ x0, l[g]? = some x0 := ⟨_, List.getElem?_eq_getElem (by have := (List.getElem?_eq_some_iff.1 HG.out.1).1; omega)⟩
                obtain ⟨hxk, hxn, hax⟩ := HL.out.2.2.2.1 g x0 x hx0 HG.out.1
                have tx : ((x : Int) != (k : Int)) = true := by rw [bne, beq_eq_false_iff_ne.2 (by omega)]; rfl
                have i0 := HK.out.i.cl (show x < 200 by have := HC.out.2.1; omega)
                rw [hax] at i0
                have z20 : (0 : Int) ≤ (x : Int) := by omega
                have z21 : (x : Int) < 200 := by have := HC.out.2.1; omega
                have HO8 := (show Hid (wr.ownsRow (w.heap.size + 2) 3 1 (.slice A8 n8 c8) n8 (((l.drop (g + 1)).reverse).map U.nI)) from by
                  have h := HK.out.o
                  have e : (l.drop (g + 1)).reverse.length = n8 := by rw [List.length_reverse, List.length_drop, HL.out.1]; exact HG.out.2.symm
                  rw [e] at h
                  exact h)
                have HN8 := (show Hid (w.heap.size + 2 ≤ wr.heap.size) from HK.out.n)
                have HPu := (show Hid (∀ (g9 cap9 : Nat) (w9 : World), w9.ownsRow (w.heap.size + 2) 3 1 (.slice (some ⟨g9, 0, none⟩) (n8 + 1) cap9) (n8 + 1) (((l.drop (g + 1)).reverse).map U.nI ++ [.int .i64 (x0 : Int)]) → wr.grownBy w9 (Value.slice A8 n8 c8).ownBlock → Hid (WkS w w9 ah1 ((l.drop g).reverse) (.slice (some ⟨g9, 0, none⟩) (n8 + 1) cap9))) from fun g9 cap9 w9 h1 h2 => by
                  have e : (l.drop (g + 1)).reverse.length = n8 := by rw [List.length_reverse, List.length_drop, HL.out.1]; exact HG.out.2.symm
                  show WkS _ _ _ _ _
                  rw [rev_drop hx0]
                  exact HK.out.push (by rw [e]; exact h1) h2)
                have HG2 := (show Hid (l[g]? = some x0 ∧ n8 + 1 = m - g) from ⟨hx0, by
                  have h1 := (List.getElem?_eq_some_iff.1 HG.out.1).1
                  have h2 := HL.out.1
                  have h3 := HG.out.2
                  omega⟩)
                have hn9 : n8 + 1 ≤ 200 := by have h3 := HG2.out.2; have h4 := HL.out.2.2.2.2.2; omega
                clear hx0 hxk hxn hax HK HG
                go_wp2_with (at_builtin; refine U.wpList_app1 rfl _ _ 26 rfl (.int .i64 0) 8 Tryz.underlying26 Tryz.info3 rfl (w.heap.size + 2) n8 _ _ rfl rfl HO8.out rfl (by omega) (by decide) HN8.out ?_; intro g9 cap9 w9 ho9 hg9 hat9 hl9; have HV9 := HPu.out g9 cap9 w9 ho9 hg9; clear ho9 hg9 hat9 hl9 HPu HO8 HN8 i0 tx)
                go_roundg g
                case measure => omega
                case rel => exact ⟨x0, n8 + 1, some ⟨g9, 0, none⟩, cap9, by go_num, rfl, hn9, HG2, HV9⟩
          · have hkr2 : ((k : Int) == (r : Int)) = false := by rw [beq_eq_false_iff_ne]; omega
            have m0 := HW.out.m.cl (show k < 200 by omega)
            cases hic : isC1 k with
            | true =>
              rw [hic] at m0
              have HQ2 := (show Hid (BfQ n cx r come1 pi1 a y (q + 1)) from HQ.out.old HC.out.1 hk hkr ((HAa.out.m k).1 hic).1)
              clear hk xk lg2 hkr hic HQ hg7 x7
              go_wp2_with fail
              go_roundw
              case rel => exact ⟨q + 1, n1, come1, pi1, isC1, ah1, _, c1, by omega, hn1, by go_num, rfl, rfl, han, HN, HQ2, HAa, HW⟩
              case measure => simp [intOf]; omega
            | false =>
              rw [hic] at m0
              have hkm : k ∉ come1 := fun e => by
                have := (HAa.out.m k).2 ⟨e, hkr⟩
                rw [hic] at this
                cases this
              have f0 := HW.out.m.fz k
              obtain ⟨w5, hw5⟩ : ∃ w5, w5 = wr.setCell ⟨w.heap.size, k, none⟩ (.bool true) := ⟨_, rfl⟩
              have HE5 := (show Hid (wr.setCell ⟨w.heap.size, k, none⟩ (.bool true) = w5) from hw5.symm)
              obtain ⟨w6, hw6⟩ : ∃ w6, w6 = w5.setCell ⟨w.heap.size + 1, k, none⟩ (.int .i64 (y : Int)) := ⟨_, rfl⟩
              have HE6 := (show Hid (w5.setCell ⟨w.heap.size + 1, k, none⟩ (.int .i64 (y : Int)) = w6) from hw6.symm)
              have hlow := (HW.out.o.lt g7 rfl).1
              have hi5 : IX w5 (w.heap.size + 1) ah1 := by rw [hw5]; exact HW.out.i.same (heap_setCell_other _ ⟨w.heap.size, k, none⟩ _ _ (show w.heap.size + 1 ≠ w.heap.size by omega))
              have i0 := hi5.cl (show k < 200 by omega)
              have f1 := hi5.fz k
              have x7' : w5.cell? ⟨g7, a, none⟩ = some (.int .i64 (y : Int)) := by
                rw [hw5, World.cell?_of_block (a := ⟨g7, a, none⟩) (heap_setCell_other _ ⟨w.heap.size, k, none⟩ g7 _ (show g7 ≠ w.heap.size by omega))]
                exact x7
              have HW6 := (show Hid (WbS w w6 come1 (fun x => if x = k then true else isC1 x) (fun x => if x = k then y else ah1 x) (.slice (some ⟨g7, 0, none⟩) n1 c1)) from by rw [hw6, hw5]; exact HW.out.mark k y)
              have HO6 := (show Hid (w6.ownsRow (w.heap.size + 2) 3 1 (.slice (some ⟨g7, 0, none⟩) n1 c1) n1 (come1.map U.nI)) from by have h := HW6.out.o; rw [← HN.out] at h; exact h)
              have HN6 := (show Hid (w.heap.size + 2 ≤ w6.heap.size) from HW6.out.n)
              have HPu := (show Hid (∀ (g9 cap9 : Nat) (w9 : World), w9.ownsRow (w.heap.size + 2) 3 1 (.slice (some ⟨g9, 0, none⟩) (n1 + 1) cap9) (n1 + 1) (come1.map U.nI ++ [.int .i64 (k : Int)]) → w6.grownBy w9 (Value.slice (some ⟨g7, 0, none⟩) n1 c1).ownBlock → Hid (WbS w w9 (come1 ++ [k]) (fun x => if x = k then true else isC1 x) (fun x => if x = k then y else ah1 x) (.slice (some ⟨g9, 0, none⟩) (n1 + 1) cap9))) from fun g9 cap9 w9 h1 h2 => HW6.out.push (by rw [← HN.out]; exact h1) h2)
              have HQ2 := (show Hid (BfQ n cx r (come1 ++ [k]) (pi1 ++ [a]) a y (q + 1)) from HQ.out.push HC.out.1 hk hkr hkm)
              have HA2 := (show Hid (WbA r (come1 ++ [k]) (pi1 ++ [a]) (fun x => if x = k then true else isC1 x) (fun x => if x = k then y else ah1 x)) from by
                obtain ⟨_, b0, hb0, _⟩ := HQ.out
                refine HAa.out.push hb0.lp (fun j i hj0 hi => ?_) HQ.out.1 hkm hkr
                obtain ⟨x, hx⟩ : ∃ x, come1[j]? = some x := ⟨_, List.getElem?_eq_getElem (by rw [← hb0.lp]; exact (List.getElem?_eq_some_iff.1 hi).1)⟩
                obtain ⟨i2, y2, p1, p2, _⟩ := hb0.p j x hj0 hx
                rw [hi] at p1
                cases p1
                have := (List.getElem?_eq_some_iff.1 hx).1
                omega)
              have HN2 := (show Hid (n1 + 1 = (come1 ++ [k]).length ∧ n1 + 1 ≤ 200) from by
                have e : (come1 ++ [k]).length = n1 + 1 := by rw [List.length_append, ← HN.out]; rfl
                obtain ⟨_, b0, hb0, _⟩ := HQ2.out
                have := hb0.few
                exact ⟨e.symm, by omega⟩)
              have HN3 := (show Hid (n1 + 1 = (come1 ++ [k]).length) from HN2.out.1)
              have hn2 : n1 + 1 ≤ 200 := HN2.out.2
              clear hk xk lg2 hkr hic HQ hg7 x7 hw5 hw6 hlow hi5 hkm HW HAa HW6 HN2
              go_wp2_with (first | rw [HE5.out] | rw [HE6.out] | (at_builtin; refine U.wpList_app1 rfl _ _ 26 rfl (.int .i64 0) 8 Tryz.underlying26 Tryz.info3 rfl (w.heap.size + 2) n1 _ _ rfl rfl HO6.out rfl (by omega) (by decide) HN6.out ?_; intro g9 cap9 w9 ho9 hg9 hat9 hl9; have HV9 := HPu.out g9 cap9 w9 ho9 hg9; clear ho9 hg9 hat9 hl9 HPu HO6 HN6 HE5 HE6 i0 f1 x7' f0 m0 xk'))
              go_roundw
              case rel => exact ⟨q + 1, n1 + 1, come1 ++ [k], pi1 ++ [a], _, _, _, cap9, by omega, hn2, by go_num, rfl, rfl, by omega, HN3, HQ2, HA2, HV9⟩
              case measure => simp [intOf]; omega
        · obtain rfl : q = ln := by omega
          have HBn := (show Hid (BfI n cx r come1 pi1 (a + 1) 0) from by
            have h := HQ.out
            rw [HLn.out.1] at h
            exact h.done HC.out.1)
          clear HQ HRow HLn
          go_wp2_with fail
          go_roundw
          case rel => exact ⟨a + 1, n1, come1, pi1, isC1, ah1, A1, c1, by omega, hn1, by go_num, rfl, rfl, HN, HBn, HAa, HW⟩
          case measure => simp [intOf]; omega
    · obtain rfl : a = nn := by omega
      have HNo := (show Hid (WyB n cx r []) from .inl ⟨rfl, by
        have h := HBa.out
        rw [HN.out] at h
        exact h.none HC.out.1⟩)
      have HBe := (show Hid (Below w.heap.size w wr) from HW.out.b)
      clear HW HAa HBa HN HRd HC
      go_wp2_with fail
      unfold Exit.noGoto
      go_ret
      exact ⟨⟨_, [], rfl, HNo.out, World.ownsRow_nil _ _ _ _⟩, HBe.out⟩
end Go.Proofs.YtbipjdgholdhcaaGreat.N

namespace Go.Proofs.YtbipjdgholdhcaaGreat.N
open Go.RowKit Go.Maps
open Go.Proofs.YtbipjdgholdhcaaGreat.T

open U (below_grown own_get own_slice)
theorem WyB.len {n : Nat} {c : Mx} {r : Nat} {l : List Nat} (h : WyB n c r l) : (l.length = 0 ∧ ¬ Rc n c r r) ∨ (0 < l.length ∧ ∃ m, Ds c r m r ∧ PtI c r m l) := by
  rcases h with ⟨h1, h2⟩ | ⟨m, h1, h2⟩
  · exact .inl ⟨by rw [h1]; rfl, h2⟩
  · exact .inr ⟨by rw [h2.n]; exact h1.1, m, h1, h2⟩
set_option maxRecDepth 100000 in
set_option maxHeartbeats 16000000 in
theorem cycle_any {n : Nat} {cx : Mx} (hc : ∀ i j, cx i j = true → i < n ∧ j < n) (hn : n ≤ 200) (A : Option Addr) (c : Nat) (w : World) (hp : RdL w A ((List.range n).map (hdl n cx))) :
    Calls Tryz.prog 41 #[.slice A n c] w fun e w' => (∃ v l, e = .returned v ∧ CyR n cx l ∧ w'.ownsRow w.heap.size 3 1 v l.length (l.map U.nI)) ∧ Below w.heap.size w w' := by
  have HRd := (show Hid (RdL w A ((List.range n).map (hdl n cx))) from hp)
  have HC := (show Hid ((∀ i j, cx i j = true → i < n ∧ j < n) ∧ n ≤ 200) from ⟨hc, hn⟩)
  have HS := (show Hid (Below w.heap.size w w ∧ ∀ q, q < 0 → ¬ Rc n cx q q) from ⟨Below.refl _ _, fun q h => absurd h (Nat.not_lt_zero _)⟩)
  clear hp hc
  go_enter Tryz.func41, Tryz.ntmps41
  go_wp2_with fail
  go_loopw [7] (fun t wr => ∃ k : Nat, k ≤ n ∧ t = .int .i64 (k : Int) ∧ Hid (Below w.heap.size w wr ∧ ∀ q, q < k → ¬ Rc n cx q q)) (fun t _ => n - (intOf t).toNat)
  case atStart => exact ⟨0, Nat.zero_le _, by go_num, HS⟩
  case round =>
    obtain ⟨k, hk, rfl, HW⟩ := hrel
    clear HS
    by_cases hlt : k < n
    · have HWb := (show Hid (∀ _ : Unit, Calls Tryz.prog 57 #[.slice A n c, .int .i64 (k : Int)] wr fun e w' => (∃ v l, e = .returned v ∧ WyB n cx k l ∧ w'.ownsRow wr.heap.size 3 1 v l.length (l.map U.nI)) ∧ Below wr.heap.size wr w') from fun _ => wayBack_any HC.out.1 HC.out.2 hlt A c wr (HRd.out.later HW.out.1))
      go_wp2_with fail
      refine (HWb.out ()).mono ?_
      rintro e w2 ⟨⟨v, l, rfl, hw, ho⟩, b2⟩
      obtain ⟨A2, c2, rfl⟩ := own_slice ho
      have HB2 := (show Hid (Below w.heap.size w w2) from HW.out.1.trans (b2.mono HW.out.1.size))
      rcases hw.len with ⟨h1, h2⟩ | ⟨h1, h2⟩
      · have HN := (show Hid (Below w.heap.size w w2 ∧ ∀ q, q < k + 1 → ¬ Rc n cx q q) from ⟨HB2.out, fun q hq => by
          by_cases e : q = k
          · rw [e]; exact h2
          · exact HW.out.2 q (by omega)⟩)
        have hlz : (.slice A2 l.length c2 : Value) = .slice A2 0 c2 := by rw [h1]
        rw [hlz]
        clear hw ho b2 h2 HB2 HW HWb h1 hlz
        go_wp2_with fail
        go_roundw
        case rel => exact ⟨k + 1, by omega, by go_num, HN⟩
        case measure => simp [intOf]; omega
      · have HFin := (show Hid (CyR n cx l ∧ w2.ownsRow w.heap.size 3 1 (.slice A2 l.length c2) l.length (l.map U.nI) ∧ Below w.heap.size w w2) from ⟨.inr (by obtain ⟨m, q1, q2⟩ := h2; exact ⟨k, m, q1, HW.out.2, q2⟩), U.own_base ho HW.out.1.size, HB2.out⟩)
        obtain ⟨ln, hln⟩ : ∃ ln, ln = l.length := ⟨_, rfl⟩
        have HLn := (show Hid (ln = l.length) from hln)
        rw [← hln] at h1 ⊢
        have hl0 : (ln : Int) > 0 := by omega
        have hl1 : 0 < ln := h1
        clear hw ho b2 h2 HB2 HW HWb hln
        go_wp2_with fail
        go_ret
        exact ⟨⟨_, l, rfl, HFin.out.1, by rw [HLn.out]; exact HFin.out.2.1⟩, HFin.out.2.2⟩
    · obtain rfl : k = n := by omega
      have HFin := (show Hid (CyR k cx [] ∧ Below w.heap.size w wr) from ⟨.inl ⟨rfl, fun r q => by
        by_cases hr : r < k
        · exact HW.out.2 r hr q
        · have := Rc.least (d := fun i j => i < k ∧ j < k) HC.out.1 (fun _ _ _ _ a b => ⟨a.1, b.2⟩) q
          omega⟩, HW.out.1⟩)
      clear HW HC HRd
      go_wp2_with fail
      go_ret
      exact ⟨⟨_, [], rfl, HFin.out.1, World.ownsRow_nil _ _ _ _⟩, HFin.out.2⟩
end Go.Proofs.YtbipjdgholdhcaaGreat.N

namespace Go.Proofs.YtbipjdgholdhcaaGreat.N
open Go.RowKit Go.Maps
open Go.Proofs.YtbipjdgholdhcaaGreat.T

open U (below_grown own_get own_slice)
set_option maxRecDepth 100000 in
set_option maxHeartbeats 8000000 in
theorem repeats_any (n : Nd) (w : World) : Calls Tryz.prog 53 #[ndG n] w fun e w' => e = .returned (.bool (rpB n)) ∧ Below w.heap.size w w' := by
  obtain ⟨w1, hw1⟩ : ∃ w1, w1 = w.alloc (.cells #[.int .i64 n.op, .int .i64 n.nn, .string n.tx, .int .u64 n.s0, .int .u64 n.s1, .int .u64 n.s2, .int .u64 n.s3] 50) := ⟨_, rfl⟩
  have HE1 := (show Hid (w.alloc (.cells #[.int .i64 n.op, .int .i64 n.nn, .string n.tx, .int .u64 n.s0, .int .u64 n.s1, .int .u64 n.s2, .int .u64 n.s3] 50) = w1) from hw1.symm)
  have HN := (show Hid (NX w1 w.heap.size n) from by rw [hw1]; exact ⟨heap_alloc_new w _⟩)
  have HB := (show Hid (Below w.heap.size w w1) from by rw [hw1]; exact below_box _ _)
  have q0 : w1.cell? ⟨w.heap.size, 0, none⟩ = some (.int .i64 n.op) := HN.out.nb.c0
  have HR := (show Hid (rpB n = (n.op == 9 || (n.op == 10 || n.op == 15))) from rfl)
  clear hw1
  by_cases h9 : n.op = 9
  · have t9 : (n.op == 9) = true := by rw [h9]; rfl
    have e : rpB n = true := by rw [HR.out, t9]; rfl
    rw [e]
    clear h9 e
    go_enter Tryz.func53, Tryz.ntmps53
    go_wp2_with (rw [HE1.out])
    go_ret
    exact ⟨rfl, HB.out⟩
  by_cases h10 : n.op = 10
  · have t9 : (n.op == 9) = false := by rw [h10]; rfl
    have t10 : (n.op == 10) = true := by rw [h10]; rfl
    have e : rpB n = true := by rw [HR.out, t9, t10]; rfl
    rw [e]
    clear h9 h10 e
    go_enter Tryz.func53, Tryz.ntmps53
    go_wp2_with (rw [HE1.out])
    go_ret
    exact ⟨rfl, HB.out⟩
  by_cases h15 : n.op = 15
  · have t9 : (n.op == 9) = false := by rw [h15]; rfl
    have t10 : (n.op == 10) = false := by rw [h15]; rfl
    have t15 : (n.op == 15) = true := by rw [h15]; rfl
    have e : rpB n = true := by rw [HR.out, t9, t10, t15]; rfl
    rw [e]
    clear h9 h10 h15 e
    go_enter Tryz.func53, Tryz.ntmps53
    go_wp2_with (rw [HE1.out])
    go_ret
    exact ⟨rfl, HB.out⟩
  · have t9 : (n.op == 9) = false := by rw [beq_eq_false_iff_ne]; omega
    have t10 : (n.op == 10) = false := by rw [beq_eq_false_iff_ne]; omega
    have t15 : (n.op == 15) = false := by rw [beq_eq_false_iff_ne]; omega
    have e : rpB n = false := by rw [HR.out, t9, t10, t15]; rfl
    rw [e]
    clear h9 h10 h15 e
    go_enter Tryz.func53, Tryz.ntmps53
    go_wp2_with (rw [HE1.out])
    go_ret
    exact ⟨rfl, HB.out⟩

theorem Tryz.infoSp : (Tryz.prog.info? 28).map (fun i => (i.zero, i.size, i.bytes)) = some (some (.agg #[.int .i64 0, .int .i64 0]), 2, 16) := by kernel_rfl
/-- One more behind a row of spots. -/
theorem wpList_appS {ops : Array Oper} {rest : List Oper} {o : Oper} {a : Act} {Q : Exit → Act → World → Prop} {W : World} {p1 p2 : Nat} (hgd : o.guard = none) (s x : Operand)
    (ho : o.op = .call { callee := .builtin .append, args := #[s, x], argTypes := #[40, 40] })
    (base n : Nat) (v : Value) (l : List (Nat × Nat)) (hs : a.eval s = v) (hx : a.eval x = .slice (some ⟨W.heap.size, 0, none⟩) 1 1) (hown : W.ownsRow base 28 2 v n (spc l)) (hn : n ≤ 1000000) (hbase : base ≤ W.heap.size)
    (h : ∀ g cap w', w'.ownsRow base 28 2 (.slice (some ⟨g, 0, none⟩) (n + 1) cap) (n + 1) (spc (l ++ [(p1, p2)])) → W.grownBy w' v.ownBlock → wpList Tryz.prog ops Q rest (a.put o.dst (.slice (some ⟨g, 0, none⟩) (n + 1) cap)) w') :
    wpList Tryz.prog ops Q (o :: rest) a (W.alloc (.cells #[.int .i64 (p1 : Int), .int .i64 (p2 : Int)] 28)) := by
  obtain ⟨i0, hinf, hz0, hz1, hz2⟩ := info_parts Tryz.infoSp
  refine wpList_append_lies (W.alloc (.cells #[.int .i64 (p1 : Int), .int .i64 (p2 : Int)] 28)) hgd s x 40 ho base 28 i0 _ 2 16 Tryz.underlying40 hinf hz0 hz1 hz2 rfl (by decide) v n (spc l) hs (hown.alloc _) ⟨W.heap.size, 0, none⟩ 1 1 (spV (p1, p2)) hx rfl (World.news_of_block (cs := #[.int .i64 (p1 : Int), .int .i64 (p2 : Int)]) (t := 28) (fr := (0, 0)) (heap_alloc_new W _)) (sp_one _) (by decide) (by unfold maxLen; omega) (by omega) (by rw [World.size_alloc]; omega) (W.heap.size + 1) (by rw [World.size_alloc]) ?_
  intro g cap w' h2 h3 _ _
  refine h g cap w' ?_ (U.grow_alloc h3)
  rw [spc_app, spc_one]
  exact h2
theorem own_fs {W : World} {B n : Nat} {v : Value} {xs : List Value} (h : W.ownsRow B 28 2 v n xs) : ∃ A c, v = .slice A n c := by
  rcases h.2 with ⟨rfl, rfl⟩ | ⟨g, cap, cur, rfl, _⟩
  · exact ⟨_, _, rfl⟩
  · exact ⟨_, _, rfl⟩
/-- While loops are told. -/
structure LoS (w wr : World) (r m kv : Value) (N n : Nat) (l : List (Nat × Nat)) (v : Value) : Prop where
  b : Below w.heap.size w wr
  x : VX wr w.heap.size r m kv
  o : wr.ownsRow N 28 2 v n (spc l)
  l : n = l.length
  n : w.heap.size + 1 ≤ N ∧ N ≤ wr.heap.size
theorem LoS.later {w wr w2 : World} {r m kv : Value} {N n : Nat} {l : List (Nat × Nat)} {v : Value} (h : LoS w wr r m kv N n l v) (hb : Below wr.heap.size wr w2) : LoS w w2 r m kv N n l v :=
  ⟨h.b.trans (hb.mono h.b.size), h.x.below hb, U.own_below h.o hb, h.l, h.n.1, Nat.le_trans h.n.2 hb.size⟩
theorem LoS.push {w wr w2 : World} {r m kv : Value} {N n : Nat} {l : List (Nat × Nat)} {v v2 : Value} {p : Nat × Nat} (h : LoS w wr r m kv N n l v) (ho : w2.ownsRow N 28 2 v2 (n + 1) (spc (l ++ [p]))) (hg : wr.grownBy w2 v.ownBlock) : LoS w w2 r m kv N (n + 1) (l ++ [p]) v2 := by
  have hlow : ∀ q, v.ownBlock = some q → N ≤ q := fun q hq => (h.o.lt q hq).1
  have hn := h.n
  refine ⟨below_grown h.b hg (fun q e => by have := hlow q e; omega), h.x.same (hg.block _ h.x.lt (fun e => by have := hlow _ e.symm; omega)), ho, by rw [List.length_append, h.l]; rfl, hn.1, Nat.le_trans hn.2 hg.size⟩
/-- Besides: which parts of the rule may match nothing. -/
structure LpS (w wr : World) (r m kv : Value) (N n : Nat) (l : List (Nat × Nat)) (v : Value) (gN cN ln : Nat) (E : Nat → Bool) : Prop where
  s : LoS w wr r m kv N n l v
  o : wr.ownsRow w.heap.size 4 1 (.slice (some ⟨gN, 0, none⟩) ln cN) ln ((List.range ln).map fun j => Value.bool (E j))
theorem LpS.later {w wr w2 : World} {r m kv : Value} {N n : Nat} {l : List (Nat × Nat)} {v : Value} {gN cN ln : Nat} {E : Nat → Bool} (h : LpS w wr r m kv N n l v gN cN ln E) (hb : Below wr.heap.size wr w2) : LpS w w2 r m kv N n l v gN cN ln E := ⟨h.s.later hb, U.own_below h.o hb⟩
theorem LpS.push {w wr w2 : World} {r m kv : Value} {N n : Nat} {l : List (Nat × Nat)} {v v2 : Value} {gN cN ln : Nat} {E : Nat → Bool} {p : Nat × Nat} (h : LpS w wr r m kv N n l v gN cN ln E) (ho : w2.ownsRow N 28 2 v2 (n + 1) (spc (l ++ [p]))) (hg : wr.grownBy w2 v.ownBlock) : LpS w w2 r m kv N (n + 1) (l ++ [p]) v2 gN cN ln E :=
  ⟨h.s.push ho hg, U.own_kept h.o hg (fun k e => own_apart h.s.o h.o (by decide) e)⟩
theorem LpS.at' {w wr : World} {r m kv : Value} {N n : Nat} {l : List (Nat × Nat)} {v : Value} {gN cN ln : Nat} {E : Nat → Bool} (h : LpS w wr r m kv N n l v gN cN ln E) {j : Nat} (hj : j < ln) : wr.cell? ⟨gN, j, none⟩ = some (.bool (E j)) := by
  obtain ⟨g5, c5, e5, _, _, x5, _⟩ := own_get h.o (j := j) (x := .bool (E j)) (by rw [List.getElem?_map, List.getElem?_range hj]; rfl)
  injection e5 with e6 _ _
  obtain ⟨rfl, _⟩ := Addr.mk.inj (Option.some.inj e6)
  exact x5
set_option maxRecDepth 100000 in
set_option maxHeartbeats 32000000 in
theorem vloops_any {gs : GL} {now : List Em} (mb : Nat) (A Ak : Option Addr) (c ck : Nat) (w : World) (hv : VwO w gs A mb Ak now) :
    Calls Tryz.prog 33 #[.agg #[.slice A gs.length c, .map (some mb), .slice Ak gs.length ck]] w fun e w' => (∃ v, e = .returned v ∧ w'.ownsRow w.heap.size 28 2 v (lpG gs (nbE now) gs.length).length (spc (lpG gs (nbE now) gs.length))) ∧ Below w.heap.size w w' := by
  have hn2 := hv.R.n2
  obtain ⟨w1, hw1⟩ : ∃ w1, w1 = w.alloc (.cells #[.slice A gs.length c, .map (some mb), .slice Ak gs.length ck] 71) := ⟨_, rfl⟩
  have HE1 := (show Hid (w.alloc (.cells #[.slice A gs.length c, .map (some mb), .slice Ak gs.length ck] 71) = w1) from hw1.symm)
  have hb1 : Below w.heap.size w w1 := by rw [hw1]; exact below_box _ _
  have hs1 : w1.heap.size = w.heap.size + 1 := by rw [hw1, World.size_alloc]
  have hx1 : VX w1 w.heap.size (.slice A gs.length c) (.map (some mb)) (.slice Ak gs.length ck) := by rw [hw1]; exact VX.new w _ _ _
  have HS := (show Hid (LoS w w1 (.slice A gs.length c) (.map (some mb)) (.slice Ak gs.length ck) (w.heap.size + 1) 0 (lpG gs (nbE now) 0) (.slice none 0 0)) from ⟨hb1, hx1, World.ownsRow_nil _ _ _ _, rfl, Nat.le_refl _, by omega⟩)
  have HV := (show Hid (VwO w gs A mb Ak now) from hv)
  have HLe := (show Hid (∀ i, i ≤ gs.length → (lpG gs (nbE now) i).length ≤ 409600) from fun i hi => by
    have h := lpG_len (nb := nbE now) (fun g hg => (rt_facts hv.R hg).2.2.2.2) i
    have : i * 2048 ≤ 200 * 2048 := Nat.mul_le_mul_right _ (by omega)
    omega)
  have y0 : w1.cell? ⟨w.heap.size, 0, none⟩ = _ := hx1.c0
  clear hw1 hb1 hs1 hx1 hv
  go_enter Tryz.func33, Tryz.ntmps33
  go_wp2_with (rw [HE1.out])
  clear HE1 y0
  go_loopw [3, 12] (fun v t wr => ∃ (k n : Nat), k ≤ gs.length ∧ n ≤ 409600 ∧ t = .int .i64 (k : Int) ∧ Hid (LoS w wr (.slice A gs.length c) (.map (some mb)) (.slice Ak gs.length ck) (w.heap.size + 1) n (lpG gs (nbE now) k) v)) (fun _ t _ => gs.length - (intOf t).toNat)
  case atStart => exact ⟨0, 0, Nat.zero_le _, by omega, by go_num, HS⟩
  case round =>
    obtain ⟨k, n, hk, hn, rfl, HW⟩ := hrel
    clear HS
    by_cases hlt : k < gs.length
    · obtain ⟨⟨gn, L⟩, hg⟩ : ∃ g, gs[k]? = some g := ⟨_, List.getElem?_eq_getElem hlt⟩
      have hm := List.mem_of_getElem? hg
      obtain ⟨hrt, _, _, hpos, hlen⟩ := rt_facts HV.out.R hm
      have hrt : Rt L := hrt
      have hpos : 0 < L.length := hpos
      have hlen : L.length ≤ 2048 := hlen
      obtain ⟨b, o, A3, c3, rfl, lb, x0, x1, r2⟩ := HV.out.g.d k _ hg
      have hLn : L ≠ [] := by rintro rfl; simp at hpos
      obtain ⟨gp, op, rfl, lp, cl⟩ := r2 hLn
      have x0' := (HW.out.b.cell (p := ⟨b, o + k * 2, none⟩) lb).trans x0
      have x1' := (HW.out.b.cell (p := ⟨b, o + k * 2 + 1, none⟩) lb).trans x1
      have z0 : (0 : Int) ≤ (k : Int) := by omega
      have z1 : (k : Int) < (gs.length : Int) := by omega
      obtain ⟨w4, hw4⟩ : ∃ w4, w4 = wr.alloc (.cells #[.string gn, .slice (some ⟨gp, op, none⟩) L.length c3] 54) := ⟨_, rfl⟩
      have HE4 := (show Hid (wr.alloc (.cells #[.string gn, .slice (some ⟨gp, op, none⟩) L.length c3] 54) = w4) from hw4.symm)
      have hb4 : Below wr.heap.size wr w4 := by rw [hw4]; exact below_box _ _
      have HR4 := (show Hid (RB w4 wr.heap.size gn (.slice (some ⟨gp, op, none⟩) L.length c3)) from by rw [hw4]; exact ⟨heap_alloc_new wr _⟩)
      have HW4 := (show Hid (LoS w w4 (.slice (some ⟨b, o, none⟩) gs.length c) (.map (some mb)) (.slice Ak gs.length ck) (w.heap.size + 1) n (lpG gs (nbE now) k) u3) from HW.out.later hb4)
      have y0 := HW4.out.x.c0
      have y1 := HW4.out.x.c1
      have y2 := HW4.out.x.c2
      have HNu := (show Hid (∀ _ : Unit, Calls Tryz.prog 46 #[.agg #[.slice (some ⟨b, o, none⟩) gs.length c, .map (some mb), .slice Ak gs.length ck], .int .i64 (k : Int)] w4 fun e w' => (∃ v, e = .returned v ∧ w'.ownsRow w4.heap.size 4 1 v L.length ((List.range L.length).map fun j => Value.bool (nuR gs now L j))) ∧ Below w4.heap.size w4 w') from fun _ => nullable_any mb (some ⟨b, o, none⟩) Ak c ck hg w4 (HV.out.later HW4.out.b))
      have HCl := (show Hid (NdL w gp op L ∧ gp < w.heap.size) from ⟨cl, lp⟩)
      have HLk := (show Hid (∀ j, j ≤ L.length → (lpG gs (nbE now) k ++ lpK k L (nuR gs now L) j).length ≤ 409600) from fun j hj => by
        have h1 := lpG_len (nb := nbE now) (fun g hg => (rt_facts HV.out.R hg).2.2.2.2) k
        have h2 := lpK_len (i := k) (L := L) (nu := nuR gs now L) j
        have : k * 2048 ≤ 199 * 2048 := Nat.mul_le_mul_right _ (by omega)
        rw [List.length_append]
        omega)
      have HSuc := (show Hid (∀ (j : Nat) n, L[j]? = some n → lpG gs (nbE now) k ++ lpK k L (nuR gs now L) (j + 1) = if rpB n && nuR gs now L (j - 1) then (lpG gs (nbE now) k ++ lpK k L (nuR gs now L) j) ++ [(k, j)] else lpG gs (nbE now) k ++ lpK k L (nuR gs now L) j) from fun j n hn => by
        rw [lpK_succ hn]
        split
        · rw [List.append_assoc]
        · rfl)
      have HFin := (show Hid (lpG gs (nbE now) k ++ lpK k L (nuR gs now L) L.length = lpG gs (nbE now) (k + 1)) from (lpG_succ hg).symm)
      have HRt := (show Hid (Rt L) from hrt)
      clear hg hm hrt lb x0 x1 r2 hLn lp cl hw4 hb4 HW
      go_wp2_with (rw [HE4.out])
      refine (HNu.out ()).mono ?_
      rintro e w5 ⟨⟨v5, rfl, ho5⟩, b5⟩
      obtain ⟨gN, cN, rfl, _, _, _, _⟩ := own_get ho5 (j := 0) (x := .bool (nuR gs now L 0)) (by rw [List.getElem?_map, List.getElem?_range hpos]; rfl)
      have HW5 := (show Hid (LpS w w5 (.slice (some ⟨b, o, none⟩) gs.length c) (.map (some mb)) (.slice Ak gs.length ck) (w.heap.size + 1) n (lpG gs (nbE now) k ++ lpK k L (nuR gs now L) 0) u3 gN cN L.length (nuR gs now L)) from ⟨by have h := HW4.out.later b5; rw [show lpK k L (nuR gs now L) 0 = [] from rfl, List.append_nil]; exact h, U.own_base ho5 HW4.out.b.size⟩)
      have r1 := (HR4.out.later b5).c1
      clear ho5 b5 HNu HE4 HR4 HW4 y0 y1 y2 x0' x1' hpos
      go_wp2_with fail
      clear r1
      go_loopw [3, 23] (fun v t wr => ∃ (j n2 : Nat), j ≤ L.length ∧ n2 ≤ 409600 ∧ t = .int .i64 (j : Int) ∧ Hid (LpS w wr (.slice (some ⟨b, o, none⟩) gs.length c) (.map (some mb)) (.slice Ak gs.length ck) (w.heap.size + 1) n2 (lpG gs (nbE now) k ++ lpK k L (nuR gs now L) j) v gN cN L.length (nuR gs now L))) (fun _ t _ => L.length - (intOf t).toNat)
      case atStart => exact ⟨0, n, Nat.zero_le _, by omega, by go_num, HW5⟩
      case round =>
        obtain ⟨j, n2, hj, hn2', rfl, HX⟩ := hrel
        clear HW5
        by_cases hjl : j < L.length
        · obtain ⟨nd, hnd⟩ : ∃ nd, L[j]? = some nd := ⟨_, List.getElem?_eq_getElem hjl⟩
          obtain ⟨c0, c1, c2, c3', c4, c5, c6⟩ := (HCl.out.1.same (HX.out.s.b.block gp HCl.out.2)) j nd hnd
          have z2 : (0 : Int) ≤ (j : Int) := by omega
          have z3 : (j : Int) < (L.length : Int) := by omega
          have HSj := hid_of (HSuc.out j nd hnd)
          have HPj := (show Hid (rpB nd = true → 0 < j) from fun h => rp_pos HRt.out hnd h)
          obtain ⟨w7, hw7⟩ : ∃ w7, w7 = wr.alloc (ndO nd) := ⟨_, rfl⟩
          have HE7 := (show Hid (wr.alloc (.cells #[.int .i64 nd.op, .int .i64 nd.nn, .string nd.tx, .int .u64 nd.s0, .int .u64 nd.s1, .int .u64 nd.s2, .int .u64 nd.s3] 50) = w7) from hw7.symm)
          have HN7 := (show Hid (NX w7 wr.heap.size nd) from by rw [hw7]; exact ⟨heap_alloc_new wr _⟩)
          have hb7 : Below wr.heap.size wr w7 := by rw [hw7]; exact below_box _ _
          have HX7 := (show Hid (LpS w w7 (.slice (some ⟨b, o, none⟩) gs.length c) (.map (some mb)) (.slice Ak gs.length ck) (w.heap.size + 1) n2 (lpG gs (nbE now) k ++ lpK k L (nuR gs now L) j) u3 gN cN L.length (nuR gs now L)) from HX.out.later hb7)
          have q0 : w7.cell? ⟨wr.heap.size, 0, none⟩ = some (.int .i64 nd.op) := HN7.out.nb.c0
          have q1 : w7.cell? ⟨wr.heap.size, 1, none⟩ = some (.int .i64 nd.nn) := HN7.out.nb.c1
          have q2 : w7.cell? ⟨wr.heap.size, 2, none⟩ = some (.string nd.tx) := HN7.out.nb.c2
          have q3 : w7.cell? ⟨wr.heap.size, 3, none⟩ = some (.int .u64 nd.s0) := HN7.out.nb.c3
          have q4 : w7.cell? ⟨wr.heap.size, 4, none⟩ = some (.int .u64 nd.s1) := HN7.out.nb.c4
          have q5 : w7.cell? ⟨wr.heap.size, 5, none⟩ = some (.int .u64 nd.s2) := HN7.out.nb.c5
          have q6 : w7.cell? ⟨wr.heap.size, 6, none⟩ = some (.int .u64 nd.s3) := HN7.out.nb.c6
          have HRp := (show Hid (∀ _ : Unit, Calls Tryz.prog 53 #[ndG nd] w7 fun e w' => e = .returned (.bool (rpB nd)) ∧ Below w7.heap.size w7 w') from fun _ => repeats_any nd w7)
          clear hnd hw7 hb7 HX HN7
          go_wp2_with (rw [HE7.out])
          refine (HRp.out ()).mono ?_
          rintro e w8 ⟨rfl, b8⟩
          have HX8 := (show Hid (LpS w w8 (.slice (some ⟨b, o, none⟩) gs.length c) (.map (some mb)) (.slice Ak gs.length ck) (w.heap.size + 1) n2 (lpG gs (nbE now) k ++ lpK k L (nuR gs now L) j) u3 gN cN L.length (nuR gs now L)) from HX7.out.later b8)
          clear HRp HE7 HX7 b8 c0 c1 c2 c3' c4 c5 c6 q0 q1 q2 q3 q4 q5 q6
          cases hrp : rpB nd with
          | false =>
            have HN := (show Hid (LpS w w8 (.slice (some ⟨b, o, none⟩) gs.length c) (.map (some mb)) (.slice Ak gs.length ck) (w.heap.size + 1) n2 (lpG gs (nbE now) k ++ lpK k L (nuR gs now L) (j + 1)) u3 gN cN L.length (nuR gs now L)) from by rw [HSj.out, hrp, Bool.false_and, if_neg Bool.noConfusion]; exact HX8.out)
            clear HX8 HSj HPj hrp
            go_wp2_with fail
            go_roundw
            case rel => exact ⟨j + 1, n2, by omega, by omega, by go_num, HN⟩
            case measure => simp [intOf]; omega
          | true =>
            obtain ⟨j0, hj0⟩ : ∃ j0, j = j0 + 1 := ⟨j - 1, by have := HPj.out hrp; omega⟩
            have hsub : (j : Int) - 1 = (j0 : Int) := by omega
            have z4 : (0 : Int) ≤ (j0 : Int) := by omega
            have z5 : (j0 : Int) < (L.length : Int) := by omega
            have m0 := HX8.out.at' (j := j0) (by omega)
            cases hnu : nuR gs now L j0 with
            | false =>
              rw [hnu] at m0
              have HN := (show Hid (LpS w w8 (.slice (some ⟨b, o, none⟩) gs.length c) (.map (some mb)) (.slice Ak gs.length ck) (w.heap.size + 1) n2 (lpG gs (nbE now) k ++ lpK k L (nuR gs now L) (j + 1)) u3 gN cN L.length (nuR gs now L)) from by rw [HSj.out, hrp, Bool.true_and, show j - 1 = j0 from by omega, hnu, if_neg Bool.noConfusion]; exact HX8.out)
              have hj1 : j + 1 ≤ L.length := by omega
              have HJ := (show Hid (j = j0 + 1) from hj0)
              clear HX8 HSj HPj hrp hnu hj0
              go_wp2_with fail
              go_roundw
              case rel => exact ⟨j + 1, n2, by omega, by omega, by go_num, HN⟩
              case measure => simp [intOf]; omega
            | true =>
              rw [hnu] at m0
              obtain ⟨A2, c2, hA2⟩ := own_fs HX8.out.s.o
              have HO8 := (show Hid (w8.ownsRow (w.heap.size + 1) 28 2 u3 n2 (spc (lpG gs (nbE now) k ++ lpK k L (nuR gs now L) j))) from HX8.out.s.o)
              have HN8 := (show Hid (w.heap.size + 1 ≤ w8.heap.size) from HX8.out.s.n.2)
              have HPu := (show Hid (∀ (g9 cap9 : Nat) (w9 : World), w9.ownsRow (w.heap.size + 1) 28 2 (.slice (some ⟨g9, 0, none⟩) (n2 + 1) cap9) (n2 + 1) (spc ((lpG gs (nbE now) k ++ lpK k L (nuR gs now L) j) ++ [(k, j)])) → w8.grownBy w9 u3.ownBlock → Hid (LpS w w9 (.slice (some ⟨b, o, none⟩) gs.length c) (.map (some mb)) (.slice Ak gs.length ck) (w.heap.size + 1) (n2 + 1) (lpG gs (nbE now) k ++ lpK k L (nuR gs now L) (j + 1)) (.slice (some ⟨g9, 0, none⟩) (n2 + 1) cap9) gN cN L.length (nuR gs now L)) ∧ n2 + 1 ≤ 409600) from fun g9 cap9 w9 h1 h2 => by
                have e : lpG gs (nbE now) k ++ lpK k L (nuR gs now L) (j + 1) = (lpG gs (nbE now) k ++ lpK k L (nuR gs now L) j) ++ [(k, j)] := by rw [HSj.out, hrp, Bool.true_and, show j - 1 = j0 from by omega, hnu, if_pos rfl]
                have hl := HX8.out.s.l
                have hb := HLk.out (j + 1) (by omega)
                rw [e, List.length_append, ← hl] at hb
                refine ⟨?_, hb⟩
                show LpS _ _ _ _ _ _ _ _ _ _ _ _ _
                rw [e]
                exact HX8.out.push h1 h2)
              have hj1 : j + 1 ≤ L.length := by omega
              have HJ := (show Hid (j = j0 + 1) from hj0)
              subst hA2
              clear HX8 HSj HPj hrp hnu hj0
              go_wp2_with (at_builtin; refine wpList_appS rfl _ _ rfl (w.heap.size + 1) n2 _ _ rfl rfl HO8.out (by omega) HN8.out ?_; intro g9 cap9 w9 ho9 hg9; obtain ⟨HV9, hn9⟩ := HPu.out g9 cap9 w9 ho9 hg9; clear ho9 hg9 HPu HO8 HN8 m0)
              go_roundw
              case rel => exact ⟨j + 1, n2 + 1, by omega, hn9, by go_num, HV9⟩
              case measure => simp [intOf]; omega
        · obtain rfl : j = L.length := by omega
          have HN := (show Hid (LoS w wr (.slice (some ⟨b, o, none⟩) gs.length c) (.map (some mb)) (.slice Ak gs.length ck) (w.heap.size + 1) n2 (lpG gs (nbE now) (k + 1)) u3) from by rw [← HFin.out]; exact HX.out.s)
          clear HX HSuc HFin HRt HLk HCl
          go_wp2_with fail
          go_roundw
          case rel => exact ⟨k + 1, n2, by omega, by omega, by go_num, HN⟩
          case measure => simp [intOf]; omega
    · obtain rfl : k = gs.length := by omega
      have HO := (show Hid (wr.ownsRow w.heap.size 28 2 u3 (lpG gs (nbE now) gs.length).length (spc (lpG gs (nbE now) gs.length)) ∧ Below w.heap.size w wr) from ⟨by have h := own_base HW.out.o (Nat.le_succ w.heap.size); rw [HW.out.l] at h; exact h, HW.out.b⟩)
      clear HW HV HLe
      go_wp2_with fail
      go_ret
      exact ⟨⟨_, rfl, HO.out.1⟩, HO.out.2⟩
end Go.Proofs.YtbipjdgholdhcaaGreat.N

namespace Go.Proofs.YtbipjdgholdhcaaGreat.N
open Go.RowKit Go.Maps
open Go.Proofs.YtbipjdgholdhcaaGreat.T
set_option maxRecDepth 100000 in
set_option maxHeartbeats 4000000 in
theorem checkP_any (gs : GL) (A : Option Addr) (c : Nat) (w : World) (hp : GI w A gs) :
    Calls Tryz.prog 39 #[.agg #[.slice A gs.length c]] w fun e w' => e = .returned (.tuple #[.agg #[.int .i64 (ckG gs).1.1, .int .i64 (ckG gs).1.2], .int .i64 (ckG gs).2]) ∧ Below w.heap.size w w' := by
  obtain ⟨w1, hw1⟩ : ∃ w1, w1 = (w.alloc (.cells #[.slice A gs.length c] 24)).alloc (.cells #[.int .i64 0, .int .i64 0] 28) := ⟨_, rfl⟩
  have HS : Hid (Below w.heap.size w w1 ∧ GX w1 w.heap.size (.slice A gs.length c) ∧ SX w1 (w.heap.size + 1) 0 0) := by
    show _ ∧ _ ∧ _
    rw [hw1]
    exact ⟨((Below.refl _ _).alloc (Nat.le_refl _) _).alloc (by rw [World.size_alloc]; omega) _, (GX.mk (heap_alloc_new w _)).below (below_box _ _), ⟨by have h := heap_alloc_new (w.alloc (.cells #[.slice A gs.length c] 24)) (.cells #[.int .i64 0, .int .i64 0] 28); rw [World.size_alloc] at h; exact h⟩⟩
  have HN := (show Hid (∀ _ : Unit, Calls Tryz.prog 56 #[.agg #[.slice A gs.length c]] w1 fun e w' => NuV w1 w' gs e ∧ Below w1.heap.size w1 w') from fun _ => numb_any gs A c hp.l hp.t w1 (hp.d.later (by rw [hw1]; exact ((Below.refl _ _).alloc (Nat.le_refl _) _).alloc (by rw [World.size_alloc]; omega) _)))
  have q1 := HS.out.2.1.cl
  clear hp
  go_enter Tryz.func39, Tryz.ntmps39
  go_wp2_with fail
  rw [← hw1]
  refine (HN.out ()).mono ?_
  rintro e w3 ⟨hv, b3⟩
  obtain ⟨mv, rfl, _⟩ := hv.form
  have HB := (show Hid (Below w.heap.size w w3) from HS.out.1.trans (b3.mono HS.out.1.size))
  have HX := (show Hid (SX w3 (w.heap.size + 1) 0 0) from HS.out.2.2.below b3)
  clear HN HS b3 q1 hw1 hv
  obtain ⟨ca, cb, cd, hcc⟩ : ∃ (ca cb : Nat) (cd : Int), ckG gs = ((ca, cb), cd) := ⟨_, _, _, rfl⟩
  have HCC := (show Hid (ckG gs = ((ca, cb), cd)) from hcc)
  rw [hcc]
  clear hcc
  have c0 := HX.out.c0
  have c1 := HX.out.c1
  have f0 := HX.out.fz 0
  have f1 := HX.out.fz 1
  have HX2 := (show Hid (SX ((w3.setCell ⟨w.heap.size + 1, 0, none⟩ (.int .i64 (ca : Int))).setCell ⟨w.heap.size + 1, 1, none⟩ (.int .i64 (cb : Int))) (w.heap.size + 1) ca cb) from HX.out.set _ _)
  have HX3 := (show Hid (SX ((((w3.setCell ⟨w.heap.size + 1, 0, none⟩ (.int .i64 (ca : Int))).setCell ⟨w.heap.size + 1, 1, none⟩ (.int .i64 (cb : Int))).setCell ⟨w.heap.size + 1, 0, none⟩ (.int .i64 (ca : Int))).setCell ⟨w.heap.size + 1, 1, none⟩ (.int .i64 (cb : Int))) (w.heap.size + 1) ca cb) from HX2.out.set _ _)
  have HB3 := (show Hid (Below w.heap.size w ((((w3.setCell ⟨w.heap.size + 1, 0, none⟩ (.int .i64 (ca : Int))).setCell ⟨w.heap.size + 1, 1, none⟩ (.int .i64 (cb : Int))).setCell ⟨w.heap.size + 1, 0, none⟩ (.int .i64 (ca : Int))).setCell ⟨w.heap.size + 1, 1, none⟩ (.int .i64 (cb : Int)))) from set_below (set_below (set_below (set_below HB.out (Nat.le_succ _)) (Nat.le_succ _)) (Nat.le_succ _)) (Nat.le_succ _))
  have HBz := (show Hid (Below w.heap.size w ((w3.setCell ⟨w.heap.size + 1, 0, none⟩ (.int .i64 (ca : Int))).setCell ⟨w.heap.size + 1, 1, none⟩ (.int .i64 (cb : Int)))) from set_below (set_below HB.out (Nat.le_succ _)) (Nat.le_succ _))
  clear HX HB
  go_wp2_with fail
  have d0 := HX3.out.c0
  have d1 := HX3.out.c1
  clear c0 c1 f0 f1 HX2 HBz
  generalize (((w3.setCell ⟨w.heap.size + 1, 0, none⟩ (.int .i64 (ca : Int))).setCell ⟨w.heap.size + 1, 1, none⟩ (.int .i64 (cb : Int))).setCell ⟨w.heap.size + 1, 0, none⟩ (.int .i64 (ca : Int))).setCell ⟨w.heap.size + 1, 1, none⟩ (.int .i64 (cb : Int)) = wZ at *
  refine bodyPost_ret (v := .tuple #[.agg #[.int .i64 (ca : Int), .int .i64 (cb : Int)], .int .i64 cd]) (by simp [results, Tryz.results39, go_sem, d0, d1]) rfl ⟨by rw [HCC.out], HB3.out⟩
end Go.Proofs.YtbipjdgholdhcaaGreat.N
