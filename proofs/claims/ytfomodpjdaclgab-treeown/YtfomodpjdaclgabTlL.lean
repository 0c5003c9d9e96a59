/- DERIVED. The walk of TreeTiles. -/
import Derived.Test.YtfomodpjdaclgabTiP
namespace Go.Proofs.Ytfomodpjdaclgab
open Go.RowKit

theorem fdE_of {L : List Nd} (hr : Rt L) {j : Nat} (hj : j < L.length) : fdE L (j : Int) = 0 := by
  unfold fdE
  rw [if_neg (by rw [hr.ck]; simp), if_neg (by omega)]
theorem bgE_of {L : List Nd} (hr : Rt L) {j : Nat} (hj : j < L.length) : bgE L (j : Int) = ((pt L j).1 : Int) := by
  unfold bgE
  rw [if_pos (fdE_of hr hj)]; rfl
theorem prE_of {L : List Nd} (hr : Rt L) {j : Nat} (hj : j < L.length) : prE L (j : Int) = cutL L (pt L j).1 (j + 1) := by
  unfold prE
  rw [if_pos (fdE_of hr hj)]; rfl
theorem htE_of {L : List Nd} (hr : Rt L) : htE L = ((pt L (L.length - 1)).2.2 : Int) := by
  unfold htE
  rw [if_pos (by rw [hr.ck])]
theorem psE_of {L : List Nd} (hr : Rt L) {j : Nat} (hj : j < L.length) : psE L (j : Int) = (kid L j).map fun p => (p.2.1 : Int) := by
  unfold psE kid
  rw [if_pos (fdE_of hr hj)]; rfl
theorem cutL_tx {L : List Nd} {a b B : Nat} (h : ∀ n ∈ L, n.tx.size ≤ B) : ∀ n ∈ cutL L a b, n.tx.size ≤ B := fun n hn => h n (List.mem_of_mem_drop (List.mem_of_mem_take hn))

set_option maxRecDepth 100000 in
set_option maxHeartbeats 8000000 in
theorem tiles_bad (A : Option Addr) (c : Nat) (L : List Nd) (at' : Int) (hl2 : L.length ≤ 140737488355328) (hT2 : ∀ n ∈ L, n.tx.size ≤ 140737488355328) (w : World) (h : RdN w A L) (hf : fdE L at' ≠ 0) :
    Calls Try.prog 3 #[.slice A L.length c, .int .i64 at'] w fun e w' => e = .returned (.bool true) ∧ Below w.heap.size w w' := by
  have H6 : Hid (∀ _ : Unit, Calls Try.prog 6 #[.slice A L.length c, .int .i64 at'] w fun e w' => e = .returned (.tuple #[.slice none 0 0, .int .i64 (fdE L at')]) ∧ Below w.heap.size w w') := fun _ => (parts_any L A c at' hl2 hT2 w h).mono fun e w' ⟨⟨v, e1, e2⟩, e3⟩ => ⟨by
    rcases e2 with ⟨_, rfl⟩ | ⟨h0, _⟩
    · exact e1
    · exact absurd h0 hf, e3⟩
  have H7 : Hid (∀ W, Below w.heap.size w W → Calls Try.prog 7 #[.slice A L.length c, .int .i64 at'] W fun e w' => e = .returned (.tuple #[.int .i64 (bgE L at'), .int .i64 (fdE L at')]) ∧ Below W.heap.size W w') := fun W hW => begin_any L A c at' hl2 hT2 W (h.below hW (Nat.le_refl _))
  have H8 : Hid (∀ w, Calls Try.prog 8 #[] w fun e w' => e = .returned (.bool true) ∧ Below w.heap.size w w') := fun w => lives_any w
  have t1 : (fdE L at' != 0) = true := by rw [bne, beq_eq_false_iff_ne.2 hf]; rfl
  clear h hT2 hl2 hf
  generalize bgE L at' = bge at *
  generalize fdE L at' = fde at *
  go_enter Try.func3, Try.ntmps3
  go_wp2_with fail
  refine (H6.out ()).mono ?_
  rintro e w2 ⟨rfl, b2⟩
  have HB2 := (show Hid (Below w.heap.size w w2) from b2)
  clear H6 b2
  go_wp2_with fail
  refine (H7.out _ HB2.out).mono ?_
  rintro e w3 ⟨rfl, b3⟩
  have HB3 := (show Hid (Below w.heap.size w w3) from HB2.out.trans (b3.mono HB2.out.size))
  clear H7 b3 HB2
  go_wp2_with fail
  refine (H8.out _).mono ?_
  rintro e w4 ⟨rfl, b4⟩
  have HB4 := (show Hid (Below w.heap.size w w4) from HB3.out.trans (b4.mono HB3.out.size))
  clear H8 b4 HB3
  go_wp2_with fail
  go_ret
  exact ⟨rfl, HB4.out⟩
/-- The list of a node's parts, as it lies. -/
structure AtL (w wr : World) (v : Value) (m : Nat) (l : List Int) : Prop where
  b : Below w.heap.size w wr
  o : wr.ownsRow w.heap.size 3 1 v m (l.map fun x => .int .i64 x)
theorem AtL.below {w wr w' : World} {v : Value} {m : Nat} {l : List Int} (h : AtL w wr v m l) (hb : Below wr.heap.size wr w') : AtL w w' v m l := ⟨h.b.trans (hb.mono h.b.size), own_below h.o hb⟩
theorem AtL.cell {w wr : World} {v : Value} {m : Nat} {l : List Int} (h : AtL w wr v m l) {i : Nat} {x : Int} (hx : l[i]? = some x) {g cap k : Nat} (hv : v = .slice (some ⟨g, 0, none⟩) k cap) : wr.cell? ⟨g, i, none⟩ = some (.int .i64 x) := by
  have := h.o.cells (g := g) (by rw [hv]; rfl) i (.int .i64 x) (by rw [List.getElem?_map, hx]; rfl)
  rw [Addr.add_lit, Nat.zero_add] at this
  exact this
theorem own_form {W : World} {B e s n : Nat} {v : Value} {xs : List Value} (h : W.ownsRow B e s v n xs) : ∃ A c, v = .slice A n c ∧ (0 < n → ∃ g, A = some ⟨g, 0, none⟩) := by
  rcases h.2 with ⟨rfl, h0⟩ | ⟨g, cap, cur, rfl, _⟩
  · exact ⟨none, 0, by rw [h0], fun q => by omega⟩
  · exact ⟨_, cap, rfl, fun _ => ⟨g, rfl⟩⟩

set_option maxRecDepth 100000 in
set_option maxHeartbeats 8000000 in
theorem tiles_good (A : Option Addr) (c : Nat) (L : List Nd) (j : Nat) (hcap : L.length ≤ c) (hT2 : ∀ n ∈ L, n.tx.size ≤ 140737488355328) (w : World) (h : RdN w A L) (hr : Rt L) (hj : j < L.length) :
    Calls Try.prog 3 #[.slice A L.length c, .int .i64 j] w fun e w' => e = .returned (.bool true) ∧ Below w.heap.size w w' := by
  have hlen := hr.len
  have hl2 : L.length ≤ 140737488355328 := by omega
  obtain ⟨n, hn⟩ : ∃ n, L[j]? = some n := ⟨_, List.getElem?_eq_getElem hj⟩
  have hal := (er_ok hn (hr.each j hj)).al
  obtain ⟨hk, nx, hx0, hx1, hxs⟩ := tiles_of hr hj
  have hkar : ((kid L j).length : Int) = ar n.op := by rw [hk, op_of hn]; exact arN_of hal
  have hfd := fdE_of hr hj
  have H6 : Hid (∀ _ : Unit, Calls Try.prog 6 #[.slice A L.length c, .int .i64 j] w fun e w' => (∃ v, e = .returned (.tuple #[v, .int .i64 0]) ∧ AtL w w' v (kid L j).length ((kid L j).map fun p => (p.2.1 : Int)))) := fun _ => (parts_any L A c j hl2 hT2 w h).mono fun e w' ⟨h1, h2⟩ => by
    obtain ⟨v, e1, e2⟩ := h1.row
    rw [psE_of hr hj, List.length_map] at e2
    rw [hfd] at e1
    exact ⟨v, e1, ⟨h2, e2⟩⟩
  have H7 : Hid (∀ W, Below w.heap.size w W → Calls Try.prog 7 #[.slice A L.length c, .int .i64 j] W fun e w' => e = .returned (.tuple #[.int .i64 (nx 0), .int .i64 0]) ∧ Below W.heap.size W w') := fun W hW => (begin_any L A c j hl2 hT2 W (h.below hW (Nat.le_refl _))).mono fun e w' ⟨h1, h2⟩ => ⟨by rw [h1, bgE_of hr hj, hfd, hx0], h2⟩
  have H9 : Hid (∀ W, Below w.heap.size w W → Calls Try.prog 9 #[.slice A L.length c] W fun e w' => e = .returned (.tuple #[.int .i64 (pt L (L.length - 1)).2.2, .int .i64 0]) ∧ Below W.heap.size W w') := fun W hW => (height_any L A c hl2 hT2 W (h.below hW (Nat.le_refl _))).mono fun e w' ⟨h1, h2⟩ => ⟨by rw [h1, htE_of hr, hr.ck], h2⟩
  have H10 : Hid (∀ w, Calls Try.prog 10 #[.int .i64 n.op] w fun e w' => e = .returned (.int .i64 (ar n.op)) ∧ w' = w) := fun w => arity_any n.op w
  have H8 : Hid (∀ w, Calls Try.prog 8 #[] w fun e w' => e = .returned (.bool true) ∧ Below w.heap.size w w') := fun w => lives_any w
  have HR : Hid (∀ (i : Nat) x, (kid L j)[i]? = some x → ∃ q : List Nd, q.length + nx i = x.2.1 + 1 ∧ nx i ≤ x.2.1 ∧ x.2.1 < j ∧ nx (i + 1) = x.2.1 + 1 ∧ x.2.2 ≤ (pt L (L.length - 1)).2.2
      ∧ (∀ W, Below w.heap.size w W → Calls Try.prog 7 #[.slice A L.length c, .int .i64 x.2.1] W fun e w' => e = .returned (.tuple #[.int .i64 (nx i), .int .i64 0]) ∧ Below W.heap.size W w')
      ∧ (∀ W, Below w.heap.size w W → Calls Try.prog 11 #[.slice A L.length c, .int .i64 x.2.1] W fun e w' => (∃ Au cu, e = .returned (.tuple #[.slice Au q.length cu, .int .i64 0]) ∧ RdN w' Au q) ∧ Below W.heap.size W w')
      ∧ (∀ W Au cu, RdN W Au q → Calls Try.prog 9 #[.slice Au q.length cu] W fun e w' => e = .returned (.tuple #[.int .i64 x.2.2, .int .i64 0]) ∧ Below W.heap.size W w')
      ∧ (∀ W Au cu, RdN W Au q → Calls Try.prog 12 #[.slice Au q.length cu] W fun e w' => e = .returned (.tuple #[.int .i64 0, .int .i64 0]) ∧ Below W.heap.size W w')) := fun i x hx => by
    obtain ⟨x1, x2, x3, x4, x5⟩ := hxs i x hx
    have hxl : x.2.1 < L.length := by omega
    have e1 : (pt L x.2.1).1 = x.1 := by rw [← x5]
    have e2 : (pt L x.2.1).2.2 = x.2.2 := by rw [← x5]
    obtain ⟨c1, c2⟩ := cut_right hr hxl
    have cl := cutL_len (L := L) (b := (pt L x.2.1).1) (e := x.2.1 + 1) (by omega) (by omega)
    have ctx := cutL_tx (a := (pt L x.2.1).1) (b := x.2.1 + 1) hT2
    refine ⟨cutL L (pt L x.2.1).1 (x.2.1 + 1), by omega, by omega, x4, x2, by rw [← e2]; exact high_le hr hxl, fun W hW => ?_, fun W hW => ?_, fun W Au cu hq => ?_, fun W Au cu hq => ?_⟩
    · exact (begin_any L A c x.2.1 hl2 hT2 W (h.below hW (Nat.le_refl _))).mono fun e w' ⟨h1, h2⟩ => ⟨by rw [h1, bgE_of hr hxl, fdE_of hr hxl, e1, x1], h2⟩
    · refine (part_any L A c x.2.1 hcap hl2 hT2 W (h.below hW (Nat.le_refl _))).mono fun e w' ⟨h1, h2⟩ => ⟨?_, h2⟩
      obtain ⟨v, g1, g2⟩ := h1.row
      rw [prE_of hr hxl] at g2
      obtain ⟨Au, cu, rfl, hrd⟩ := own_rd g2 rfl
      rw [fdE_of hr hxl] at g1
      exact ⟨Au, cu, g1, hrd⟩
    · exact (height_any _ Au cu (by omega) ctx W hq).mono fun e w' ⟨h1, h2⟩ => ⟨by rw [h1, htE_of c1, c1.ck, c2, e2], h2⟩
    · exact (check_any _ Au cu (by omega) ctx W hq).mono fun e w' ⟨h1, h2⟩ => ⟨by rw [h1, c1.ck]; rfl, h2⟩
  obtain ⟨gp, op, rfl, lp, cl⟩ := h (by rintro rfl; simp at hj)
  have HCl := (show Hid (∀ W, Below w.heap.size w W → W.cell? ⟨gp, op + j * 7, none⟩ = some (.int .i64 n.op)) from fun W hW => ((cl.same (hW.block gp lp)) j n hn).c0)
  have HG := (show Hid (∀ i, i < (kid L j).length → ∃ x, (kid L j)[i]? = some x ∧ ((kid L j).map fun p => (p.2.1 : Int))[i]? = some (x.2.1 : Int)) from fun i hi => ⟨_, List.getElem?_eq_getElem hi, by rw [List.getElem?_map, List.getElem?_eq_getElem hi]; rfl⟩)
  have HN := (show Hid (nx (kid L j).length = j) from hx1)
  have t1 : (((kid L j).length : Int) != ar n.op) = false := by rw [hkar]; simp
  have hb0 : nx 0 ≤ j := by rw [hx0]; exact pt_le hr hj
  have hm2 : (kid L j).length ≤ 2 := by rw [hk]; exact arN_le _
  have z0 : (0 : Int) ≤ (j : Int) := by omega
  have z1 : (j : Int) < (L.length : Int) := by omega
  have z2 : (0 : Int) ≤ (nx 0 : Int) := by omega
  have z3 : decide (j < nx 0) = false := decide_eq_false (by omega)
  clear h cl hT2 hl2 hr hal hk hx0 hx1 hxs hkar hfd hn hcap
  generalize hK : kid L j = K at *
  clear hK
  generalize (pt L (L.length - 1)).2.2 = hh at *
  go_enter Try.func3, Try.ntmps3
  go_wp2_with fail
  refine (H6.out ()).mono ?_
  rintro e w2 ⟨v2, rfl, a2⟩
  have HA2 := (show Hid (AtL w w2 v2 K.length (K.map fun p => (p.2.1 : Int))) from a2)
  clear H6 a2
  go_wp2_with fail
  refine (H7.out _ HA2.out.b).mono ?_
  rintro e w3 ⟨rfl, b3⟩
  have HA3 := (show Hid (AtL w w3 v2 K.length (K.map fun p => (p.2.1 : Int))) from HA2.out.below b3)
  clear H7 b3 HA2
  go_wp2_with fail
  refine (H9.out _ HA3.out.b).mono ?_
  rintro e w4 ⟨rfl, b4⟩
  have HA4 := (show Hid (AtL w w4 v2 K.length (K.map fun p => (p.2.1 : Int))) from HA3.out.below b4)
  clear H9 b4 HA3
  obtain ⟨Av, cv, rfl, hAv⟩ := own_form HA4.out.o
  have e4 := HCl.out _ HA4.out.b
  clear HCl
  go_wp2_with fail
  refine (H10.out _).mono ?_
  rintro e w5 ⟨rfl, rfl⟩
  clear H10 e4
  have HAv := (show Hid (0 < K.length → ∃ g, Av = some ⟨g, 0, none⟩) from hAv)
  clear hAv
  go_wp2_with fail
  generalize hm : K.length = m at *
  clear hm
  go_loopw [13, 14] (fun v t wr => ∃ i : Nat, i ≤ m ∧ t = .int .i64 i ∧ v = .int .i64 (nx i) ∧ Hid (AtL w wr (.slice Av m cv) m (K.map fun p => (p.2.1 : Int)))) (fun _ t _ => m - (intOf t).toNat)
  case atStart => exact ⟨0, by omega, by go_num, rfl, HA4⟩
  case round =>
    obtain ⟨i, hi, rfl, rfl, HW⟩ := hrel
    clear HA4
    by_cases hlt : i < m
    · obtain ⟨x, hx, hx2⟩ := HG.out i hlt
      obtain ⟨g, rfl⟩ := HAv.out (by omega)
      obtain ⟨q, q0, q1, q2, q3, q4, c7, c11, c9, c12⟩ := HR.out i x hx
      obtain ⟨xf, xl, xh⟩ := x
      simp only at hx2 q0 q1 q2 q3 q4 c7 c11 c9 c12
      have HC := (show Hid (∀ W, AtL w W (.slice (some ⟨g, 0, none⟩) m cv) m (K.map fun p => (p.2.1 : Int)) → W.cell? ⟨g, i, none⟩ = some (.int .i64 xl)) from fun W hW => hW.cell hx2 rfl)
      have H7 := (show Hid _ from c7)
      have H11 := (show Hid _ from c11)
      have H9 := (show Hid _ from c9)
      have H12 := (show Hid _ from c12)
      have HQ3 := (show Hid (nx (i + 1) = xl + 1) from q3)
      have q0a : q.length + nx i ≤ xl + 1 := by omega
      have q0b : xl + 1 ≤ q.length + nx i := by omega
      clear c7 c11 c9 c12 hx hx2 HG HR HAv HN q3 q0
      have y0 : (0 : Int) ≤ (i : Int) := by omega
      have y1 : (i : Int) < (m : Int) := by omega
      have e1 := HC.out _ HW.out
      go_wp2_with fail
      refine (H7.out _ HW.out.b).mono ?_
      rintro e w6 ⟨rfl, b6⟩
      have HW6 := (show Hid (AtL w w6 (.slice (some ⟨g, 0, none⟩) m cv) m (K.map fun p => (p.2.1 : Int))) from HW.out.below b6)
      clear H7 b6 HW e1
      have e1 := HC.out _ HW6.out
      go_wp2_with fail
      refine (H11.out _ HW6.out.b).mono ?_
      rintro e w7 ⟨⟨Au, cu, rfl, rd7⟩, b7⟩
      have HW7 := (show Hid (AtL w w7 (.slice (some ⟨g, 0, none⟩) m cv) m (K.map fun p => (p.2.1 : Int))) from HW6.out.below b7)
      have HRd := (show Hid (RdN w7 Au q) from rd7)
      clear H11 b7 HW6 e1 rd7
      have e1 := HC.out _ HW7.out
      have u1 : IntKind.i64.wrap ((xl : Int) - (nx i : Int)) = (xl : Int) - (nx i : Int) := by rw [IntKind.wrap_i64]; omega
      have u2 : IntKind.i64.wrap ((xl : Int) - (nx i : Int) + 1) = (q.length : Int) := by rw [IntKind.wrap_i64]; omega
      have y2 : decide (xl < nx i) = false := decide_eq_false (by omega)
      have y3 : decide (j ≤ xl) = false := decide_eq_false (by omega)
      go_wp2_with fail
      refine (H9.out _ _ _ HRd.out).mono ?_
      rintro e w8 ⟨rfl, b8⟩
      have HW8 := (show Hid (AtL w w8 (.slice (some ⟨g, 0, none⟩) m cv) m (K.map fun p => (p.2.1 : Int))) from HW7.out.below b8)
      have HRd8 := (show Hid (RdN w8 Au q) from HRd.out.below b8 (Nat.le_refl _))
      clear H9 b8 HW7 HRd e1
      go_wp2_with fail
      refine (H12.out _ _ _ HRd8.out).mono ?_
      rintro e w9 ⟨rfl, b9⟩
      have HW9 := (show Hid (AtL w w9 (.slice (some ⟨g, 0, none⟩) m cv) m (K.map fun p => (p.2.1 : Int))) from HW8.out.below b9)
      clear H12 b9 HW8 HRd8 u1 u2
      have e1 := HC.out _ HW9.out
      have y4 : decide (hh < xh) = false := decide_eq_false (by omega)
      go_wp2_with fail
      go_roundw
      case rel => exact ⟨i + 1, by omega, by go_num, by rw [HQ3.out]; go_num, HW9⟩
      case measure => simp [intOf]; omega
    · obtain rfl : i = m := by omega
      have hnn := HN.out
      have t2 : ((nx i : Int) == (j : Int)) = true := by rw [hnn]; simp
      clear HG HR HAv HN hnn
      go_wp2_with fail
      refine (H8.out _).mono ?_
      rintro e w6 ⟨rfl, b6⟩
      have HW6 := (show Hid (Below w.heap.size w w6) from (HW.out.below b6).b)
      clear H8 b6 HW
      go_wp2_with fail
      go_ret
      exact ⟨rfl, HW6.out⟩
theorem treeTiles_law (A : Option Addr) (c : Nat) (L : List Nd) (at' : Int) (hl : L.length * 64 ≤ 140737488351232) (hT : ∀ n ∈ L, n.tx.size ≤ 140737488351232) (hcap : L.length ≤ c) (w : World) (h : InP w A c L) :
    Calls Try.prog 3 #[.slice A L.length c, .int .i64 at'] w fun e w' => e = .returned (.bool true) ∧ Below w.heap.size w w' := by
  have hT2 : ∀ n ∈ L, n.tx.size ≤ 140737488355328 := fun n hn => by have := hT n hn; omega
  by_cases h0 : fdE L at' = 0
  · obtain ⟨hr, j, rfl, hj⟩ := fdE_ok h0
    exact tiles_good A c L j hcap hT2 w h.1 hr hj
  · exact tiles_bad A c L at' (by omega) hT2 w h.1 h0
end Go.Proofs.Ytfomodpjdaclgab
