/- DERIVED. The walk of TreeOwn. -/
import Derived.Test.YtfomodpjdaclgabSoA
namespace Go.Proofs.Ytfomodpjdaclgab
open Go.RowKit

theorem one_list (W : World) (A : Option Addr) (c : Nat) (M : List Nd) (h : RdN W A M) : RdL (W.alloc (.cells #[.slice A M.length c] 23)) (some ⟨W.heap.size, 0, none⟩) [(A, c, M)] := by
  refine ⟨fun _ => ⟨W.heap.size, 0, rfl, by rw [World.size_alloc]; omega, fun i p hp => ?_⟩, fun p hp => ?_⟩
  · cases i with
    | succ i => simp at hp
    | zero =>
      cases hp
      rw [cell_of_row _ W.heap.size _ _ 23 (0, 0) (heap_alloc_new W _)]
      rfl
  · cases List.mem_singleton.1 hp
    exact h.below (below_box W _) (Nat.le_refl _)

set_option maxRecDepth 100000 in
set_option maxHeartbeats 16000000 in
theorem treeOwn_law (A A2 : Option Addr) (c c2 : Nat) (L M : List Nd) (at' : Int) (hl : L.length * 64 ≤ 140737488351232) (hT : ∀ n ∈ L, n.tx.size ≤ 140737488351232) (hcap : L.length ≤ c) (hm : M.length * 64 ≤ 140737488351232) (hU : ∀ n ∈ M, n.tx.size ≤ 140737488351232) (w : World) (h : InP w A c L) (h2 : InP w A2 c2 M) :
    Calls Try.prog 5 #[.agg #[.slice A L.length c, .int .i64 at', .slice A2 M.length c2]] w fun e w' => e = .returned (.bool true) ∧ Below w.heap.size w w' := by
  have hT2 : ∀ n ∈ L, n.tx.size ≤ 140737488355328 := fun n hn => by have := hT n hn; omega
  have hU2 : ∀ n ∈ M, n.tx.size ≤ 140737488355328 := fun n hn => by have := hU n hn; omega
  have hl2 : L.length ≤ 140737488355328 := by omega
  have hm2 : M.length ≤ 140737488355328 := by omega
  have H16 : Hid (∀ W, Below w.heap.size w W → Calls Try.prog 16 #[.slice A L.length c] W fun e w' => (∃ g cap, e = .returned (.slice (some ⟨g, 0, none⟩) L.length cap) ∧ LentR w' w.heap.size g cap L) ∧ Below W.heap.size W w') := fun W hW => (lend_any A c L W hl ⟨h.1.below hW (Nat.le_refl _), h.2⟩).mono fun e w' ⟨⟨g, cap, e1, e2⟩, e3⟩ => ⟨⟨g, cap, e1, own_base e2 hW.size⟩, e3⟩
  have H16b : Hid (∀ W, Below w.heap.size w W → Calls Try.prog 16 #[.slice A2 M.length c2] W fun e w' => (∃ g cap, e = .returned (.slice (some ⟨g, 0, none⟩) M.length cap) ∧ LentR w' w.heap.size g cap M) ∧ Below W.heap.size W w') := fun W hW => (lend_any A2 c2 M W hm ⟨h2.1.below hW (Nat.le_refl _), h2.2⟩).mono fun e w' ⟨⟨g, cap, e1, e2⟩, e3⟩ => ⟨⟨g, cap, e1, own_base e2 hW.size⟩, e3⟩
  have H17 : Hid (∀ W, Below w.heap.size w W → Calls Try.prog 17 #[.slice A L.length c, .int .i64 at'] W fun e w' => (∃ v, e = .returned (.tuple #[v, .int .i64 (fdE L at')]) ∧ w'.ownsRow w.heap.size 37 7 v (prE L at').length (ndc (prE L at'))) ∧ Below W.heap.size W w') := fun W hW => (partR_any L A c at' hcap hl2 hT2 W (h.1.below hW (Nat.le_refl _))).mono fun e w' ⟨h1, h3⟩ => ⟨by obtain ⟨v, e1, e2⟩ := h1.row; exact ⟨v, e1, own_base e2 hW.size⟩, h3⟩
  have H18 : Hid (∀ W, Below w.heap.size w W → Calls Try.prog 18 #[.slice A L.length c, .int .i64 at', .slice A2 M.length c2] W fun e w' => (∃ v, e = .returned (.tuple #[v, .int .i64 (puE L at' M)]) ∧ w'.ownsRow w.heap.size 37 7 v (puL L at' M).length (ndc (puL L at' M))) ∧ Below W.heap.size W w') := fun W hW => (putR_any L M A A2 c c2 at' hcap hl2 hm2 hT2 hU2 W (h.1.below hW (Nat.le_refl _)) (h2.1.below hW (Nat.le_refl _))).mono fun e w' ⟨⟨v, e1, e2⟩, e3⟩ => ⟨⟨v, e1, own_base e2 hW.size⟩, e3⟩
  have H11 : Hid (∀ W g cap, LentR W w.heap.size g cap L → Calls Try.prog 11 #[.slice (some ⟨g, 0, none⟩) L.length cap, .int .i64 at'] W fun e w' => (∃ v, e = .returned (.tuple #[v, .int .i64 (fdE L at')]) ∧ w'.ownsRow W.heap.size 37 7 v (prE L at').length (ndc (prE L at'))) ∧ Below W.heap.size W w') := fun W g cap hr => (part_any L _ cap at' (by have := own_cap hr; omega) hl2 hT2 W hr.rd).mono fun e w' ⟨h1, h3⟩ => ⟨h1.row, h3⟩
  have H14 : Hid (∀ W g cap g2 cap2, LentR W w.heap.size g cap L → LentR W w.heap.size g2 cap2 M → Calls Try.prog 14 #[.slice (some ⟨g, 0, none⟩) L.length cap, .int .i64 at', .slice (some ⟨g2, 0, none⟩) M.length cap2] W fun e w' => (∃ v, e = .returned (.tuple #[v, .int .i64 (puE L at' M)]) ∧ w'.ownsRow W.heap.size 37 7 v (puL L at' M).length (ndc (puL L at' M))) ∧ Below W.heap.size W w') := fun W g cap g2 cap2 hr hr2 => put_any L M _ _ cap cap2 at' (by have := own_cap hr; omega) hl2 hm2 hT2 hU2 W hr.rd hr2.rd
  have H19 : Hid (∀ W B v (X : List Nd) x, W.ownsRow B 37 7 v X.length (ndc X) → B ≤ W.heap.size → X.length ≤ 8192 → Calls Try.prog 19 #[v, .int .i64 x] W fun e w' => (∃ u, e = .returned u) ∧ W.grownBy w' v.ownBlock) := fun W B v X x h1 h3 h4 => spoil_any v x X.length B (ndc X) W h1 h3 h4
  have H8 : Hid (∀ w, Calls Try.prog 8 #[] w fun e w' => e = .returned (.bool true) ∧ Below w.heap.size w w') := fun w => lives_any w
  have H21 : Hid (∀ W B1 B2 (X : List Nd) v1 v2, X.length ≤ 8192 → W.ownsRow B1 37 7 v1 X.length (ndc X) → W.ownsRow B2 37 7 v2 X.length (ndc X) → Calls Try.prog 21 #[v1, v2] W fun e w' => e = .returned (.bool true) ∧ Below W.heap.size W w') := fun W B1 B2 X v1 v2 hX h1 h3 => same_rows v1 v2 B1 B2 X (by omega) W h1 h3
  have H20 : Hid (∀ W g cap, Below w.heap.size w W → LentR W w.heap.size g cap L → Calls Try.prog 20 #[.slice (some ⟨g, 0, none⟩) L.length cap, .slice A L.length c] W fun e w' => e = .returned (.bool true) ∧ Below W.heap.size W w') := fun W g cap hW hr => kept_any A c g cap _ L hl W (h.1.below hW (Nat.le_refl _)) hr
  have H20b : Hid (∀ W g cap, Below w.heap.size w W → LentR W w.heap.size g cap M → Calls Try.prog 20 #[.slice (some ⟨g, 0, none⟩) M.length cap, .slice A2 M.length c2] W fun e w' => e = .returned (.bool true) ∧ Below W.heap.size W w') := fun W g cap hW hr => kept_any A2 c2 g cap _ M hm W (h2.1.below hW (Nat.le_refl _)) hr
  have hz9 : (zN 9).tx.size ≤ 140737488355328 := by show (0 : Nat) ≤ _; omega
  have H13 : Hid (∀ W g2 cap2, LentR W w.heap.size g2 cap2 M → Calls Try.prog 13 #[ndG (zN 9), .slice (some ⟨W.heap.size, 0, none⟩) 1 1] (W.alloc (.cells #[.slice (some ⟨g2, 0, none⟩) M.length cap2] 23)) fun e w' => (∃ v, e = .returned (.tuple #[v, .int .i64 (jnE (zN 9) [M])]) ∧ w'.ownsRow W.heap.size 37 7 v (jnL (zN 9) [M]).length (ndc (jnL (zN 9) [M]))) ∧ Below W.heap.size W w') := fun W g2 cap2 hr => by
    have hj := join_any (zN 9) [(some ⟨g2, 0, none⟩, cap2, M)] (some ⟨W.heap.size, 0, none⟩) 1 hz9 (by simp) (fun p hp => by cases List.mem_singleton.1 hp; exact hm2) (fun p hp => by cases List.mem_singleton.1 hp; exact hU2) _ (one_list W _ cap2 M hr.rd)
    have hb := below_box W (.cells #[.slice (some ⟨g2, 0, none⟩) M.length cap2] 23)
    exact hj.mono fun e w' ⟨⟨v, e1, e2⟩, e3⟩ => ⟨⟨v, e1, own_base e2 hb.size⟩, hb.trans (e3.mono hb.size)⟩
  have H22 : Hid (∀ W, Below w.heap.size w W → Calls Try.prog 22 #[ndG (zN 9), .slice (some ⟨W.heap.size, 0, none⟩) 1 1] (W.alloc (.cells #[.slice A2 M.length c2] 23)) fun e w' => (∃ v, e = .returned (.tuple #[v, .int .i64 (jnE (zN 9) [M])]) ∧ w'.ownsRow W.heap.size 37 7 v (jnL (zN 9) [M]).length (ndc (jnL (zN 9) [M]))) ∧ Below W.heap.size W w') := fun W hW => by
    have hj := joinR_any (zN 9) [(A2, c2, M)] (some ⟨W.heap.size, 0, none⟩) 1 hz9 (by simp) (fun p hp => by cases List.mem_singleton.1 hp; exact hm2) (fun p hp => by cases List.mem_singleton.1 hp; exact hU2) _ (one_list W _ c2 M (h2.1.below hW (Nat.le_refl _)))
    have hb := below_box W (.cells #[.slice A2 M.length c2] 23)
    exact hj.mono fun e w' ⟨⟨v, e1, e2⟩, e3⟩ => ⟨⟨v, e1, own_base e2 hb.size⟩, hb.trans (e3.mono hb.size)⟩
  have hx5 : (prE L at').length ≤ 8192 := Nat.le_trans prE_len (by omega)
  have hx7 : (puL L at' M).length ≤ 8192 := puL_len
  have hx9 : (jnL (zN 9) [M]).length ≤ 8192 := jnL_len
  clear h h2 hT hT2 hU hU2 hl hl2 hm hm2 hcap hz9
  generalize fdE L at' = fde at *
  generalize prE L at' = X5 at *
  generalize puE L at' M = pue at *
  generalize puL L at' M = X7 at *
  generalize jnE (zN 9) [M] = jne at *
  generalize jnL (zN 9) [M] = X9 at *
  unfold zN at H13 H22
  obtain ⟨W1, hW1⟩ : ∃ W1, W1 = w.alloc (.cells #[.slice A L.length c, .int .i64 at', .slice A2 M.length c2] 42) := ⟨_, rfl⟩
  have HC1 := (show Hid (CB W1 w.heap.size (.slice A L.length c) (.int .i64 at') (.slice A2 M.length c2) ∧ Below w.heap.size w W1) from ⟨⟨by rw [hW1]; exact heap_alloc_new w _⟩, by rw [hW1]; exact below_box _ _⟩)
  have k0 := HC1.out.1.c0
  subst hW1
  go_enter Try.func5, Try.ntmps5
  go_wp2_with fail
  refine (H16.out _ HC1.out.2).mono ?_
  rintro e w2 ⟨⟨g, cap, rfl, r2⟩, b2⟩
  have HS2 := (show Hid (LentR w2 w.heap.size g cap L ∧ Below w.heap.size w w2 ∧ CB w2 w.heap.size (.slice A L.length c) (.int .i64 at') (.slice A2 M.length c2)) from ⟨r2, HC1.out.2.trans (b2.mono HC1.out.2.size), HC1.out.1.below b2⟩)
  clear H16 r2 b2 HC1 k0
  have k2 := HS2.out.2.2.c2
  go_wp2_with fail
  refine (H16b.out _ HS2.out.2.1).mono ?_
  rintro e w3 ⟨⟨g2, cap2, rfl, r3⟩, b3⟩
  have HS3 := (show Hid (PS w w3 g cap L g2 cap2 M (.slice A L.length c) (.int .i64 at') (.slice A2 M.length c2)) from ⟨HS2.out.1.below b3, r3, HS2.out.2.1.trans (b3.mono HS2.out.2.1.size), HS2.out.2.2.below b3⟩)
  clear H16b r3 b3 HS2 k2
  have k0 := HS3.out.c.c0
  have k1 := HS3.out.c.c1
  go_wp2_with fail
  refine (H17.out _ HS3.out.b).mono ?_
  rintro e w4 ⟨⟨v5, rfl, o4⟩, b4⟩
  have HS4 := (show Hid (PS w w4 g cap L g2 cap2 M (.slice A L.length c) (.int .i64 at') (.slice A2 M.length c2) ∧ w4.ownsRow w.heap.size 37 7 v5 X5.length (ndc X5)) from ⟨HS3.out.below b4, o4⟩)
  clear H17 b4 o4 HS3 k0 k1
  have k0 := HS4.out.1.c.c0
  have k1 := HS4.out.1.c.c1
  have k2 := HS4.out.1.c.c2
  go_wp2_with fail
  refine (H18.out _ HS4.out.1.b).mono ?_
  rintro e w5 ⟨⟨v7, rfl, o5⟩, b5⟩
  have HS5 := (show Hid (SO w w5 g cap L g2 cap2 M (.slice A L.length c) (.int .i64 at') (.slice A2 M.length c2) v5 X5 v7 X7) from ⟨HS4.out.1.below b5, own_below HS4.out.2 b5, o5⟩)
  clear H18 b5 o5 HS4 k0 k1 k2
  have k1 := HS5.out.s.c.c1
  go_wp2_with fail
  refine (H11.out _ _ _ HS5.out.s.r1).mono ?_
  rintro e w6 ⟨⟨v9, rfl, o6⟩, b6⟩
  have HS6 := (show Hid (SO w w6 g cap L g2 cap2 M (.slice A L.length c) (.int .i64 at') (.slice A2 M.length c2) v5 X5 v7 X7) from HS5.out.below b6)
  have HO6 := (show Hid (w6.ownsRow w5.heap.size 37 7 v9 X5.length (ndc X5) ∧ Below w5.heap.size w5 w6) from ⟨o6, b6⟩)
  clear b6 o6 k1
  have k1 := HS6.out.s.c.c1
  go_wp2_with fail
  refine (H14.out _ _ _ _ _ HS6.out.s.r1 HS6.out.s.r2).mono ?_
  rintro e w7 ⟨⟨v11, rfl, o7⟩, b7⟩
  have HO7 := (show Hid (w7.ownsRow w5.heap.size 37 7 v9 X5.length (ndc X5) ∧ w7.ownsRow w6.heap.size 37 7 v11 X7.length (ndc X7) ∧ Below w5.heap.size w5 w7 ∧ w5.heap.size ≤ w6.heap.size ∧ w6.heap.size ≤ w7.heap.size ∧ ∀ b, v9.ownBlock = some b → w5.heap.size ≤ b ∧ b < w6.heap.size) from ⟨own_below HO6.out.1 b7, o7, HO6.out.2.trans (b7.mono HO6.out.2.size), HO6.out.2.size, b7.size, fun b e => HO6.out.1.lt b e⟩)
  clear b7 o7 k1 HS6 HO6
  go_wp2_with fail
  refine (H19.out _ _ _ _ _ HO7.out.1 (Nat.le_trans HO7.out.2.2.2.1 HO7.out.2.2.2.2.1) hx5).mono ?_
  rintro e w8 ⟨⟨_, rfl⟩, gr8⟩
  have HO8 := (show Hid (w8.ownsRow w6.heap.size 37 7 v11 X7.length (ndc X7) ∧ Below w5.heap.size w5 w8 ∧ w5.heap.size ≤ w6.heap.size ∧ w6.heap.size ≤ w8.heap.size) from ⟨own_grown HO7.out.2.1 gr8 (fun b e q => by
    have q1 := (HO7.out.2.1.lt b e).1
    have q2 := (HO7.out.2.2.2.2.2 b q).2
    omega), HO7.out.2.2.1.grown gr8 HO7.out.2.2.1.size (fun k e => (HO7.out.2.2.2.2.2 k e).1), HO7.out.2.2.2.1, Nat.le_trans HO7.out.2.2.2.2.1 gr8.size⟩)
  clear gr8 HO7
  go_wp2_with fail
  refine (H19.out _ _ _ _ _ HO8.out.1 HO8.out.2.2.2 hx7).mono ?_
  rintro e w9 ⟨⟨_, rfl⟩, gr9⟩
  have HS9 := (show Hid (SO w w9 g cap L g2 cap2 M (.slice A L.length c) (.int .i64 at') (.slice A2 M.length c2) v5 X5 v7 X7) from HS5.out.below (HO8.out.2.1.grown gr9 HO8.out.2.1.size (fun k e => Nat.le_trans HO8.out.2.2.1 (HO8.out.1.lt k e).1)))
  clear gr9 HO8 HS5
  go_wp2_with fail
  refine (H8.out _).mono ?_
  rintro e wa ⟨rfl, ba⟩
  have HSa := (show Hid (SO w wa g cap L g2 cap2 M (.slice A L.length c) (.int .i64 at') (.slice A2 M.length c2) v5 X5 v7 X7) from HS9.out.below ba)
  clear H8 ba HS9
  have k0 := HSa.out.s.c.c0
  go_wp2_with fail
  refine (H20.out _ _ _ HSa.out.s.b HSa.out.s.r1).mono ?_
  rintro e wb ⟨rfl, bb⟩
  have HSb := (show Hid (SO w wb g cap L g2 cap2 M (.slice A L.length c) (.int .i64 at') (.slice A2 M.length c2) v5 X5 v7 X7) from HSa.out.below bb)
  clear H20 bb HSa k0
  have k2 := HSb.out.s.c.c2
  go_wp2_with fail
  refine (H20b.out _ _ _ HSb.out.s.b HSb.out.s.r2).mono ?_
  rintro e wc ⟨rfl, bc⟩
  have HSc := (show Hid (SO w wc g cap L g2 cap2 M (.slice A L.length c) (.int .i64 at') (.slice A2 M.length c2) v5 X5 v7 X7) from HSb.out.below bc)
  clear bc HSb k2
  have k1 := HSc.out.s.c.c1
  go_wp2_with fail
  refine (H11.out _ _ _ HSc.out.s.r1).mono ?_
  rintro e wd ⟨⟨vd, rfl, od⟩, bd⟩
  have HSd := (show Hid (SO w wd g cap L g2 cap2 M (.slice A L.length c) (.int .i64 at') (.slice A2 M.length c2) v5 X5 v7 X7 ∧ ∃ B, wd.ownsRow B 37 7 vd X5.length (ndc X5)) from ⟨HSc.out.below bd, _, od⟩)
  clear H11 bd od HSc k1
  have k1 := HSd.out.1.s.c.c1
  go_wp2_with fail
  refine (H14.out _ _ _ _ _ HSd.out.1.s.r1 HSd.out.1.s.r2).mono ?_
  rintro e we ⟨⟨ve, rfl, oe⟩, be⟩
  have HSe := (show Hid (SO w we g cap L g2 cap2 M (.slice A L.length c) (.int .i64 at') (.slice A2 M.length c2) v5 X5 v7 X7 ∧ (∃ B, we.ownsRow B 37 7 vd X5.length (ndc X5)) ∧ ∃ B, we.ownsRow B 37 7 ve X7.length (ndc X7)) from ⟨HSd.out.1.below be, (by obtain ⟨B, hB⟩ := HSd.out.2; exact ⟨B, own_below hB be⟩), _, oe⟩)
  clear H14 be oe HSd k1
  have HSm1 := (show Hid (∀ _ : Unit, Calls Try.prog 21 #[vd, v5] we fun e w' => e = .returned (.bool true) ∧ Below we.heap.size we w') from fun _ => by obtain ⟨B, hB⟩ := HSe.out.2.1; exact H21.out we B _ X5 vd v5 hx5 hB HSe.out.1.o5)
  go_wp2_with fail
  refine (HSm1.out ()).mono ?_
  rintro e wf ⟨rfl, bf⟩
  have HSf := (show Hid (SO w wf g cap L g2 cap2 M (.slice A L.length c) (.int .i64 at') (.slice A2 M.length c2) v5 X5 v7 X7) from HSe.out.1.below bf)
  have HSm2 := (show Hid (∀ _ : Unit, Calls Try.prog 21 #[ve, v7] wf fun e w' => e = .returned (.bool true) ∧ Below wf.heap.size wf w') from fun _ => by obtain ⟨B, hB⟩ := HSe.out.2.2; exact H21.out wf B _ X7 ve v7 hx7 (own_below hB bf) HSf.out.o7)
  clear HSm1 bf HSe
  go_wp2_with fail
  refine (HSm2.out ()).mono ?_
  rintro e wg ⟨rfl, bg⟩
  have HSg := (show Hid (PS w wg g cap L g2 cap2 M (.slice A L.length c) (.int .i64 at') (.slice A2 M.length c2)) from (HSf.out.below bg).s)
  clear HSm2 bg HSf
  go_wp2_with fail
  refine (H13.out _ _ _ HSg.out.r2).mono ?_
  rintro e wh ⟨⟨vh, rfl, oh⟩, bh⟩
  have HSh := (show Hid (PS w wh g cap L g2 cap2 M (.slice A L.length c) (.int .i64 at') (.slice A2 M.length c2) ∧ wh.ownsRow wg.heap.size 37 7 vh X9.length (ndc X9) ∧ Below wg.heap.size wg wh) from ⟨HSg.out.below bh, oh, bh⟩)
  clear H13 bh oh
  have k2 := HSh.out.1.c.c2
  go_wp2_with fail
  refine (H22.out _ HSh.out.1.b).mono ?_
  rintro e wi ⟨⟨vi, rfl, oi⟩, bi⟩
  have HSi := (show Hid (wi.ownsRow wg.heap.size 37 7 vh X9.length (ndc X9) ∧ Below wg.heap.size wg wi ∧ wi.ownsRow wh.heap.size 37 7 vi X9.length (ndc X9)) from ⟨own_below HSh.out.2.1 bi, HSh.out.2.2.trans (bi.mono HSh.out.2.2.size), oi⟩)
  clear H22 bi oi k2 HSh
  have HSm3 := (show Hid (∀ _ : Unit, Calls Try.prog 21 #[vh, vi] wi fun e w' => e = .returned (.bool true) ∧ Below wi.heap.size wi w') from fun _ => H21.out wi _ _ X9 vh vi hx9 HSi.out.1 HSi.out.2.2)
  go_wp2_with fail
  refine (HSm3.out ()).mono ?_
  rintro e wj ⟨rfl, bj⟩
  have HSj := (show Hid (wj.ownsRow wg.heap.size 37 7 vh X9.length (ndc X9) ∧ Below wg.heap.size wg wj) from ⟨own_below HSi.out.1 bj, HSi.out.2.1.trans (bj.mono HSi.out.2.1.size)⟩)
  clear HSm3 bj HSi
  go_wp2_with fail
  refine (H19.out _ _ _ _ _ HSj.out.1 HSj.out.2.size hx9).mono ?_
  rintro e wk ⟨⟨_, rfl⟩, grk⟩
  have HSk := (show Hid (PS w wk g cap L g2 cap2 M (.slice A L.length c) (.int .i64 at') (.slice A2 M.length c2)) from HSg.out.below (HSj.out.2.grown grk HSj.out.2.size (fun k e => (HSj.out.1.lt k e).1)))
  clear grk HSj HSg
  have k2 := HSk.out.c.c2
  go_wp2_with fail
  refine (H20b.out _ _ _ HSk.out.b HSk.out.r2).mono ?_
  rintro e wl ⟨rfl, bl⟩
  have HSl := (show Hid (Below w.heap.size w wl) from (HSk.out.below bl).b)
  clear bl HSk k2 H20b
  go_wp2_with fail
  go_ret
  exact ⟨rfl, HSl.out⟩
end Go.Proofs.Ytfomodpjdaclgab
