/- DERIVED. The walk of TreePuts. -/
import Derived.Test.YtfomodpjdaclgaaPuB
namespace Go.Proofs.Ytfomodpjdaclgaa
open Go.RowKit

/-- A change in a box. -/
structure CB (W : World) (b : Nat) (u v x : Value) : Prop where
  heap : W.heap[b]? = some (.cells #[u, v, x] 49 (0, 0))
theorem CB.lt {W : World} {b : Nat} {u v x : Value} (h : CB W b u v x) : b < W.heap.size := (Array.getElem?_eq_some_iff.1 h.heap).1
theorem CB.c0 {W : World} {b : Nat} {u v x : Value} (h : CB W b u v x) : W.cell? ⟨b, 0, none⟩ = some u := by rw [cell_of_row W b 0 _ 49 (0, 0) h.heap]; rfl
theorem CB.c1 {W : World} {b : Nat} {u v x : Value} (h : CB W b u v x) : W.cell? ⟨b, 1, none⟩ = some v := by rw [cell_of_row W b 1 _ 49 (0, 0) h.heap]; rfl
theorem CB.c2 {W : World} {b : Nat} {u v x : Value} (h : CB W b u v x) : W.cell? ⟨b, 2, none⟩ = some x := by rw [cell_of_row W b 2 _ 49 (0, 0) h.heap]; rfl
theorem CB.same {W W' : World} {b : Nat} {u v x : Value} (h : CB W b u v x) (hb : W'.heap[b]? = W.heap[b]?) : CB W' b u v x := ⟨hb.trans h.heap⟩
theorem CB.below {W W' : World} {b : Nat} {u v x : Value} (h : CB W b u v x) (hb : Below W.heap.size W W') : CB W' b u v x := h.same (hb.block b h.lt)
/-- What is held while a change is looked at. -/
structure PS (w W : World) (g cap : Nat) (L : List Nd) (g2 cap2 : Nat) (M : List Nd) (u v x : Value) : Prop where
  r1 : LentR W w.heap.size g cap L
  r2 : LentR W w.heap.size g2 cap2 M
  b : Below w.heap.size w W
  c : CB W w.heap.size u v x
theorem PS.below {w W W' : World} {g cap : Nat} {L : List Nd} {g2 cap2 : Nat} {M : List Nd} {u v x : Value} (h : PS w W g cap L g2 cap2 M u v x) (hb : Below W.heap.size W W') : PS w W' g cap L g2 cap2 M u v x := ⟨h.r1.below hb, h.r2.below hb, h.b.trans (hb.mono h.b.size), h.c.below hb⟩

set_option maxRecDepth 100000 in
set_option maxHeartbeats 8000000 in
theorem treePuts_law (A A2 : Option Addr) (c c2 : Nat) (L M : List Nd) (at' : Int) (hl : L.length * 64 ≤ 140737488351232) (hT : ∀ n ∈ L, n.tx.size ≤ 140737488351232) (hcap : L.length ≤ c) (hm : M.length * 64 ≤ 140737488351232) (hU : ∀ n ∈ M, n.tx.size ≤ 140737488351232) (w : World) (h : InP w A c L) (h2 : InP w A2 c2 M) :
    Calls Try.prog 7 #[.agg #[.slice A L.length c, .int .i64 at', .slice A2 M.length c2]] w fun e w' => e = .returned (.bool true) ∧ Below w.heap.size w w' := by
  have hT2 : ∀ n ∈ L, n.tx.size ≤ 140737488355328 := fun n hn => by have := hT n hn; omega
  have hU2 : ∀ n ∈ M, n.tx.size ≤ 140737488355328 := fun n hn => by have := hU n hn; omega
  have hl2 : L.length ≤ 140737488355328 := by omega
  have hm2 : M.length ≤ 140737488355328 := by omega
  have H9 : Hid (∀ W, Below w.heap.size w W → Calls Try.prog 9 #[.slice A L.length c] W fun e w' => (∃ g cap, e = .returned (.slice (some ⟨g, 0, none⟩) L.length cap) ∧ LentR w' w.heap.size g cap L) ∧ Below W.heap.size W w') := fun W hW => (lend_any A c L W hl ⟨h.1.below hW (Nat.le_refl _), h.2⟩).mono fun e w' ⟨⟨g, cap, e1, e2⟩, e3⟩ => ⟨⟨g, cap, e1, own_base e2 hW.size⟩, e3⟩
  have H9b : Hid (∀ W, Below w.heap.size w W → Calls Try.prog 9 #[.slice A2 M.length c2] W fun e w' => (∃ g cap, e = .returned (.slice (some ⟨g, 0, none⟩) M.length cap) ∧ LentR w' w.heap.size g cap M) ∧ Below W.heap.size W w') := fun W hW => (lend_any A2 c2 M W hm ⟨h2.1.below hW (Nat.le_refl _), h2.2⟩).mono fun e w' ⟨⟨g, cap, e1, e2⟩, e3⟩ => ⟨⟨g, cap, e1, own_base e2 hW.size⟩, e3⟩
  have H29 : Hid (∀ W g cap g2 cap2, LentR W w.heap.size g cap L → LentR W w.heap.size g2 cap2 M → Calls Try.prog 29 #[.slice (some ⟨g, 0, none⟩) L.length cap, .int .i64 at', .slice (some ⟨g2, 0, none⟩) M.length cap2] W fun e w' => (∃ v, e = .returned (.tuple #[v, .int .i64 (puE L at' M)]) ∧ w'.ownsRow w.heap.size 43 7 v (puL L at' M).length (ndc (puL L at' M))) ∧ Below W.heap.size W w') := fun W g cap g2 cap2 hr hr2 => (put_any L M _ _ cap cap2 at' (by have := own_cap hr; omega) hl2 hm2 hT2 hU2 W hr.rd hr2.rd).mono fun e w' ⟨⟨v, e1, e2⟩, e3⟩ => ⟨⟨v, e1, own_base e2 (Nat.le_of_lt (Nat.lt_of_le_of_lt (hr.lt g rfl).1 (hr.lt g rfl).2))⟩, e3⟩
  have H30 : Hid (∀ W, Below w.heap.size w W → Calls Try.prog 30 #[.slice A L.length c, .int .i64 at', .slice A2 M.length c2] W fun e w' => (∃ v, e = .returned (.tuple #[v, .int .i64 (puE L at' M)]) ∧ w'.ownsRow w.heap.size 43 7 v (puL L at' M).length (ndc (puL L at' M))) ∧ Below W.heap.size W w') := fun W hW => (putR_any L M A A2 c c2 at' hcap hl2 hm2 hT2 hU2 W (h.1.below hW (Nat.le_refl _)) (h2.1.below hW (Nat.le_refl _))).mono fun e w' ⟨⟨v, e1, e2⟩, e3⟩ => ⟨⟨v, e1, own_base e2 hW.size⟩, e3⟩
  have H12 : Hid (∀ w, Calls Try.prog 12 #[] w fun e w' => e = .returned (.bool true) ∧ Below w.heap.size w w') := fun w => lives_any w
  have H24 : Hid (∀ W v1 v2, W.ownsRow w.heap.size 43 7 v1 (puL L at' M).length (ndc (puL L at' M)) → W.ownsRow w.heap.size 43 7 v2 (puL L at' M).length (ndc (puL L at' M)) → Calls Try.prog 24 #[v1, v2] W fun e w' => e = .returned (.bool true) ∧ Below W.heap.size W w') := fun W v1 v2 h1 h2 => same_rows v1 v2 _ _ _ (Nat.le_trans puL_len (by omega)) W h1 h2
  have H15 : Hid (∀ W g cap, Below w.heap.size w W → LentR W w.heap.size g cap L → Calls Try.prog 15 #[.slice (some ⟨g, 0, none⟩) L.length cap, .slice A L.length c] W fun e w' => e = .returned (.bool true) ∧ Below W.heap.size W w') := fun W g cap hW hr => kept_any A c g cap _ L hl W (h.1.below hW (Nat.le_refl _)) hr
  have H15b : Hid (∀ W g cap, Below w.heap.size w W → LentR W w.heap.size g cap M → Calls Try.prog 15 #[.slice (some ⟨g, 0, none⟩) M.length cap, .slice A2 M.length c2] W fun e w' => e = .returned (.bool true) ∧ Below W.heap.size W w') := fun W g cap hW hr => kept_any A2 c2 g cap _ M hm W (h2.1.below hW (Nat.le_refl _)) hr
  clear h h2 hT hT2 hU hU2 hl hl2 hm hm2 hcap
  generalize puE L at' M = pue at *
  generalize puL L at' M = pul at *
  obtain ⟨W1, hW1⟩ : ∃ W1, W1 = w.alloc (.cells #[.slice A L.length c, .int .i64 at', .slice A2 M.length c2] 49) := ⟨_, rfl⟩
  have HC1 := (show Hid (CB W1 w.heap.size (.slice A L.length c) (.int .i64 at') (.slice A2 M.length c2)) from ⟨by rw [hW1]; exact heap_alloc_new w _⟩)
  have HB1 := (show Hid (Below w.heap.size w W1) from by rw [hW1]; exact below_box _ _)
  have HD1 := (show Hid (Below w.heap.size w W1.drew ∧ Below W1.heap.size W1 W1.drew) from ⟨below_drewN HB1.out 1, below_drewN (Below.refl _ _) 1⟩)
  subst hW1
  go_enter Try.func7, Try.ntmps7
  go_wp2_with fail
  generalize hW1 : w.alloc (.cells #[.slice A L.length c, .int .i64 at', .slice A2 M.length c2] 49) = W1 at *
  clear hW1
  have k0 := HC1.out.c0
  have k2 := HC1.out.c2
  go_region_law (first
    | (refine step_call1 enters9 rfl _ _ (by rfl) (.slice A L.length c) (by rfl) ?_; with_reducible refine (H9.out _ HD1.out.1).mono ?_; rintro e wA ⟨⟨g, cap, rfl, rA⟩, bA⟩; refine ⟨_, rfl, ?_⟩; have BA := HD1.out.1.trans (bA.mono HD1.out.1.size); have CA := (HC1.out.below HD1.out.2).below bA; have kA := CA.c2)
    | (refine step_call1 enters9 rfl _ _ (by rfl) (.slice A2 M.length c2) (by rfl) ?_; with_reducible refine (H9b.out _ BA).mono ?_; rintro e wB ⟨⟨g2, cap2, rfl, rB⟩, bB⟩; refine ⟨_, rfl, ?_⟩; have hPS : PS w wB g cap L g2 cap2 M (.slice A L.length c) (.int .i64 at') (.slice A2 M.length c2) := ⟨rA.below bB, rB, BA.trans (bB.mono BA.size), CA.below bB⟩))
  all_goals
    have HS2 := (show Hid (PS w wB g cap L g2 cap2 M (.slice A L.length c) (.int .i64 at') (.slice A2 M.length c2)) from hPS)
    clear hPS rA rB bA bB BA CA kA k0 k2 HC1 HB1 HD1 H9 H9b W1
    have k1 := HS2.out.c.c1
    go_wp2_with fail
    refine (H29.out _ _ _ _ _ HS2.out.r1 HS2.out.r2).mono ?_
    rintro e w3 ⟨⟨v3, rfl, o3⟩, b3⟩
    have HS3 := (show Hid (PS w w3 g cap L g2 cap2 M (.slice A L.length c) (.int .i64 at') (.slice A2 M.length c2)) from HS2.out.below b3)
    have HO3 := (show Hid (w3.ownsRow w.heap.size 43 7 v3 pul.length (ndc pul)) from o3)
    clear H29 b3 o3 HS2 k1
    have k0 := HS3.out.c.c0
    have k1 := HS3.out.c.c1
    have k2 := HS3.out.c.c2
    go_wp2_with fail
    refine (H30.out _ HS3.out.b).mono ?_
    rintro e w4 ⟨⟨v4, rfl, o4⟩, b4⟩
    have HS4 := (show Hid (PS w w4 g cap L g2 cap2 M (.slice A L.length c) (.int .i64 at') (.slice A2 M.length c2)) from HS3.out.below b4)
    have HO4 := (show Hid (w4.ownsRow w.heap.size 43 7 v3 pul.length (ndc pul) ∧ w4.ownsRow w.heap.size 43 7 v4 pul.length (ndc pul)) from ⟨own_below HO3.out b4, o4⟩)
    clear H30 b4 o4 HS3 HO3 k0 k1 k2
    go_wp2_with fail
    refine (H12.out _).mono ?_
    rintro e w5 ⟨rfl, b5⟩
    have HS5 := (show Hid (PS w w5 g cap L g2 cap2 M (.slice A L.length c) (.int .i64 at') (.slice A2 M.length c2)) from HS4.out.below b5)
    have HO5 := (show Hid (w5.ownsRow w.heap.size 43 7 v3 pul.length (ndc pul) ∧ w5.ownsRow w.heap.size 43 7 v4 pul.length (ndc pul)) from ⟨own_below HO4.out.1 b5, own_below HO4.out.2 b5⟩)
    clear H12 b5 HS4 HO4
    go_wp2_with fail
    refine (H24.out _ _ _ HO5.out.1 HO5.out.2).mono ?_
    rintro e w6 ⟨rfl, b6⟩
    have HS6 := (show Hid (PS w w6 g cap L g2 cap2 M (.slice A L.length c) (.int .i64 at') (.slice A2 M.length c2)) from HS5.out.below b6)
    clear H24 b6 HS5 HO5
    have k0 := HS6.out.c.c0
    go_wp2_with fail
    refine (H15.out _ _ _ HS6.out.b HS6.out.r1).mono ?_
    rintro e w7 ⟨rfl, b7⟩
    have HS7 := (show Hid (PS w w7 g cap L g2 cap2 M (.slice A L.length c) (.int .i64 at') (.slice A2 M.length c2)) from HS6.out.below b7)
    clear H15 b7 HS6 k0
    have k2 := HS7.out.c.c2
    go_wp2_with fail
    refine (H15b.out _ _ _ HS7.out.b HS7.out.r2).mono ?_
    rintro e w8 ⟨rfl, b8⟩
    have HS8 := (show Hid (PS w w8 g cap L g2 cap2 M (.slice A L.length c) (.int .i64 at') (.slice A2 M.length c2)) from HS7.out.below b8)
    clear H15b b8 HS7 k2
    go_wp2_with fail
    go_ret
    exact ⟨rfl, HS8.out.b⟩
end Go.Proofs.Ytfomodpjdaclgaa
