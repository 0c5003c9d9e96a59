/- DERIVED. The walk of TreeAgain. -/
import Derived.Test.YtfomodpjdaclgabAgP
namespace Go.Proofs.Ytfomodpjdaclgab
open Go.RowKit

/-- What came in, in its box, and what it shows. -/
structure GS (w W : World) (u v x : Value) : Prop where
  b : Below w.heap.size w W
  c : CB W w.heap.size u v x
theorem GS.below {w W W' : World} {u v x : Value} (h : GS w W u v x) (hb : Below W.heap.size W W') : GS w W' u v x := ⟨h.b.trans (hb.mono h.b.size), h.c.below hb⟩
theorem GS.start (w : World) (u v x : Value) : GS w (w.alloc (.cells #[u, v, x] 42)) u v x := ⟨below_box _ _, ⟨heap_alloc_new w _⟩⟩

set_option maxRecDepth 100000 in
set_option maxHeartbeats 8000000 in
theorem again_none (A A2 : Option Addr) (c c2 : Nat) (L M : List Nd) (at' : Int) (hcap : L.length ≤ c) (hl2 : L.length ≤ 140737488355328) (hT2 : ∀ n ∈ L, n.tx.size ≤ 140737488355328) (w : World) (h : RdN w A L) (hf : fdE L at' ≠ 0) :
    Calls Try.prog 4 #[.agg #[.slice A L.length c, .int .i64 at', .slice A2 M.length c2]] w fun e w' => e = .returned (.bool true) ∧ Below w.heap.size w w' := by
  have H11 : Hid (∀ W, Below w.heap.size w W → Calls Try.prog 11 #[.slice A L.length c, .int .i64 at'] W fun e w' => e = .returned (.tuple #[.slice none 0 0, .int .i64 (fdE L at')]) ∧ Below W.heap.size W w') := fun W hW => (part_any L A c at' hcap hl2 hT2 W (h.below hW (Nat.le_refl _))).mono fun e w' ⟨⟨v, e1, e2⟩, e3⟩ => ⟨by
    rcases e2 with ⟨_, rfl⟩ | ⟨h0, _⟩
    · exact e1
    · exact absurd h0 hf, e3⟩
  have H8 : Hid (∀ w, Calls Try.prog 8 #[] w fun e w' => e = .returned (.bool true) ∧ Below w.heap.size w w') := fun w => lives_any w
  have t1 : (fdE L at' != 0) = true := by rw [bne, beq_eq_false_iff_ne.2 hf]; rfl
  have HG := (show Hid (GS w (w.alloc (.cells #[.slice A L.length c, .int .i64 at', .slice A2 M.length c2] 42)) (.slice A L.length c) (.int .i64 at') (.slice A2 M.length c2)) from GS.start _ _ _ _)
  have k0 := HG.out.c.c0
  have k1 := HG.out.c.c1
  clear h hT2 hl2 hf
  generalize fdE L at' = fde at *
  go_enter Try.func4, Try.ntmps4
  go_wp2_with fail
  refine (H11.out _ HG.out.b).mono ?_
  rintro e w2 ⟨rfl, b2⟩
  have HB2 := (show Hid (Below w.heap.size w w2) from (HG.out.below b2).b)
  clear H11 b2 HG k0 k1
  go_wp2_with fail
  refine (H8.out _).mono ?_
  rintro e w4 ⟨rfl, b4⟩
  have HB4 := (show Hid (Below w.heap.size w w4) from HB2.out.trans (b4.mono HB2.out.size))
  clear H8 b4 HB2
  go_wp2_with fail
  go_ret
  exact ⟨rfl, HB4.out⟩

set_option maxRecDepth 100000 in
set_option maxHeartbeats 16000000 in
theorem again_good (A A2 : Option Addr) (c c2 : Nat) (L M : List Nd) (j : Nat) (hcap : L.length ≤ c) (hT : ∀ n ∈ L, n.tx.size ≤ 140737488355328) (hm : M.length ≤ 140737488355328) (hU : ∀ n ∈ M, n.tx.size ≤ 140737488355328) (w : World) (h : RdN w A L) (h2 : RdN w A2 M) (hr : Rt L) (hj : j < L.length) :
    Calls Try.prog 4 #[.agg #[.slice A L.length c, .int .i64 j, .slice A2 M.length c2]] w fun e w' => e = .returned (.bool true) ∧ Below w.heap.size w w' := by
  obtain ⟨i3, hinf, hz0, hz1, hz2⟩ := info_parts Try.info23
  have hlen := hr.len
  have hl2 : L.length ≤ 140737488355328 := by omega
  obtain ⟨n, hn⟩ : ∃ n, L[j]? = some n := ⟨_, List.getElem?_eq_getElem hj⟩
  have hfd := fdE_of hr hj
  have hbj := pt_le hr hj
  obtain ⟨O, hO⟩ : ∃ O, O = cutL L (pt L j).1 (j + 1) := ⟨_, rfl⟩
  have hOl : O.length = j + 1 - (pt L j).1 := by rw [hO]; exact cutL_len (by omega) (by omega)
  have hOt : ∀ x ∈ O, x.tx.size ≤ 140737488355328 := by rw [hO]; exact cutL_tx hT
  have hkl : (kid L j).length ≤ 2 := by rw [(tiles_of hr hj).1]; exact arN_le _
  have hnt : n.tx.size ≤ 140737488355328 := hT n (List.mem_of_getElem? hn)
  have H11 : Hid (∀ W, Below w.heap.size w W → Calls Try.prog 11 #[.slice A L.length c, .int .i64 j] W fun e w' => (∃ Ao co, e = .returned (.tuple #[.slice Ao O.length co, .int .i64 0]) ∧ w'.ownsRow w.heap.size 37 7 (.slice Ao O.length co) O.length (ndc O)) ∧ Below W.heap.size W w') := fun W hW => (part_any L A c j hcap hl2 hT W (h.below hW (Nat.le_refl _))).mono fun e w' ⟨h1, h3⟩ => ⟨by
    obtain ⟨v, g1, g2⟩ := h1.row
    rw [prE_of hr hj, ← hO] at g2
    rw [hfd] at g1
    obtain ⟨Ao, co, rfl, _⟩ := own_form g2
    exact ⟨Ao, co, g1, own_base g2 hW.size⟩, h3⟩
  have H6 : Hid (∀ W, Below w.heap.size w W → Calls Try.prog 6 #[.slice A L.length c, .int .i64 j] W fun e w' => (∃ Av cv, e = .returned (.tuple #[.slice Av (kid L j).length cv, .int .i64 0]) ∧ (0 < (kid L j).length → ∃ g, Av = some ⟨g, 0, none⟩) ∧ w'.ownsRow w.heap.size 3 1 (.slice Av (kid L j).length cv) (kid L j).length (((kid L j).map fun p => (p.2.1 : Int)).map fun x => .int .i64 x)) ∧ Below W.heap.size W w') := fun W hW => (parts_any L A c j hl2 hT W (h.below hW (Nat.le_refl _))).mono fun e w' ⟨h1, h3⟩ => by
    obtain ⟨v, e1, e2⟩ := h1.row
    rw [psE_of hr hj, List.length_map] at e2
    rw [hfd] at e1
    obtain ⟨Av, cv, rfl, hA⟩ := own_form e2
    exact ⟨⟨Av, cv, e1, hA, own_base e2 hW.size⟩, h3⟩
  have HR : Hid (∀ (i : Nat) x, (kid L j)[i]? = some x → ∃ q : List Nd, (kidL L j)[i]? = some q ∧ ∀ W, Below w.heap.size w W → Calls Try.prog 11 #[.slice A L.length c, .int .i64 x.2.1] W fun e w' => (∃ g cap, e = .returned (.tuple #[.slice (some ⟨g, 0, none⟩) q.length cap, .int .i64 0]) ∧ w'.ownsRow W.heap.size 37 7 (.slice (some ⟨g, 0, none⟩) q.length cap) q.length (ndc q)) ∧ Below W.heap.size W w') := fun i x hx => by
    obtain ⟨c1, hxl, e1⟩ := kid_right hr hj hx
    refine ⟨cutL L x.1 (x.2.1 + 1), by unfold kidL; rw [List.getElem?_map, hx]; rfl, fun W hW => ?_⟩
    refine (part_any L A c x.2.1 hcap hl2 hT W (h.below hW (Nat.le_refl _))).mono fun e w' ⟨h1, h3⟩ => ⟨?_, h3⟩
    obtain ⟨v, g1, g2⟩ := h1.row
    rw [prE_of hr hxl, e1] at g2
    obtain ⟨Au, cu, rfl, hA⟩ := own_form g2
    rw [fdE_of hr hxl] at g1
    obtain ⟨g, rfl⟩ := hA (pt_last c1).2
    exact ⟨g, cu, g1, g2⟩
  have H13 : Hid (∀ z W v qs, Below w.heap.size w z → AtQ z W (kidL L j) (kid L j).length v qs → Calls Try.prog 13 #[ndG n, v] W fun e w' => (∃ u, e = .returned (.tuple #[u, .int .i64 0]) ∧ w'.ownsRow w.heap.size 37 7 u O.length (ndc O)) ∧ Below W.heap.size W w') := fun z W v qs hz hQ => by
    have hs : (qs.map fun q => q.2.2) = kidL L j := by rw [hQ.same, List.take_of_length_le (by unfold kidL; rw [List.length_map]; omega)]
    have hq : ∀ q ∈ qs, q.2.2 ∈ kidL L j := fun q hq => by rw [← hs]; exact List.mem_map.2 ⟨q, hq, rfl⟩
    have hq1 : ∀ q ∈ qs, q.2.2.length ≤ 140737488355328 := fun q hq2 => by have := (kidL_ck hr hj _ (hq q hq2)).len; omega
    have hq2 : ∀ q ∈ qs, ∀ x ∈ q.2.2, x.tx.size ≤ 140737488355328 := fun q hq2 => by
      obtain ⟨x, _, e⟩ := List.mem_map.1 (hq q hq2)
      rw [← e]
      exact cutL_tx hT
    obtain ⟨A', c', rfl, hrd⟩ := hQ.rd
    have hjn := join_any n qs A' c' hnt (by rw [hQ.len]; omega) hq1 hq2 W hrd
    rw [hs] at hjn
    obtain ⟨a1, a2⟩ := again_join hr hn hj
    refine hjn.mono fun e w' ⟨⟨u, e1, e2⟩, e3⟩ => ⟨⟨u, by rw [e1, a1], ?_⟩, e3⟩
    rw [a2, ← hO] at e2
    exact own_base e2 (Nat.le_trans hz.size hQ.b.size)
  have H14 : Hid (∀ W Ao co, Below w.heap.size w W → W.ownsRow w.heap.size 37 7 (.slice Ao O.length co) O.length (ndc O) → Calls Try.prog 14 #[.slice A L.length c, .int .i64 j, .slice Ao O.length co] W fun e w' => (∃ u, e = .returned (.tuple #[u, .int .i64 0]) ∧ w'.ownsRow w.heap.size 37 7 u L.length (ndc L)) ∧ Below W.heap.size W w') := fun W Ao co hW ho => by
    obtain ⟨a1, a2⟩ := again_put hr hj
    rw [← hO] at a1 a2
    refine (put_any L O A Ao c co j hcap hl2 (by omega) hT hOt W (h.below hW (Nat.le_refl _)) (row_rd ho)).mono fun e w' ⟨⟨u, e1, e2⟩, e3⟩ => ⟨⟨u, by rw [e1, a1], ?_⟩, e3⟩
    rw [a2] at e2
    exact own_base e2 hW.size
  have H14b : Hid (∀ W, Below w.heap.size w W → Calls Try.prog 14 #[.slice A L.length c, .int .i64 j, .slice A2 M.length c2] W fun e w' => (∃ Ay cy, e = .returned (.tuple #[.slice Ay (puL L j M).length cy, .int .i64 (puE L j M)]) ∧ w'.ownsRow w.heap.size 37 7 (.slice Ay (puL L j M).length cy) (puL L j M).length (ndc (puL L j M))) ∧ Below W.heap.size W w') := fun W hW => (put_any L M A A2 c c2 j hcap hl2 hm hT hU W (h.below hW (Nat.le_refl _)) (h2.below hW (Nat.le_refl _))).mono fun e w' ⟨⟨u, e1, e2⟩, e3⟩ => by
    obtain ⟨Ay, cy, rfl, _⟩ := own_form e2
    exact ⟨⟨Ay, cy, e1, own_base e2 hW.size⟩, e3⟩
  have H12 : Hid (∀ W, Below w.heap.size w W → Calls Try.prog 12 #[.slice A2 M.length c2] W fun e w' => e = .returned (.tuple #[.int .i64 (ck M).1, .int .i64 (ck M).2]) ∧ Below W.heap.size W w') := fun W hW => check_any M A2 c2 hm hU W (h2.below hW (Nat.le_refl _))
  have H7 : Hid (∀ W, Below w.heap.size w W → Calls Try.prog 7 #[.slice A L.length c, .int .i64 j] W fun e w' => e = .returned (.tuple #[.int .i64 (pt L j).1, .int .i64 0]) ∧ Below W.heap.size W w') := fun W hW => (begin_any L A c j hl2 hT W (h.below hW (Nat.le_refl _))).mono fun e w' ⟨h1, h3⟩ => ⟨by rw [h1, bgE_of hr hj, hfd], h3⟩
  have H8 : Hid (∀ w, Calls Try.prog 8 #[] w fun e w' => e = .returned (.bool true) ∧ Below w.heap.size w w') := fun w => lives_any w
  have HSm : Hid (∀ W B (X : List Nd) v Ax cx, X.length ≤ 140737488355328 → W.ownsRow B 37 7 v X.length (ndc X) → RdN W Ax X → Calls Try.prog 15 #[v, .slice Ax X.length cx] W fun e w' => e = .returned (.bool true) ∧ Below W.heap.size W w') := fun W B X v Ax cx hX h1 h3 => by
    obtain ⟨Au, cu, rfl, hrd⟩ := own_rd h1 rfl
    have hh := same_any Au Ax cu cx X X hX hX W hrd h3
    rw [patB_refl] at hh
    exact hh
  have HOt := (show Hid (∀ (Ay : Option Addr) (cy : Nat) W, Below w.heap.size w W → puE L j M = 0 → W.ownsRow w.heap.size 37 7 (.slice Ay (puL L j M).length cy) (puL L j M).length (ndc (puL L j M)) → M.length ≤ 2048 ∧ 0 < M.length ∧ (puL L j M).length + O.length = L.length + M.length ∧ (puL L j M).length ≤ 2048 ∧ Calls Try.prog 11 #[.slice Ay (puL L j M).length cy, .int .i64 ((pt L j).1 + M.length - 1 : Nat)] W fun e w' => (∃ u, e = .returned (.tuple #[u, .int .i64 0]) ∧ w'.ownsRow w.heap.size 37 7 u M.length (ndc M)) ∧ Below W.heap.size W w') from fun Ay cy W hW h0 ho => by
    obtain ⟨o1, o2, o3, o4, o5, o6⟩ := again_other hr hj h0
    have m1 := o1.len
    have m2 := o2.len
    have ht : ∀ x ∈ putL L j M, x.tx.size ≤ 140737488355328 := putL_tx hT hU
    rw [o3] at ho ⊢
    refine ⟨by omega, (pt_last o1).2, by rw [hO]; exact o6, by omega, ?_⟩
    refine (part_any (putL L j M) Ay cy ((pt L j).1 + M.length - 1 : Nat) (row_cap ho) (by omega) ht W (row_rd ho)).mono fun e w' ⟨h1, h3⟩ => ⟨?_, h3⟩
    obtain ⟨v, g1, g2⟩ := h1.row
    rw [prE_of o2 o4, o5] at g2
    rw [fdE_of o2 o4] at g1
    exact ⟨v, g1, own_base g2 hW.size⟩)
  have HBad := (show Hid (puE L j M ≠ 0 → (ck M).2 ≠ 0 ∨ ((ck M).2 = 0 ∧ puE L j M = 2) ∨ ((ck M).2 = 0 ∧ puE L j M = 4)) from again_bad hr hj)
  obtain ⟨gp, op, hAe, lp, cl⟩ := h (by rintro rfl; simp at hj)
  have HCl := (show Hid (∀ W, Below w.heap.size w W → NB W gp (op + j * 7) n) from fun W hW => (cl.same (hW.block gp lp)) j n hn)
  have HPq := (show Hid (∀ W, Below w.heap.size w W → RdN W A L ∧ RdN W A2 M) from fun W hW => ⟨h.below hW (Nat.le_refl _), h2.below hW (Nat.le_refl _)⟩)
  have HG := (show Hid (∀ i, i < (kid L j).length → ∃ x, (kid L j)[i]? = some x ∧ ((kid L j).map fun p => (p.2.1 : Int))[i]? = some (x.2.1 : Int)) from fun i hi => ⟨_, List.getElem?_eq_getElem hi, by rw [List.getElem?_map, List.getElem?_eq_getElem hi]; rfl⟩)
  have HGS := (show Hid (GS w (w.alloc (.cells #[.slice A L.length c, .int .i64 j, .slice A2 M.length c2] 42)) (.slice A L.length c) (.int .i64 j) (.slice A2 M.length c2)) from GS.start _ _ _ _)
  have hOb : O.length ≤ 2048 := by omega
  have hOb2 : O.length ≤ L.length := by omega
  clear h h2 hT hU hl2 hfd hO hOl hOt hnt cl hn hr
  generalize kidL L j = KL at *
  generalize kid L j = K at *
  generalize puE L j M = pue at *
  generalize puL L j M = Y at *
  generalize (pt L j).1 = b at *
  subst hAe
  have k0 := HGS.out.c.c0
  have k1 := HGS.out.c.c1
  go_enter Try.func4, Try.ntmps4
  go_wp2_with fail
  refine (H11.out _ HGS.out.b).mono ?_
  rintro e w2 ⟨⟨Ao, co, rfl, o2⟩, b2⟩
  have HS2 := (show Hid (GS w w2 (.slice (some ⟨gp, op, none⟩) L.length c) (.int .i64 j) (.slice A2 M.length c2)) from HGS.out.below b2)
  have HO2 := (show Hid (w2.ownsRow w.heap.size 37 7 (.slice Ao O.length co) O.length (ndc O)) from o2)
  clear H11 b2 o2 HGS k0 k1
  have k0 := HS2.out.c.c0
  have k1 := HS2.out.c.c1
  go_wp2_with fail
  refine (H6.out _ HS2.out.b).mono ?_
  rintro e z ⟨⟨Av, cv, rfl, hAv, o3⟩, b3⟩
  have HZ := (show Hid (∀ W, Below z.heap.size z W → GS w W (.slice (some ⟨gp, op, none⟩) L.length c) (.int .i64 j) (.slice A2 M.length c2) ∧ W.ownsRow w.heap.size 37 7 (.slice Ao O.length co) O.length (ndc O) ∧ AtL w W (.slice Av K.length cv) K.length (K.map fun p => (p.2.1 : Int))) from fun W hW => by
    have hs := (HS2.out.below b3).below hW
    exact ⟨hs, own_below (own_below HO2.out b3) hW, ⟨hs.b, own_below o3 hW⟩⟩)
  have HAv := (show Hid (0 < K.length → ∃ g, Av = some ⟨g, 0, none⟩) from hAv)
  have HBz := (show Hid (Below w.heap.size w z) from (HS2.out.below b3).b)
  have HQ0 := (show Hid (AtQ z z KL 0 (.slice none 0 0) []) from AtQ.start z KL)
  clear H6 b3 o3 HO2 HS2 k0 k1 hAv
  have hd2 : decide (2 < K.length) = false := decide_eq_false (by omega)
  go_wp2_with fail
  generalize hmm : K.length = m at *
  clear hmm
  go_loopw [7, 8] (fun v t wr => ∃ i : Nat, i ≤ m ∧ t = .int .i64 i ∧ ∃ qs, Hid (AtQ z wr KL i v qs)) (fun _ t _ => m - (intOf t).toNat)
  case atStart => exact ⟨0, by omega, by go_num, [], HQ0⟩
  case round =>
    obtain ⟨i, hi, rfl, qs, HW⟩ := hrel
    clear HQ0
    by_cases hlt : i < m
    · obtain ⟨x, hx, hx2⟩ := HG.out i hlt
      obtain ⟨g, rfl⟩ := HAv.out (by omega)
      obtain ⟨q, hq, c11⟩ := HR.out i x hx
      obtain ⟨xf, xl, xh⟩ := x
      simp only at hx2 c11
      obtain ⟨hs, _, hal⟩ := HZ.out wr HW.out.b
      have e1 := hal.cell hx2 rfl
      have k0 := hs.c.c0
      have HB := (show Hid (Below w.heap.size w wr.drew ∧ Below wr.heap.size wr wr.drew) from ⟨below_drewN hs.b 1, below_drewN (Below.refl _ _) 1⟩)
      have H11 := (show Hid (∀ _ : Unit, Calls Try.prog 11 #[.slice (some ⟨gp, op, none⟩) L.length c, .int .i64 xl] wr.drew fun e w' => (∃ g cap, e = .returned (.tuple #[.slice (some ⟨g, 0, none⟩) q.length cap, .int .i64 0]) ∧ w'.ownsRow wr.heap.size 37 7 (.slice (some ⟨g, 0, none⟩) q.length cap) q.length (ndc q)) ∧ Below wr.drew.heap.size wr.drew w') from fun _ => c11 wr.drew HB.out.1)
      have HQ := (show Hid (KL[i]? = some q) from hq)
      have y0 : (0 : Int) ≤ (i : Int) := by omega
      have y1 : (i : Int) < (m : Int) := by omega
      clear hx hx2 hq c11 hs hal HG HR HAv H13 H14 H14b H12 H7 H8 HSm HOt HBad HCl HPq HZ
      go_wp2_with fail
      go_region_law (refine step_call2 enters11 rfl _ _ _ _ (by rfl) (.slice (some ⟨gp, op, none⟩) L.length c) (.int .i64 xl) (by rfl) (by rfl) ?_; with_reducible refine (H11.out ()).mono ?_; rintro e wA ⟨⟨gA, capA, rfl, oA⟩, bA⟩; refine ⟨_, rfl, ?_⟩)
      all_goals
        have HA := (show Hid (Below wr.heap.size wr wA) from HB.out.2.trans bA)
        have HOA := (show Hid (wA.ownsRow wr.heap.size 37 7 (.slice (some ⟨gA, 0, none⟩) q.length capA) q.length (ndc q)) from oA)
        have hOw : wA.ownsRow z.heap.size 23 1 u7 i (qs.map lsV) := own_below HW.out.o HA.out
        have hsA : z.heap.size ≤ wA.heap.size := Nat.le_trans HW.out.b.size HA.out.size
        clear bA oA HB H11 e1 k0
        go_wp2_with (at_builtin; refine wpList_append_lies _ rfl _ _ 43 rfl z.heap.size 23 i3 (.slice none 0 0) 1 24 Try.underlying43 hinf hz0 hz1 hz2 rfl (by decide) _ _ _ rfl (hOw.alloc _) ⟨wA.heap.size, 0, none⟩ 1 1 [.slice (some ⟨gA, 0, none⟩) q.length capA] rfl rfl (cell_one_new _ _ _) (by simp [Value.oneCell']) (by decide) ?c3 ?c4 ?c5 (wA.heap.size + 1) (by simp) ?_)
        case c3 => unfold maxLen; omega
        case c4 => omega
        case c5 => first | omega | (simp; omega)
        intro g3 cap3 w3 hown hgrow hat _
        have HW3 := (show Hid (AtQ z w3 KL (i + 1) (.slice (some ⟨g3, 0, none⟩) (i + 1) cap3) (qs ++ [(some ⟨gA, 0, none⟩, capA, q)])) from HW.out.next HQ.out HA.out HOA.out hown hgrow hat)
        clear hown hgrow hat hOw HOA HA HQ HW
        go_wp2_with fail
        go_roundw
        case rel => exact ⟨i + 1, by omega, by go_num, _, HW3⟩
        case measure => simp [intOf]; omega
    · obtain rfl : i = m := by omega
      have H13b := (show Hid (∀ _ : Unit, Calls Try.prog 13 #[ndG n, u7] wr fun e w' => (∃ u, e = .returned (.tuple #[u, .int .i64 0]) ∧ w'.ownsRow w.heap.size 37 7 u O.length (ndc O)) ∧ Below wr.heap.size wr w') from fun _ => H13.out z wr _ qs HBz.out HW.out)
      have HS := (show Hid (GS w wr (.slice (some ⟨gp, op, none⟩) L.length c) (.int .i64 j) (.slice A2 M.length c2) ∧ wr.ownsRow w.heap.size 37 7 (.slice Ao O.length co) O.length (ndc O)) from ⟨(HZ.out wr HW.out.b).1, (HZ.out wr HW.out.b).2.1⟩)
      clear HG HR HAv H13 HZ HBz HW
      have k0 := HS.out.1.c.c0
      have k1 := HS.out.1.c.c1
      obtain ⟨n0, n1, n2, n3, n4, n5, n6⟩ := HCl.out wr HS.out.1.b
      have z0 : (0 : Int) ≤ (j : Int) := by omega
      have z1 : (j : Int) < (L.length : Int) := by omega
      go_wp2_with fail
      refine (H13b.out ()).mono ?_
      rintro e w4 ⟨⟨v4, rfl, o4⟩, b4⟩
      have HS4 := (show Hid (GS w w4 (.slice (some ⟨gp, op, none⟩) L.length c) (.int .i64 j) (.slice A2 M.length c2) ∧ w4.ownsRow w.heap.size 37 7 (.slice Ao O.length co) O.length (ndc O)) from ⟨HS.out.1.below b4, own_below HS.out.2 b4⟩)
      have HO4 := (show Hid (w4.ownsRow w.heap.size 37 7 v4 O.length (ndc O)) from o4)
      clear H13b HS b4 o4 k0 k1 n0 n1 n2 n3 n4 n5 n6 HCl
      have k0 := HS4.out.1.c.c0
      have k1 := HS4.out.1.c.c1
      go_wp2_with fail
      refine (H14.out _ _ _ HS4.out.1.b HS4.out.2).mono ?_
      rintro e w5 ⟨⟨v5, rfl, o5⟩, b5⟩
      have HS5 := (show Hid (GS w w5 (.slice (some ⟨gp, op, none⟩) L.length c) (.int .i64 j) (.slice A2 M.length c2) ∧ w5.ownsRow w.heap.size 37 7 (.slice Ao O.length co) O.length (ndc O)) from ⟨HS4.out.1.below b5, own_below HS4.out.2 b5⟩)
      have HO5 := (show Hid (w5.ownsRow w.heap.size 37 7 v4 O.length (ndc O) ∧ w5.ownsRow w.heap.size 37 7 v5 L.length (ndc L)) from ⟨own_below HO4.out b5, o5⟩)
      clear H14 HS4 HO4 b5 o5 k0 k1
      have HSm1 := (show Hid (∀ _ : Unit, Calls Try.prog 15 #[v4, .slice Ao O.length co] w5 fun e w' => e = .returned (.bool true) ∧ Below w5.heap.size w5 w') from fun _ => HSm.out w5 _ O v4 Ao co (by omega) HO5.out.1 (row_rd HS5.out.2))
      go_wp2_with fail
      refine (HSm1.out ()).mono ?_
      rintro e w6 ⟨rfl, b6⟩
      have HS6 := (show Hid (GS w w6 (.slice (some ⟨gp, op, none⟩) L.length c) (.int .i64 j) (.slice A2 M.length c2) ∧ w6.ownsRow w.heap.size 37 7 (.slice Ao O.length co) O.length (ndc O)) from ⟨HS5.out.1.below b6, own_below HS5.out.2 b6⟩)
      have HSm2 := (show Hid (∀ _ : Unit, Calls Try.prog 15 #[v5, .slice (some ⟨gp, op, none⟩) L.length c] w6 fun e w' => e = .returned (.bool true) ∧ Below w6.heap.size w6 w') from fun _ => HSm.out w6 _ L v5 _ c (by omega) (own_below HO5.out.2 b6) (HPq.out w6 HS6.out.1.b).1)
      clear HSm1 HS5 HO5 b6
      have k0 := HS6.out.1.c.c0
      go_wp2_with fail
      refine (HSm2.out ()).mono ?_
      rintro e w7 ⟨rfl, b7⟩
      have HS7 := (show Hid (GS w w7 (.slice (some ⟨gp, op, none⟩) L.length c) (.int .i64 j) (.slice A2 M.length c2)) from HS6.out.1.below b7)
      clear HSm2 HS6 b7 k0
      have k0 := HS7.out.c.c0
      have k1 := HS7.out.c.c1
      have k2 := HS7.out.c.c2
      go_wp2_with fail
      refine (H14b.out _ HS7.out.b).mono ?_
      rintro e w8 ⟨⟨Ay, cy, rfl, o8⟩, b8⟩
      have HS8 := (show Hid (GS w w8 (.slice (some ⟨gp, op, none⟩) L.length c) (.int .i64 j) (.slice A2 M.length c2) ∧ w8.ownsRow w.heap.size 37 7 (.slice Ay Y.length cy) Y.length (ndc Y)) from ⟨HS7.out.below b8, o8⟩)
      clear H14b HS7 b8 o8 k0 k1 k2
      by_cases hp0 : pue = 0
      · have t1 : (pue != 0) = false := by rw [hp0]; rfl
        have HP0 := (show Hid (pue = 0) from hp0)
        clear hp0
        have k0 := HS8.out.1.c.c0
        have k1 := HS8.out.1.c.c1
        go_wp2_with fail
        refine (H7.out _ HS8.out.1.b).mono ?_
        rintro e w9 ⟨rfl, b9⟩
        have HS9 := (show Hid (GS w w9 (.slice (some ⟨gp, op, none⟩) L.length c) (.int .i64 j) (.slice A2 M.length c2) ∧ w9.ownsRow w.heap.size 37 7 (.slice Ay Y.length cy) Y.length (ndc Y)) from ⟨HS8.out.1.below b9, own_below HS8.out.2 b9⟩)
        clear H7 HS8 b9 k0 k1
        obtain ⟨y1, y2, y3, y4, c11⟩ := HOt.out Ay cy w9 HS9.out.1.b HP0.out HS9.out.2
        obtain ⟨J, hJ⟩ : ∃ J, J = b + M.length - 1 := ⟨_, rfl⟩
        rw [← hJ] at c11
        have H11 := (show Hid (∀ _ : Unit, Calls Try.prog 11 #[.slice Ay Y.length cy, .int .i64 J] w9 fun e w' => (∃ u, e = .returned (.tuple #[u, .int .i64 0]) ∧ w'.ownsRow w.heap.size 37 7 u M.length (ndc M)) ∧ Below w9.heap.size w9 w') from fun _ => c11)
        have u1 : IntKind.i64.wrap ((b : Int) + (M.length : Int)) = (b : Int) + (M.length : Int) := by rw [IntKind.wrap_i64]; omega
        have u2 : IntKind.i64.wrap ((b : Int) + (M.length : Int) - 1) = (J : Int) := by rw [IntKind.wrap_i64]; omega
        have u3 : IntKind.i64.wrap ((L.length : Int) - (O.length : Int)) = (L.length : Int) - (O.length : Int) := by rw [IntKind.wrap_i64]; omega
        have u4 : IntKind.i64.wrap ((L.length : Int) - (O.length : Int) + (M.length : Int)) = (Y.length : Int) := by rw [IntKind.wrap_i64]; omega
        have y3a : Y.length + O.length ≤ L.length + M.length := by omega
        have y3b : L.length + M.length ≤ Y.length + O.length := by omega
        clear c11 hJ HOt y3
        have k2 := HS9.out.1.c.c2
        go_wp2_with fail
        refine (H11.out ()).mono ?_
        rintro e wa ⟨⟨va, rfl, oa⟩, ba⟩
        have HSa := (show Hid (GS w wa (.slice (some ⟨gp, op, none⟩) L.length c) (.int .i64 j) (.slice A2 M.length c2)) from HS9.out.1.below ba)
        have HSm3 := (show Hid (∀ _ : Unit, Calls Try.prog 15 #[va, .slice A2 M.length c2] wa fun e w' => e = .returned (.bool true) ∧ Below wa.heap.size wa w') from fun _ => HSm.out wa _ M va _ c2 (by omega) oa (HPq.out wa HSa.out.b).2)
        clear H11 HS9 ba oa k2
        have k2 := HSa.out.c.c2
        go_wp2_with fail
        refine (HSm3.out ()).mono ?_
        rintro e wb ⟨rfl, bb⟩
        have HSb := (show Hid (GS w wb (.slice (some ⟨gp, op, none⟩) L.length c) (.int .i64 j) (.slice A2 M.length c2)) from HSa.out.below bb)
        clear HSm3 HSa bb k2
        have k0 := HSb.out.c.c0
        have k2 := HSb.out.c.c2
        go_wp2_with fail
        refine (H8.out _).mono ?_
        rintro e wc ⟨rfl, bc⟩
        have HSc := (show Hid (GS w wc (.slice (some ⟨gp, op, none⟩) L.length c) (.int .i64 j) (.slice A2 M.length c2)) from HSb.out.below bc)
        clear H8 HSb bc k0 k2
        go_wp2_with fail
        go_ret
        exact ⟨rfl, HSc.out.b⟩
      · have t1 : (pue != 0) = true := by rw [bne, beq_eq_false_iff_ne.2 hp0]; rfl
        have hbad := HBad.out hp0
        clear hp0
        have k2 := HS8.out.1.c.c2
        go_wp2_with fail
        refine (H12.out _ HS8.out.1.b).mono ?_
        rintro e w9 ⟨rfl, b9⟩
        have HB9 := (show Hid (Below w.heap.size w w9) from (HS8.out.1.below b9).b)
        clear H12 HS8 b9 k2
        rcases hbad with q | ⟨q, q2⟩ | ⟨q, q2⟩
        · have t2 : ((ck M).2 != 0) = true := by rw [bne, beq_eq_false_iff_ne.2 q]; rfl
          clear q
          go_wp2_with fail
          go_ret
          exact ⟨rfl, HB9.out⟩
        · have t2 : ((ck M).2 != 0) = false := by rw [q]; rfl
          have t3 : (pue == 2) = true := by rw [q2]; rfl
          clear q q2
          go_wp2_with fail
          go_ret
          exact ⟨rfl, HB9.out⟩
        · have t2 : ((ck M).2 != 0) = false := by rw [q]; rfl
          have t3 : (pue == 2) = false := by rw [q2]; rfl
          have t4 : (pue == 4) = true := by rw [q2]; rfl
          clear q q2
          go_wp2_with fail
          go_ret
          exact ⟨rfl, HB9.out⟩
theorem treeAgain_law (A A2 : Option Addr) (c c2 : Nat) (L M : List Nd) (at' : Int) (hl : L.length * 64 ≤ 140737488351232) (hT : ∀ n ∈ L, n.tx.size ≤ 140737488351232) (hcap : L.length ≤ c) (hm : M.length * 64 ≤ 140737488351232) (hU : ∀ n ∈ M, n.tx.size ≤ 140737488351232) (w : World) (h : InP w A c L) (h2 : InP w A2 c2 M) :
    Calls Try.prog 4 #[.agg #[.slice A L.length c, .int .i64 at', .slice A2 M.length c2]] w fun e w' => e = .returned (.bool true) ∧ Below w.heap.size w w' := by
  have hT2 : ∀ n ∈ L, n.tx.size ≤ 140737488355328 := fun n hn => by have := hT n hn; omega
  have hU2 : ∀ n ∈ M, n.tx.size ≤ 140737488355328 := fun n hn => by have := hU n hn; omega
  by_cases h0 : fdE L at' = 0
  · obtain ⟨hr, j, rfl, hj⟩ := fdE_ok h0
    exact again_good A A2 c c2 L M j hcap hT2 (by omega) hU2 w h.1 h2.1 hr hj
  · exact again_none A A2 c c2 L M at' hcap (by omega) hT2 w h.1 h0
end Go.Proofs.Ytfomodpjdaclgab
