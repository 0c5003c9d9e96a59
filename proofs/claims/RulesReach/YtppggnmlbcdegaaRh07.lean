/- RulesReach at every grammar and every rule. -/
import Derived.Test.YtppggnmlbcdegaaRh06
namespace Go.Proofs.Ytppggnmlbcdegaa.N
open Go.RowKit Go.Maps
open Go.Proofs.Ytppggnmlbcdegaa.T

open U (nI own_get own_slice below_grown TT info_split)
theorem drI {W W' : World} (h : Below W.drew.heap.size W.drew W') : Below W.heap.size W W' := (Below.refl _ _).drew.trans h
theorem GoS.later {w wr W : World} {n g : Nat} {l : List Bool} (h : GoS w wr n g l) (hb : Below wr.heap.size wr W) : GoS w W n g l := ⟨h.b.trans (hb.mono h.b.size), U.own_below h.o hb⟩
theorem lk_inH {gs : GL} (hz : (ckG gs).2 = 0) {x : Nat} (hx : x < gs.length) : lkR gs (x : Int) = 0 ∧ clR gs (x : Int) = cL gs x := by
  have h1 : lkR gs (x : Int) = 0 := by
    unfold lkR
    rw [if_neg (fun q => q hz), if_neg (by omega)]
  exact ⟨h1, by unfold clR; rw [if_pos h1]; rfl⟩
theorem lk_ck {gs : GL} {r : Int} (h : lkR gs r = 0) : (ckG gs).2 = 0 := by
  unfold lkR at h
  by_cases h1 : (ckG gs).2 ≠ 0
  · rw [if_pos h1] at h; exact absurd h h1
  · exact Classical.not_not.1 h1
/-- In one group just if each reaches the other. -/
theorem group_both {gs : GL} {r k : Nat} {l b : List Nat} {g : List Nat} {s : Nat} (hr : r < gs.length) (hk : k < gs.length) (hl : IsRh gs r l) (hb : IsRh gs k b) (hs : s < gs.length) (hg : ∀ j, j ∈ g ↔ j < gs.length ∧ Gp gs.length (cG gs) s j) (hrg : r ∈ g) : decide (k ∈ g) = (decide (k ∈ l) && decide (r ∈ b)) := by
  rw [Bool.eq_iff_iff, Bool.and_eq_true, decide_eq_true_eq, decide_eq_true_eq, decide_eq_true_eq, hl.m, hb.m, hg]
  have h1 := ((hg r).1 hrg).2
  constructor
  · rintro ⟨_, h2⟩
    have h3 : Gp gs.length (cG gs) r k := h1.symm.trans hs h2
    rcases h3 with e | e
    · exact ⟨⟨hk, .inl e.symm⟩, hr, .inl e⟩
    · exact ⟨⟨hk, .inr e.1⟩, hr, .inr e.2⟩
  · rintro ⟨⟨_, h2⟩, _, h3⟩
    refine ⟨hk, h1.trans hr ?_⟩
    rcases h2 with e | e
    · exact .inl e.symm
    · rcases h3 with f | f
      · exact .inl f
      · exact .inr ⟨e, f⟩
set_option maxRecDepth 100000 in
set_option maxHeartbeats 32000000 in
theorem reach_law (gs : GL) (A : Option Addr) (c : Nat) (r : Int) (w : World) (hg : GrIn w A c gs) : Calls Try.prog 7 #[.agg #[.slice A gs.length c], .int .i64 r] w fun e w' => e = .returned (.bool true) ∧ Below w.heap.size w w' := by
  obtain ⟨w1, hw1⟩ : ∃ w1, w1 = w.alloc (.cells #[.slice A gs.length c] 24) := ⟨_, rfl⟩
  have HE1 := (show Hid (w.alloc (.cells #[.slice A gs.length c] 24) = w1) from hw1.symm)
  have HB1 : Hid (Below w.heap.size w w1) := by show Below _ _ _; rw [hw1]; exact below_box _ _
  have HX1 : Hid (GX w1 w.heap.size (.slice A gs.length c)) := by show GX _ _ _; rw [hw1]; exact GX.mk (heap_alloc_new w _)
  have HP := (show Hid (GI w A gs) from hg.gi)
  have HA1 : Hid (∀ (x : Int) W, Below w.heap.size w W → Calls Try.prog 20 #[.agg #[.slice A gs.length c], .int .i64 x] W fun e w'' => (∃ v l, e = .returned (.tuple #[v, .int .i64 (lkR gs x)]) ∧ RhR gs x l ∧ w''.ownsRow W.heap.size 3 1 v l.length (l.map nI)) ∧ Below W.heap.size W w'') := fun x W h => reachP_any gs A c x W (HP.out.later h)
  have HA2 : Hid (∀ (x : Int) W, Below w.heap.size w W → Calls Try.prog 18 #[.agg #[.slice A gs.length c], .int .i64 x] W fun e w' => (∃ v, e = .returned (.tuple #[v, .int .i64 (lkR gs x)]) ∧ w'.ownsRow W.heap.size 3 1 v (clR gs x).length ((clR gs x).map nI)) ∧ Below W.heap.size W w') := fun x W h => callsP_any gs A c x W (HP.out.later h)
  have HA3 : Hid (∀ W, Below w.heap.size w W → Calls Try.prog 23 #[.agg #[.slice A gs.length c]] W fun e w'' => (∃ v xs out, e = .returned (.tuple #[v, .int .i64 (ckG gs).2]) ∧ GpR gs out ∧ TT w'' W.heap.size 37 3 v (nM out) xs) ∧ Below W.heap.size W w'') := fun W h => groupsP_any gs A c W (HP.out.later h)
  have HWk := (show Hid (∀ W, Calls Try.prog 12 #[] W fun e w' => e = .returned (.bool true) ∧ Below W.heap.size W w') from lives_any)
  have q1 := HX1.out.cl
  clear hg hw1 HP
  go_enter Try.func7, Try.ntmps7
  go_wp2_with (rw [HE1.out])
  refine (HA1.out r _ HB1.out).mono ?_
  rintro e wM ⟨⟨vl, l, rfl, hrl, hol⟩, b2⟩
  have HB := (show Hid (Below w.heap.size w wM) from HB1.out.trans (b2.mono HB1.out.size))
  have HX := (show Hid (GX wM w.heap.size (.slice A gs.length c)) from HX1.out.below b2)
  obtain ⟨Al, cl0, rfl⟩ := own_slice hol
  have HOl := (show Hid (wM.ownsRow w1.heap.size 3 1 (.slice Al l.length cl0) l.length (l.map nI)) from hol)
  have q2 := HX.out.cl
  clear q1 HB1 HX1 HE1 b2 hol
  by_cases hz : lkR gs r = 0
  · have tz : (lkR gs r != 0) = false := by rw [hz]; rfl
    obtain ⟨hR, r0, r1⟩ := lkR_zero hz
    have hck := lk_ck hz
    have hn := hR.n2
    obtain ⟨rn, rfl⟩ : ∃ rn : Nat, r = (rn : Int) := ⟨r.toNat, by omega⟩
    have hrn : rn < gs.length := by omega
    have hIs : IsRh gs rn l := hrl.1 hz
    have hll : l.length ≤ 200 := by have := hIs.len; omega
    have HIs := (show Hid (IsRh gs rn l ∧ rn < gs.length) from ⟨hIs, hrn⟩)
    have HLt := (show Hid (∀ (i x : Nat), l[i]? = some x → x < gs.length) from fun i x hx => ((hIs.m x).1 (List.mem_of_getElem? hx)).1)
    have HCa := (show Hid (∀ (x : Nat) W, x < gs.length → Below w.heap.size w W → Calls Try.prog 18 #[.agg #[.slice A gs.length c], .int .i64 (x : Int)] W fun e w' => (∃ v, e = .returned (.tuple #[v, .int .i64 0]) ∧ w'.ownsRow W.heap.size 3 1 v (cL gs x).length ((cL gs x).map nI)) ∧ Below W.heap.size W w') from fun x W hx hW => by
      have h := HA2.out (x : Int) W hW
      rw [(lk_inH hck hx).1, (lk_inH hck hx).2] at h
      exact h)
    have HRe := (show Hid (∀ (x : Nat) W, x < gs.length → Below w.heap.size w W → Calls Try.prog 20 #[.agg #[.slice A gs.length c], .int .i64 (x : Int)] W fun e w' => (∃ v l2, e = .returned (.tuple #[v, .int .i64 0]) ∧ IsRh gs x l2 ∧ w'.ownsRow W.heap.size 3 1 v l2.length (l2.map nI)) ∧ Below W.heap.size W w') from fun x W hx hW => by
      have h := HA1.out (x : Int) W hW
      rw [(lk_inH hck hx).1] at h
      refine h.mono ?_
      rintro e w' ⟨⟨v, l2, h1, h2, h3⟩, h4⟩
      exact ⟨⟨v, l2, h1, h2.1 (lk_inH hck hx).1, h3⟩, h4⟩)
    have HGr := (show Hid (∀ W, Below w.heap.size w W → Calls Try.prog 23 #[.agg #[.slice A gs.length c]] W fun e w'' => (∃ v xs out, e = .returned (.tuple #[v, .int .i64 0]) ∧ (GpR gs out ∧ GsJ gs.length (cG gs) out ∧ out.length ≤ 200 ∧ ∀ g ∈ out, g.length ≤ 200) ∧ TT w'' W.heap.size 37 3 v (nM out) xs) ∧ Below W.heap.size W w'') from fun W hW => by
      have h := HA3.out W hW
      rw [hck] at h
      refine h.mono ?_
      rintro e w' ⟨⟨v, xs, out, h1, h2, h3⟩, h4⟩
      obtain ⟨told, g1, _⟩ := gpR_all h2 hck
      have g2 := gsI_len g1
      have g3 := gsI_few g1
      refine ⟨⟨v, xs, out, h1, ⟨h2, ?_, by omega, fun g hg => by have := (gsI_row g1 hg).1; omega⟩, h3⟩, h4⟩
      obtain ⟨R, r1, r2⟩ := h2.1 hck
      rw [r2]
      exact gsG_j r1 _ _ _ (GsI.nil _ _) (GsJ.nil _ _))
    obtain ⟨w5, hmk, ho5, hg5⟩ := make_bools wM wM.heap.size gs.length (Nat.le_refl _) hn
    have HS := (show Hid (GoS wM w5 gs.length wM.heap.size (List.replicate gs.length false)) from ⟨below_grown (Below.refl _ _) hg5 (fun j e => by cases e), by rw [List.map_replicate]; exact ho5⟩)
    have HC0 := (show Hid (ClI gs l 0 0 (List.replicate gs.length false)) from ClI.start gs l)
    clear hz hrl hIs hck hR ho5 hg5 HA1 HA2 HA3 r0 r1
    generalize lkR gs (rn : Int) = cd at *
    go_wp2_with fail
    clear hmk q2
    go_loopw [10] (fun t wr => ∃ (i : Nat) (cl : List Bool), i ≤ l.length ∧ t = .int .i64 (i : Int) ∧ Hid (ClI gs l i 0 cl) ∧ Hid (GoS wM wr gs.length wM.heap.size cl)) (fun t _ => l.length - (intOf t).toNat)
    case atStart => exact ⟨0, _, by omega, by go_num, HC0, HS⟩
    case round =>
      obtain ⟨i, cl, hi, rfl, HC, HW⟩ := hrel
      clear HS HC0
      by_cases hil : i < l.length
      · obtain ⟨x, hx⟩ : ∃ x, l[i]? = some x := ⟨_, List.getElem?_eq_getElem hil⟩
        have hxn := HLt.out i x hx
        obtain ⟨gl, rfl, y1⟩ := row_at HOl.out HW.out.b hx
        have q3 := (HX.out.below HW.out.b).cl
        have HBw := (show Hid (Below w.heap.size w wr) from HB.out.trans (HW.out.b.mono HB.out.size))
        have HKe := (show Hid (∀ W, Below wr.heap.size wr W → W.cell? ⟨w.heap.size, 0, none⟩ = some (.slice A gs.length c) ∧ W.cell? ⟨gl, i, none⟩ = some (.int .i64 (x : Int))) from fun W hW => ⟨((HX.out.below HW.out.b).below hW).cl, (hW.cell (p := ⟨gl, i, none⟩) (World.block_lt_of_cell? wr _ y1)).trans y1⟩)
        have HC1 := (show Hid (∀ _ : Unit, Calls Try.prog 18 #[.agg #[.slice A gs.length c], .int .i64 (x : Int)] wr.drew fun e w' => (∃ v, e = .returned (.tuple #[v, .int .i64 0]) ∧ w'.ownsRow wr.drew.heap.size 3 1 v (cL gs x).length ((cL gs x).map nI)) ∧ Below wr.drew.heap.size wr.drew w') from fun _ => HCa.out x wr.drew hxn HBw.out.drew)
        have v0 : (0 : Int) ≤ (i : Int) := by omega
        have v1 : (i : Int) < (l.length : Int) := by omega
        have HXi := (show Hid (l[i]? = some x ∧ x < gs.length) from ⟨hx, hxn⟩)
        clear hx hxn
        go_wp2_with fail
        go_region_held3 (fun W => W.cell? ⟨w.heap.size, 0, none⟩ = some (.slice A gs.length c) ∧ W.cell? ⟨gl, i, none⟩ = some (.int .i64 (x : Int))) (first | go_keep | exact HKe.out _ (drI b5)) ((go_at_call 18; with_reducible refine (HC1.out ()).mono ?_; rintro e w6 ⟨⟨v6, rfl, ho6⟩, b5⟩))
        rename_i hHeld
        obtain ⟨A6, c6, rfl⟩ := own_slice ho6
        have HW6 := (show Hid (GoS wM w6 gs.length wM.heap.size cl) from HW.out.later (drI b5))
        have HO6 := (show Hid (w6.ownsRow wr.drew.heap.size 3 1 (.slice A6 (cL gs x).length c6) (cL gs x).length ((cL gs x).map nI)) from ho6)
        generalize wr.drew.heap.size = bR at HO6
        have k0 := hHeld.1
        have k1 := hHeld.2
        have hcl := cL_len gs x
        have n1 : ¬ (x : Int) < 0 := by omega
        have n2 : ¬ (gs.length : Int) ≤ (x : Int) := by have := HXi.out.2; omega
        have n3 : ¬ gs.length ≤ x := by have := HXi.out.2; omega
        have d1 : decide ((x : Int) < 0) = false := decide_eq_false n1
        have d2 : decide ((gs.length : Int) ≤ (x : Int)) = false := decide_eq_false n2
        have d3 : decide (gs.length ≤ x) = false := decide_eq_false n3
        clear n1 n2 n3
        have HIn := (show Hid (∀ (ws : World) (cl2 : List Bool), GoS wM ws gs.length wM.heap.size cl2 → ∀ (k y : Nat), (cL gs x)[k]? = some y → y ∈ l ∧ y < gs.length) from fun ws cl2 _ k y hy => by
          have h1 := cL_mem.1 (List.mem_of_getElem? hy)
          refine ⟨(HIs.out.1.m y).2 ⟨h1.1, .inr ?_⟩, h1.1⟩
          rcases ((HIs.out.1.m x).1 (List.mem_of_getElem? HXi.out.1)).2 with e | e
          · rw [← e]; exact Rc.of h1.2
          · exact Rc.trans HXi.out.2 e (Rc.of h1.2))
        have HHl := (show Hid (∀ (z : Nat) W, Below wM.heap.size wM W → Calls Try.prog 32 #[.slice (some ⟨gl, 0, none⟩) l.length cl0, .int .i64 (z : Int)] W fun e w' => e = .returned (.bool (decide (z ∈ l))) ∧ w' = W) from fun z W hW => has_any l z (by omega) W (U.own_below HOl.out hW))
        have HLd := (show Hid (∀ W, Below wM.heap.size wM W → W.cell? ⟨gl, i, none⟩ = some (.int .i64 (x : Int))) from fun W hW => by
          obtain ⟨g', e, h⟩ := row_at HOl.out hW HXi.out.1
          have e : gl = g' := by injection e with e; injection e
          subst e
          exact h)
        have HFin := (show Hid (∀ cl2, ClI gs l i (cL gs x).length cl2 → ClI gs l (i + 1) 0 cl2) from fun cl2 h => h.next HXi.out.1)
        have HSet := (show Hid (∀ (k y : Nat) cl2, ClI gs l i k cl2 → (cL gs x)[k]? = some y → (y = x → ClI gs l i (k + 1) cl2) ∧ (y ≠ x → ClI gs l i (k + 1) (cl2.set y true))) from fun k y cl2 h hy => ⟨fun e => by subst e; exact h.same HXi.out.1 hy, fun e => h.set HXi.out.1 hy e⟩)
        have HPr := (show Hid (∀ i', i = i' + 1 → ∃ xp : Nat, xp < x ∧ w6.cell? ⟨gl, i', none⟩ = some (.int .i64 (xp : Int))) from fun i' e => by
          have hi' : i' < l.length := by omega
          obtain ⟨g', e2, h⟩ := row_at HOl.out HW6.out.b (List.getElem?_eq_getElem hi')
          have e2 : gl = g' := by injection e2 with e2; injection e2
          subst e2
          refine ⟨l[i'], ?_, h⟩
          have h1 := List.pairwise_iff_getElem.1 HIs.out.1.u i' i hi' hil (by omega)
          rw [(List.getElem?_eq_some_iff.1 HXi.out.1).2] at h1
          exact h1)
        clear hHeld ho6 b5 HKe HC1 y1 q3 HBw HW HCa HRe HGr HWk HLt HXi HOl HX HB
        cases i with
        | zero =>
          clear HPr
          rw [show ((0 : Nat) : Int) = 0 from rfl]
          go_wp2_with fail
          go_big_quiet (fail)
          have HW7 := (show Hid (GoS wM (w6.drewN nq) gs.length wM.heap.size cl ∧ (w6.drewN nq).ownsRow bR 3 1 (.slice A6 (cL gs x).length c6) (cL gs x).length ((cL gs x).map nI)) from ⟨HW6.out.later (below_drewN (Below.refl _ _) nq), U.own_below HO6.out (below_drewN (Below.refl _ _) nq)⟩)
          generalize w6.drewN nq = w7 at *
          clear HW6 HO6 k0 k1
          go_wp2_with fail
          go_loopw [13] (fun t ws => ∃ (k : Nat) (cl2 : List Bool), k ≤ (cL gs x).length ∧ t = .int .i64 (k : Int) ∧ Hid (ClI gs l 0 k cl2) ∧ Hid (GoS wM ws gs.length wM.heap.size cl2 ∧ ws.ownsRow bR 3 1 (.slice A6 (cL gs x).length c6) (cL gs x).length ((cL gs x).map nI))) (fun t _ => (cL gs x).length - (intOf t).toNat)
          case atStart => exact ⟨0, cl, by omega, by go_num, HC, HW7⟩
          case round =>
            obtain ⟨k, cl2, hk, rfl, HC2, HW⟩ := hrel
            clear HW7 HC
            by_cases hkl : k < (cL gs x).length
            · obtain ⟨y, hy⟩ : ∃ y, (cL gs x)[k]? = some y := ⟨_, List.getElem?_eq_getElem hkl⟩
              obtain ⟨hyl, hyn⟩ := HIn.out wr cl2 HW.out.1 k y hy
              obtain ⟨g6, rfl, y2⟩ := row_at HW.out.2 (Below.refl _ _) hy
              have y3 := HLd.out wr HW.out.1.b
              obtain ⟨st1, st2⟩ := HSet.out k y cl2 HC2.out hy
              have HD1 := (show Hid (∀ _ : Unit, Calls Try.prog 32 #[.slice (some ⟨gl, 0, none⟩) l.length cl0, .int .i64 (y : Int)] wr fun e w' => e = .returned (.bool true) ∧ w' = wr) from fun _ => by have h := HHl.out y wr HW.out.1.b; rw [decide_eq_true hyl] at h; exact h)
              have u0 : (0 : Int) ≤ (k : Int) := by omega
              have u1 : (k : Int) < ((cL gs x).length : Int) := by omega
              have u2 : (0 : Int) ≤ (y : Int) := by omega
              have u3 : (y : Int) < (gs.length : Int) := by omega
              by_cases e : y = x
              · have te : ((y : Int) != (x : Int)) = false := by rw [bne, beq_iff_eq.2 (show (y : Int) = (x : Int) by omega)]; rfl
                have HC3 := (show Hid _ from st1 e)
                clear st1 st2 e hy hyl hyn HIn HHl HLd HSet HC2 HFin
                go_wp2_with fail
                refine (HD1.out ()).mono ?_
                rintro e wt ⟨rfl, rfl⟩
                clear HD1
                go_wp2_with fail
                go_big_quiet (fail)
                have HW8 := (show Hid (GoS wM (wt.drewN nq) gs.length wM.heap.size cl2 ∧ (wt.drewN nq).ownsRow bR 3 1 (.slice (some ⟨g6, 0, none⟩) (cL gs x).length c6) (cL gs x).length ((cL gs x).map nI)) from ⟨HW.out.1.later (below_drewN (Below.refl _ _) nq), U.own_below HW.out.2 (below_drewN (Below.refl _ _) nq)⟩)
                generalize wt.drewN nq = w8 at *
                clear HW y2 y3
                go_wp2_with fail
                go_roundw
                case rel => exact ⟨k + 1, cl2, by omega, by go_num, HC3, HW8⟩
                case measure => simp [intOf]; omega
              · have te : ((y : Int) != (x : Int)) = true := by rw [bne, beq_eq_false_iff_ne.2 (show ¬ (y : Int) = (x : Int) by omega)]; rfl
                have HC3 := (show Hid _ from st2 e)
                have HLc := (show Hid (cl2.length = gs.length) from HC2.out.1)
                have HYn := (show Hid (y < gs.length) from hyn)
                clear st1 st2 hy hyl hyn HIn HHl HLd HSet HC2 HFin e
                go_wp2_with fail
                refine (HD1.out ()).mono ?_
                rintro e wt ⟨rfl, rfl⟩
                clear HD1
                go_wp2_with fail
                go_big_quiet (fail)
                have HW8 := (show Hid (GoS wM (wt.drewN nq) gs.length wM.heap.size cl2 ∧ (wt.drewN nq).ownsRow bR 3 1 (.slice (some ⟨g6, 0, none⟩) (cL gs x).length c6) (cL gs x).length ((cL gs x).map nI) ∧ (wt.drewN nq).cell? ⟨g6, k, none⟩ = some (.int .i64 (y : Int))) from ⟨HW.out.1.later (below_drewN (Below.refl _ _) nq), U.own_below HW.out.2 (below_drewN (Below.refl _ _) nq), ((below_drewN (Below.refl _ _) nq).cell (p := ⟨g6, k, none⟩) (World.block_lt_of_cell? wt _ y2)).trans y2⟩)
                generalize wt.drewN nq = w8 at *
                clear HW y2 y3
                have y2 := HW8.out.2.2
                obtain ⟨gm, cm, em, _, _, xm, fm⟩ := own_get HW8.out.1.o (j := y) (x := .bool ((cl2[y]?).getD false)) (by rw [List.getElem?_map, List.getElem?_eq_getElem (by have := HLc.out; have := HYn.out; omega)]; rfl)
                have emg : wM.heap.size = gm := by injection em with e1; injection e1 with e1; injection e1
                clear em
                subst emg
                have HW9 := (show Hid (GoS wM (w8.setCell ⟨wM.heap.size, y, none⟩ (.bool true)) gs.length wM.heap.size (cl2.set y true) ∧ (w8.setCell ⟨wM.heap.size, y, none⟩ (.bool true)).ownsRow bR 3 1 (.slice (some ⟨g6, 0, none⟩) (cL gs x).length c6) (cL gs x).length ((cL gs x).map nI)) from ⟨HW8.out.1.set y true, U.own_kept HW8.out.2.1 (HW8.out.1.o.stored y (.bool true)).2 (fun j e => by cases e; exact own_apart HW8.out.1.o HW8.out.2.1 (by decide) rfl)⟩)
                clear HW8 HLc HYn
                go_wp2_with fail
                go_roundw
                case rel => exact ⟨k + 1, cl2.set y true, by omega, by go_num, HC3, HW9⟩
                case measure => simp [intOf]; omega
            · obtain rfl : k = (cL gs x).length := by omega
              have HC3 := (show Hid _ from HFin.out cl2 HC2.out)
              have HWo := (show Hid (GoS wM wr gs.length wM.heap.size cl2) from HW.out.1)
              clear HW HC2 HFin HIn HHl HLd HSet
              go_wp2_with fail
              go_roundw
              case rel => exact ⟨0 + 1, cl2, by omega, by go_num, HC3, HWo⟩
              case measure => simp [intOf]; omega
        | succ i' =>
          obtain ⟨xp, hxp, k2⟩ := HPr.out i' rfl
          have n4 : ¬ (x : Int) ≤ (xp : Int) := by omega
          have n5 : ¬ x ≤ xp := by omega
          have n6 : (0 : Int) ≤ (i' : Int) := by omega
          have n7 : (i' : Int) < (l.length : Int) := by omega
          have n8 : (0 : Int) < ((i' + 1 : Nat) : Int) := by omega
          have d4 : decide ((x : Int) ≤ (xp : Int)) = false := decide_eq_false n4
          have d5 : decide (x ≤ xp) = false := decide_eq_false n5
          clear n4 n5
          clear HPr
          rw [show ((i' + 1 : Nat) : Int) = (i' : Int) + 1 by omega]
          go_wp2_with fail
          go_big_quiet (fail)
          have HW7 := (show Hid (GoS wM (w6.drewN nq) gs.length wM.heap.size cl ∧ (w6.drewN nq).ownsRow bR 3 1 (.slice A6 (cL gs x).length c6) (cL gs x).length ((cL gs x).map nI)) from ⟨HW6.out.later (below_drewN (Below.refl _ _) nq), U.own_below HO6.out (below_drewN (Below.refl _ _) nq)⟩)
          generalize w6.drewN nq = w7 at *
          clear HW6 HO6 k0 k1 k2
          go_wp2_with fail
          go_loopw [13] (fun t ws => ∃ (k : Nat) (cl2 : List Bool), k ≤ (cL gs x).length ∧ t = .int .i64 (k : Int) ∧ Hid (ClI gs l (i' + 1) k cl2) ∧ Hid (GoS wM ws gs.length wM.heap.size cl2 ∧ ws.ownsRow bR 3 1 (.slice A6 (cL gs x).length c6) (cL gs x).length ((cL gs x).map nI))) (fun t _ => (cL gs x).length - (intOf t).toNat)
          case atStart => exact ⟨0, cl, by omega, by go_num, HC, HW7⟩
          case round =>
            obtain ⟨k, cl2, hk, rfl, HC2, HW⟩ := hrel
            clear HW7 HC
            by_cases hkl : k < (cL gs x).length
            · obtain ⟨y, hy⟩ : ∃ y, (cL gs x)[k]? = some y := ⟨_, List.getElem?_eq_getElem hkl⟩
              obtain ⟨hyl, hyn⟩ := HIn.out wr cl2 HW.out.1 k y hy
              obtain ⟨g6, rfl, y2⟩ := row_at HW.out.2 (Below.refl _ _) hy
              have y3 := HLd.out wr HW.out.1.b
              obtain ⟨st1, st2⟩ := HSet.out k y cl2 HC2.out hy
              have HD1 := (show Hid (∀ _ : Unit, Calls Try.prog 32 #[.slice (some ⟨gl, 0, none⟩) l.length cl0, .int .i64 (y : Int)] wr fun e w' => e = .returned (.bool true) ∧ w' = wr) from fun _ => by have h := HHl.out y wr HW.out.1.b; rw [decide_eq_true hyl] at h; exact h)
              have u0 : (0 : Int) ≤ (k : Int) := by omega
              have u1 : (k : Int) < ((cL gs x).length : Int) := by omega
              have u2 : (0 : Int) ≤ (y : Int) := by omega
              have u3 : (y : Int) < (gs.length : Int) := by omega
              by_cases e : y = x
              · have te : ((y : Int) != (x : Int)) = false := by rw [bne, beq_iff_eq.2 (show (y : Int) = (x : Int) by omega)]; rfl
                have HC3 := (show Hid _ from st1 e)
                clear st1 st2 e hy hyl hyn HIn HHl HLd HSet HC2 HFin
                go_wp2_with fail
                refine (HD1.out ()).mono ?_
                rintro e wt ⟨rfl, rfl⟩
                clear HD1
                go_wp2_with fail
                go_big_quiet (fail)
                have HW8 := (show Hid (GoS wM (wt.drewN nq) gs.length wM.heap.size cl2 ∧ (wt.drewN nq).ownsRow bR 3 1 (.slice (some ⟨g6, 0, none⟩) (cL gs x).length c6) (cL gs x).length ((cL gs x).map nI)) from ⟨HW.out.1.later (below_drewN (Below.refl _ _) nq), U.own_below HW.out.2 (below_drewN (Below.refl _ _) nq)⟩)
                generalize wt.drewN nq = w8 at *
                clear HW y2 y3
                go_wp2_with fail
                go_roundw
                case rel => exact ⟨k + 1, cl2, by omega, by go_num, HC3, HW8⟩
                case measure => simp [intOf]; omega
              · have te : ((y : Int) != (x : Int)) = true := by rw [bne, beq_eq_false_iff_ne.2 (show ¬ (y : Int) = (x : Int) by omega)]; rfl
                have HC3 := (show Hid _ from st2 e)
                have HLc := (show Hid (cl2.length = gs.length) from HC2.out.1)
                have HYn := (show Hid (y < gs.length) from hyn)
                clear st1 st2 hy hyl hyn HIn HHl HLd HSet HC2 HFin e
                go_wp2_with fail
                refine (HD1.out ()).mono ?_
                rintro e wt ⟨rfl, rfl⟩
                clear HD1
                go_wp2_with fail
                go_big_quiet (fail)
                have HW8 := (show Hid (GoS wM (wt.drewN nq) gs.length wM.heap.size cl2 ∧ (wt.drewN nq).ownsRow bR 3 1 (.slice (some ⟨g6, 0, none⟩) (cL gs x).length c6) (cL gs x).length ((cL gs x).map nI) ∧ (wt.drewN nq).cell? ⟨g6, k, none⟩ = some (.int .i64 (y : Int))) from ⟨HW.out.1.later (below_drewN (Below.refl _ _) nq), U.own_below HW.out.2 (below_drewN (Below.refl _ _) nq), ((below_drewN (Below.refl _ _) nq).cell (p := ⟨g6, k, none⟩) (World.block_lt_of_cell? wt _ y2)).trans y2⟩)
                generalize wt.drewN nq = w8 at *
                clear HW y2 y3
                have y2 := HW8.out.2.2
                obtain ⟨gm, cm, em, _, _, xm, fm⟩ := own_get HW8.out.1.o (j := y) (x := .bool ((cl2[y]?).getD false)) (by rw [List.getElem?_map, List.getElem?_eq_getElem (by have := HLc.out; have := HYn.out; omega)]; rfl)
                have emg : wM.heap.size = gm := by injection em with e1; injection e1 with e1; injection e1
                clear em
                subst emg
                have HW9 := (show Hid (GoS wM (w8.setCell ⟨wM.heap.size, y, none⟩ (.bool true)) gs.length wM.heap.size (cl2.set y true) ∧ (w8.setCell ⟨wM.heap.size, y, none⟩ (.bool true)).ownsRow bR 3 1 (.slice (some ⟨g6, 0, none⟩) (cL gs x).length c6) (cL gs x).length ((cL gs x).map nI)) from ⟨HW8.out.1.set y true, U.own_kept HW8.out.2.1 (HW8.out.1.o.stored y (.bool true)).2 (fun j e => by cases e; exact own_apart HW8.out.1.o HW8.out.2.1 (by decide) rfl)⟩)
                clear HW8 HLc HYn
                go_wp2_with fail
                go_roundw
                case rel => exact ⟨k + 1, cl2.set y true, by omega, by go_num, HC3, HW9⟩
                case measure => simp [intOf]; omega
            · obtain rfl : k = (cL gs x).length := by omega
              have HC3 := (show Hid _ from HFin.out cl2 HC2.out)
              have HWo := (show Hid (GoS wM wr gs.length wM.heap.size cl2) from HW.out.1)
              clear HW HC2 HFin HIn HHl HLd HSet
              go_wp2_with fail
              go_roundw
              case rel => exact ⟨(i' + 1) + 1, cl2, by omega, by go_num, HC3, HWo⟩
              case measure => simp [intOf]; omega
      · obtain rfl : i = l.length := by omega
        have HCl := (show Hid (∀ y, y ∈ l → y ≠ rn → cl[y]? = some true) from fun y hy hne => reach_last HIs.out.2 HIs.out.1 HC.out hy hne)
        have HBw := (show Hid (Below w.heap.size w wr) from HB.out.trans (HW.out.b.mono HB.out.size))
        have HXw := (show Hid (GX wr w.heap.size (.slice A gs.length c)) from HX.out.below HW.out.b)
        have HOw := (show Hid (wr.ownsRow w1.heap.size 3 1 (.slice Al l.length cl0) l.length (l.map nI)) from U.own_below HOl.out HW.out.b)
        obtain ⟨wC, hwC⟩ : ∃ wC, wC = wr := ⟨_, rfl⟩
        subst hwC
        clear HC HCa HX HB HOl
        go_wp2_with fail
        go_loopw [14] (fun t ws => ∃ i : Nat, i ≤ l.length ∧ t = .int .i64 (i : Int) ∧ ws = wC) (fun t _ => l.length - (intOf t).toNat)
        case atStart => exact ⟨0, by omega, by go_num, rfl⟩
        case round =>
          obtain ⟨i, hi, rfl, hwC⟩ := hrel
          subst hwC
          by_cases hil : i < l.length
          · obtain ⟨y, hy⟩ : ∃ y, l[i]? = some y := ⟨_, List.getElem?_eq_getElem hil⟩
            have hyn := HLt.out i y hy
            obtain ⟨gl, rfl, y1⟩ := row_at HOw.out (Below.refl _ _) hy
            have v0 : (0 : Int) ≤ (i : Int) := by omega
            have v1 : (i : Int) < (l.length : Int) := by omega
            by_cases e : y = rn
            · have te : ((y : Int) != (rn : Int)) = false := by rw [bne, beq_iff_eq.2 (show (y : Int) = (rn : Int) by omega)]; rfl
              clear hy hyn e HCl HRe HGr HWk HLt HIs
              go_wp2_with fail
              go_roundw
              case rel => exact ⟨i + 1, by omega, by go_num, by first | rfl | trivial⟩
              case measure => simp [intOf]; omega
            · have te : ((y : Int) != (rn : Int)) = true := by rw [bne, beq_eq_false_iff_ne.2 (show ¬ (y : Int) = (rn : Int) by omega)]; rfl
              obtain ⟨gm, emg, xm⟩ := row_b HW.out.o (Below.refl _ _) (HCl.out y (List.mem_of_getElem? hy) e)
              have emg2 : wM.heap.size = gm := by injection emg with e1; injection e1
              clear emg
              subst emg2
              have u2 : (0 : Int) ≤ (y : Int) := by omega
              have u3 : (y : Int) < (gs.length : Int) := by omega
              clear hy hyn e HCl HRe HGr HWk HLt HIs
              go_wp2_with fail
              go_roundw
              case rel => exact ⟨i + 1, by omega, by go_num, by first | rfl | trivial⟩
              case measure => simp [intOf]; omega
          · obtain rfl : i = l.length := by omega
            have q3 := HXw.out.cl
            clear HCl HLt HW
            go_wp2_with fail
            refine (HGr.out _ HBw.out).mono ?_
            rintro e wP ⟨⟨va, xa, out, rfl, ⟨_, hgJ, hol, hgl⟩, hta⟩, bP⟩
            have HBP := (show Hid (Below w.heap.size w wP) from HBw.out.trans (bP.mono HBw.out.size))
            have HXP := (show Hid (GX wP w.heap.size (.slice A gs.length c)) from HXw.out.below bP)
            have HOP := (show Hid (wP.ownsRow w1.heap.size 3 1 (.slice Al l.length cl0) l.length (l.map nI)) from U.own_below HOw.out bP)
            have hxl : xa.length = out.length := hta.len.trans (nM_len out)
            obtain ⟨Aa, ca, ea⟩ := own_slice hta.o
            rw [hxl] at ea
            subst ea
            have HTa := (show Hid (TT wP wr.heap.size 37 3 (.slice Aa out.length ca) (nM out) xa) from hta)
            have HGJ := (show Hid (GsJ gs.length (cG gs) out ∧ ∀ g ∈ out, g.length ≤ 200) from ⟨hgJ, hgl⟩)
            have HHl := (show Hid (∀ (z : Nat) W, Below wP.heap.size wP W → Calls Try.prog 32 #[.slice Al l.length cl0, .int .i64 (z : Int)] W fun e w' => e = .returned (.bool (decide (z ∈ l))) ∧ w' = W) from fun z W hW => has_any l z (by omega) W (U.own_below HOP.out hW))
            have HD1 := (show Hid (∀ _ : Unit, Calls Try.prog 32 #[.slice Al l.length cl0, .int .i64 (rn : Int)] wP fun e w' => e = .returned (.bool true) ∧ w' = wP) from fun _ => by
              have h := HHl.out rn wP (Below.refl _ _)
              rw [decide_eq_true ((HIs.out.1.m rn).2 ⟨HIs.out.2, .inl rfl⟩)] at h
              exact h)
            clear HGr bP hta hxl hgJ hgl HBw HXw HOw HOP q3
            go_wp2_with fail
            refine (HD1.out ()).mono ?_
            rintro e wP2 ⟨rfl, rfl⟩
            clear HD1
            go_wp2_with fail
            obtain ⟨wQ, hwQ⟩ : ∃ wQ, wQ = wP2 := ⟨_, rfl⟩
            subst hwQ
            go_loopw [17] (fun t ws => ∃ i : Nat, i ≤ out.length ∧ t = .int .i64 (i : Int) ∧ Hid (Below wQ.heap.size wQ ws)) (fun t _ => out.length - (intOf t).toNat)
            case atStart => exact ⟨0, by omega, by go_num, Below.refl _ _⟩
            case round =>
              obtain ⟨i, hi, rfl, HBi⟩ := hrel
              by_cases hil : i < out.length
              · obtain ⟨gp, hgp⟩ : ∃ gp, out[i]? = some gp := ⟨_, List.getElem?_eq_getElem hil⟩
                have hgpl := HGJ.out.2 gp (List.mem_of_getElem? hgp)
                obtain ⟨s, hs, hsg⟩ := (HGJ.out.1 i gp hgp).1
                have HSg := (show Hid (s < gs.length ∧ ∀ j, j ∈ gp ↔ j < gs.length ∧ Gp gs.length (cG gs) s j) from ⟨hs, hsg⟩)
                have HGp := (show Hid (out[i]? = some gp) from hgp)
                have v0 : (0 : Int) ≤ (i : Int) := by omega
                have v1 : (i : Int) < (out.length : Int) := by omega
                clear hs hsg hgp
                obtain ⟨wT, hwT⟩ : ∃ wT, wT = wr := ⟨_, rfl⟩
                subst hwT
                go_wp2_with fail
                go_loopw [18] (fun t ws => ∃ k : Nat, k ≤ gs.length ∧ t = .int .i64 (k : Int) ∧ Hid (Below wQ.heap.size wQ ws)) (fun t _ => gs.length - (intOf t).toNat)
                case atStart => exact ⟨0, by omega, by go_num, HBi⟩
                case round =>
                  obtain ⟨k, hk, rfl, HBk⟩ := hrel
                  obtain ⟨g0, A3, c3, rfl, y1, ho3⟩ := tab_at HTa.out HBk.out HGp.out
                  have q3 := (HXP.out.below HBk.out).cl
                  have HHg := (show Hid (∀ (z : Nat) W, Below wr.heap.size wr W → Calls Try.prog 32 #[.slice A3 gp.length c3, .int .i64 (z : Int)] W fun e w' => e = .returned (.bool (decide (z ∈ gp))) ∧ w' = W) from fun z W hW => has_any gp z (by omega) W (U.own_below ho3 hW))
                  by_cases hrg : rn ∈ gp
                  · have HD1 := (show Hid (∀ _ : Unit, Calls Try.prog 32 #[.slice A3 gp.length c3, .int .i64 (rn : Int)] wr fun e w' => e = .returned (.bool true) ∧ w' = wr) from fun _ => by have h := HHg.out rn wr (Below.refl _ _); rw [decide_eq_true hrg] at h; exact h)
                    by_cases hkl : k < gs.length
                    · have u1 : (k : Int) < (gs.length : Int) := by omega
                      have HR1 := (show Hid (∀ _ : Unit, Calls Try.prog 20 #[.agg #[.slice A gs.length c], .int .i64 (k : Int)] wr fun e w' => (∃ v l2, e = .returned (.tuple #[v, .int .i64 0]) ∧ IsRh gs k l2 ∧ w'.ownsRow wr.heap.size 3 1 v l2.length (l2.map nI)) ∧ Below wr.heap.size wr w') from fun _ => HRe.out k wr hkl (HBP.out.trans (HBk.out.mono HBP.out.size)))
                      clear HRe ho3
                      go_wp2_with fail
                      refine (HD1.out ()).mono ?_
                      rintro e wt ⟨rfl, rfl⟩
                      clear HD1
                      go_wp2_with fail
                      refine (HR1.out ()).mono ?_
                      rintro e w9 ⟨⟨v9, l2, rfl, hI2, ho9⟩, b9⟩
                      have hl2 := hI2.len
                      have y9 := (b9.cell (p := ⟨g0, i, none⟩) (World.block_lt_of_cell? wt _ y1)).trans y1
                      have HB9 := (show Hid (Below wQ.heap.size wQ w9) from HBk.out.trans (b9.mono HBk.out.size))
                      have hgb := group_both HIs.out.2 hkl HIs.out.1 hI2 HSg.out.1 HSg.out.2 hrg
                      have HE1 := (show Hid (∀ _ : Unit, Calls Try.prog 32 #[.slice A3 gp.length c3, .int .i64 (k : Int)] w9 fun e w' => e = .returned (.bool (decide (k ∈ l) && decide (rn ∈ l2))) ∧ w' = w9) from fun _ => by have h := HHg.out k w9 b9; rw [hgb] at h; exact h)
                      have HE2 := (show Hid (∀ _ : Unit, Calls Try.prog 32 #[.slice Al l.length cl0, .int .i64 (k : Int)] w9 fun e w' => e = .returned (.bool (decide (k ∈ l))) ∧ w' = w9) from fun _ => HHl.out k w9 HB9.out)
                      have HE3 := (show Hid (∀ _ : Unit, Calls Try.prog 32 #[v9, .int .i64 (rn : Int)] w9 fun e w' => e = .returned (.bool (decide (rn ∈ l2))) ∧ w' = w9) from fun _ => has_any l2 rn (by omega) w9 ho9)
                      clear HR1 hI2 ho9 b9 hgb HHg HHl y1 q3 HBk
                      go_wp2_with fail
                      refine (HE1.out ()).mono ?_
                      rintro e wt2 ⟨rfl, rfl⟩
                      clear HE1
                      go_wp2_with fail
                      refine (HE2.out ()).mono ?_
                      rintro e wt3 ⟨rfl, rfl⟩
                      clear HE2
                      cases hkb : decide (k ∈ l) with
                      | false =>
                        clear HE3
                        go_wp2_with fail
                        go_roundw
                        case rel => exact ⟨k + 1, by omega, by go_num, HB9⟩
                        case measure => simp [intOf]; omega
                      | true =>
                        go_wp2_with fail
                        refine (HE3.out ()).mono ?_
                        rintro e wt4 ⟨rfl, rfl⟩
                        clear HE3
                        cases hrb : decide (rn ∈ l2) with
                        | false =>
                          go_wp2_with fail
                          go_roundw
                          case rel => exact ⟨k + 1, by omega, by go_num, HB9⟩
                          case measure => simp [intOf]; omega
                        | true =>
                          go_wp2_with fail
                          go_roundw
                          case rel => exact ⟨k + 1, by omega, by go_num, HB9⟩
                          case measure => simp [intOf]; omega
                    · obtain rfl : k = gs.length := by omega
                      clear HRe ho3 HHg HHl
                      go_wp2_with fail
                      refine (HD1.out ()).mono ?_
                      rintro e wt ⟨rfl, rfl⟩
                      clear HD1
                      go_wp2_with fail
                      go_roundw
                      case rel => exact ⟨i + 1, by omega, by go_num, HBk⟩
                      case measure => simp [intOf]; omega
                  · have HD1 := (show Hid (∀ _ : Unit, Calls Try.prog 32 #[.slice A3 gp.length c3, .int .i64 (rn : Int)] wr fun e w' => e = .returned (.bool false) ∧ w' = wr) from fun _ => by have h := HHg.out rn wr (Below.refl _ _); rw [decide_eq_false hrg] at h; exact h)
                    clear HRe ho3 HHg HHl
                    go_wp2_with fail
                    refine (HD1.out ()).mono ?_
                    rintro e wt ⟨rfl, rfl⟩
                    clear HD1
                    go_wp2_with fail
                    go_roundw
                    case rel => exact ⟨i + 1, by omega, by go_num, HBk⟩
                    case measure => simp [intOf]; omega
              · obtain rfl : i = out.length := by omega
                have HBz := (show Hid (Below w.heap.size w wr) from HBP.out.trans (HBi.out.mono HBP.out.size))
                clear HTa HGJ HHl HBP HXP HBi HRe HIs
                go_wp2_with fail
                refine (HWk.out _).mono ?_
                rintro e wz ⟨rfl, bz⟩
                have HBy := (show Hid (Below w.heap.size w wz) from HBz.out.trans (bz.mono HBz.out.size))
                clear bz HBz HWk
                go_wp2_with fail
                go_ret
                exact ⟨rfl, HBy.out⟩
  · have tz : (lkR gs r != 0) = true := by rw [bne, beq_eq_false_iff_ne.2 hz]; rfl
    obtain rfl := hrl.2 hz
    have HC2 := (show Hid (∀ _ : Unit, Calls Try.prog 18 #[.agg #[.slice A gs.length c], .int .i64 r] wM fun e w' => (∃ v, e = .returned (.tuple #[v, .int .i64 (lkR gs r)]) ∧ w'.ownsRow wM.heap.size 3 1 v (clR gs r).length ((clR gs r).map nI)) ∧ Below wM.heap.size wM w') from fun _ => HA2.out r wM HB.out)
    clear hz hrl HA1 HA2 HA3 HOl HX
    generalize lkR gs r = cd at *
    go_wp2_with fail
    refine (HC2.out ()).mono ?_
    rintro e w5 ⟨⟨v5, rfl, _⟩, b5⟩
    have HB5 := (show Hid (Below w.heap.size w w5) from HB.out.trans (b5.mono HB.out.size))
    clear HC2 b5 HB q2
    go_wp2_with fail
    refine (HWk.out _).mono ?_
    rintro e wz ⟨rfl, bz⟩
    have HBy := (show Hid (Below w.heap.size w wz) from HB5.out.trans (bz.mono HB5.out.size))
    clear bz HB5 HWk
    go_wp2_with fail
    go_ret
    exact ⟨rfl, HBy.out⟩
end Go.Proofs.Ytppggnmlbcdegaa.N

namespace Go.Proofs.Ytppggnmlbcdegaa
open Go.ChangeShapes Go.WideShapes Go.ChangeAt Go.RowKit
open Go.ChangeMaps (open_string shut_string)
set_option maxRecDepth 100000 in
theorem rulesReach_lifted (os : Os) (started : os.Started) (H : Type) (enc : TypeId × Value → H) :
    ReturnsInHanded {} Try.checked os 7 .any (Rows.rulesReachSpec.pre6 enc Try.prog Try.f7 Rows.rulesReachRow.domain false) (Rows.rulesReachSpec.post enc Try.prog Try.f7 false true false false) := by
  refine returnsInHanded_of_change_sized (C := Try.checked) T.own started (by kernel_rfl) Try.func7
    (ChangeSpec.witness6 (enc := enc) (C := Try.checked) false ⟨#[], #[.agg #[.slice none 0 0], .int .i64 0], []⟩ 8 (by kernel_rfl) (by kernel_rfl) (by kernel_rfl) (by kernel_rfl)) ?_
  intro W base args ds gs before hval0 hW hcnd hsz _
  have hval : ∀ (j : Nat) t v, Try.f7.params[j]? = some t → args[j]? = some v → Value.okWide Try.prog W .any base t v := hval0
  have hW' := hW
  obtain ⟨p, q, hA0, hV, rfl, hfz, hnd⟩ := hW
  have hA : DataW.TrodAll enc Try.prog W 0 (fun _ => true) true Try.f7.params.toList args.toList ds p := hA0
  rw [Try.params7] at hA hval
  have hsz : (DataW.weightsEach Try.prog (#[24, 3].toList ++ Rows.rulesReachSpec.plain.varTypes Try.prog) (ds ++ gs)).all (· ≤ reachBytes) = true := hsz
  obtain ⟨v0, v1, d0, d1, p0, p1, rfl, rfl, rfl, h0, h1⟩ := trodAll_two hA
  obtain ⟨rfl, rfl⟩ := trodVars_none hV
  have lt0 : ∀ x ∈ p0, x.block < W.heap.size := by obtain ⟨m, hm⟩ := h0; exact DataW.trod_lt m _ _ _ hm
  obtain ⟨A0, c0, L0, rfl, r0⟩ := N.open_gram h0 (hval 0 24 v0 rfl rfl) (T.sized_at hsz (j := 0) rfl rfl)
  obtain ⟨n1, rfl, rfl, rfl, wm1⟩ := open_int Try.underlying3 (hval 1 3 v1 rfl rfl) h1
  clear hA0 hval0
  refine (N.reach_law L0 A0 c0 n1 W r0).mono fun e W' ⟨he, bel⟩ => ?_
  subst he
  exact ⟨_, rfl, _, _, _, [], _, [], hW', trodAll_mk1 (shut_bool Try.underlying4 _), (trodAll_cons_mk (Below.trod T.laidOut (by kernel_rfl) (of_decide_eq_true (by kernel_rfl)) h0 bel lt0) (trodAll_cons_mk (shut_int Try.underlying3 wm1) trodAll_mk0)), rfl, bel.frame _, fun h => by cases h⟩

theorem rulesReach_holds : Rows.RulesReachSaid :=
  OpenClaim.holds_of_wide 7 Try.f7 rfl rfl rfl rfl rfl rfl rfl ⟨rfl, rfl, rfl, rfl, rfl⟩ rfl rfl rfl rfl rfl (by kernel_rfl) Try.func7 (by kernel_rfl)
    (of_decide_eq_true (by kernel_rfl)) (by unfold Func.isWrapper; first | (rw [if_pos (by decide +kernel)]; kernel_rfl) | (rw [if_neg (by decide +kernel)]; exact ⟨rfl, rfl⟩))
    (fun os started H enc _ => rulesReach_lifted os started H enc)
end Go.Proofs.Ytppggnmlbcdegaa
