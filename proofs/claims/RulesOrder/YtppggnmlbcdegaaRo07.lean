/- RulesOrder: of every grammar the law returns true: each rule is in one group, each group stands behind what it calls, a rule comes to itself just if its group has another one or it calls itself; no conditions. -/
import Derived.Test.YtppggnmlbcdegaaRo06
namespace Go.Proofs.Ytppggnmlbcdegaa.N
open Go.RowKit Go.Maps
open Go.Proofs.Ytppggnmlbcdegaa.T

open U (nI own_get own_slice below_grown TT info_split)
/-- While the order of the groups is looked at: what was told. -/
structure OrS (wM wr : World) (u : Value) (l : List Nat) : Prop where
  b : Below wM.heap.size wM wr
  o : wr.ownsRow wM.heap.size 3 1 u l.length (l.map nI)
theorem OrS.later {wM wr W : World} {u : Value} {l : List Nat} (h : OrS wM wr u l) (hb : Below wr.heap.size wr W) : OrS wM W u l := ⟨h.b.trans (hb.mono h.b.size), U.own_below h.o hb⟩
theorem lk_in {gs : GL} (hz : (ckG gs).2 = 0) {x : Nat} (hx : x < gs.length) : lkR gs (x : Int) = 0 ∧ clR gs (x : Int) = cL gs x := by
  have h1 : lkR gs (x : Int) = 0 := by
    unfold lkR
    rw [if_neg (fun q => q hz), if_neg (by omega)]
  exact ⟨h1, by unfold clR; rw [if_pos h1]; rfl⟩
theorem take_flat (out : List (List Nat)) (i : Nat) : (out.take i).flatten.Sublist out.flatten := by
  have e : out.flatten = (out.take i).flatten ++ (out.drop i).flatten := by rw [← List.flatten_append, List.take_append_drop]
  rw [e]
  exact List.sublist_append_left _ _
theorem qui {f : Nat} {args : Array Value} {W : World} {b : Value} (h : Calls Try.prog f args W fun e w' => e = .returned b ∧ w' = W) : Calls Try.prog f args W fun e w' => e = .returned b ∧ ∃ q, w' = W.drewN q := by
  refine h.mono ?_
  rintro e w' ⟨rfl, rfl⟩
  exact ⟨rfl, 0, rfl⟩
set_option maxRecDepth 100000 in
set_option maxHeartbeats 32000000 in
theorem order_law (gs : GL) (A : Option Addr) (c : Nat) (w : World) (hg : GrIn w A c gs) : Calls Try.prog 8 #[.agg #[.slice A gs.length c]] w fun e w' => e = .returned (.bool true) ∧ Below w.heap.size w w' := by
  obtain ⟨w1, hw1⟩ : ∃ w1, w1 = w.alloc (.cells #[.slice A gs.length c] 24) := ⟨_, rfl⟩
  have HE1 := (show Hid (w.alloc (.cells #[.slice A gs.length c] 24) = w1) from hw1.symm)
  have HB1 : Hid (Below w.heap.size w w1) := by show Below _ _ _; rw [hw1]; exact below_box _ _
  have HX1 : Hid (GX w1 w.heap.size (.slice A gs.length c)) := by show GX _ _ _; rw [hw1]; exact GX.mk (heap_alloc_new w _)
  have HP := (show Hid (GI w A gs) from hg.gi)
  have HA1 : Hid (∀ W, Below w.heap.size w W → Calls Try.prog 23 #[.agg #[.slice A gs.length c]] W fun e w'' => (∃ v xs out, e = .returned (.tuple #[v, .int .i64 (ckG gs).2]) ∧ GpR gs out ∧ TT w'' W.heap.size 37 3 v (nM out) xs) ∧ Below W.heap.size W w'') := fun W h => groupsP_any gs A c W (HP.out.later h)
  have HA2 : Hid (∀ W, Below w.heap.size w W → Calls Try.prog 25 #[.agg #[.slice A gs.length c]] W fun e w'' => (∃ v l, e = .returned (.tuple #[v, .int .i64 (ckG gs).2]) ∧ AgR gs l ∧ w''.ownsRow W.heap.size 4 1 v l.length (l.map Value.bool)) ∧ Below W.heap.size W w'') := fun W h => againP_any gs A c W (HP.out.later h)
  have HWk := (show Hid (∀ W, Calls Try.prog 12 #[] W fun e w' => e = .returned (.bool true) ∧ Below W.heap.size W w') from lives_any)
  have q1 := HX1.out.cl
  clear hg hw1
  go_enter Try.func8, Try.ntmps8
  go_wp2_with (rw [HE1.out])
  refine (HA1.out _ HB1.out).mono ?_
  rintro e w2 ⟨⟨va, xa, out, rfl, hra, hta⟩, b2⟩
  have HB2 := (show Hid (Below w.heap.size w w2) from HB1.out.trans (b2.mono HB1.out.size))
  have q2 := (HX1.out.below b2).cl
  have HX2 := (show Hid _ from HX1.out.below b2)
  clear q1 HA1 HB1 HX1 HE1 b2
  go_wp2_with fail
  refine (HA2.out _ HB2.out).mono ?_
  rintro e wM ⟨⟨vc, la, rfl, hrc, hoc⟩, bM'⟩
  have HB := (show Hid (Below w.heap.size w wM) from HB2.out.trans (bM'.mono HB2.out.size))
  have HX := (show Hid (GX wM w.heap.size (.slice A gs.length c)) from HX2.out.below bM')
  have hta2 := hta.below bM'
  have hxl : xa.length = out.length := hta2.len.trans (nM_len out)
  obtain ⟨Aa, ca, ea⟩ := own_slice hta2.o
  rw [hxl] at ea
  subst ea
  obtain ⟨Ac, cc, rfl⟩ := own_slice hoc
  have HTa := (show Hid (TT wM w1.heap.size 37 3 (.slice Aa out.length ca) (nM out) xa) from hta2)
  have HOc := (show Hid (wM.ownsRow w2.heap.size 4 1 (.slice Ac la.length cc) la.length (la.map Value.bool)) from hoc)
  have HRa := (show Hid (GpR gs out) from hra)
  have HRc := (show Hid (AgR gs la) from hrc)
  clear q2 HA2 HB2 HX2 bM' hta hta2 hxl hoc hra hrc
  by_cases hz : (ckG gs).2 = 0
  · have tz : ((ckG gs).2 != 0) = false := by rw [hz]; rfl
    have hR := ckG_ok.1 hz
    have hn := hR.n2
    obtain ⟨told, hgI, hall⟩ := gpR_all HRa.out hz
    have hgJ : GsJ gs.length (cG gs) out := by
      obtain ⟨R, h1, h2⟩ := HRa.out.1 hz
      rw [h2]
      exact gsG_j h1 _ _ _ (GsI.nil _ _) (GsJ.nil _ _)
    have HgI := (show Hid (GsI gs.length (cG gs) told out ∧ GsJ gs.length (cG gs) out) from ⟨hgI, hgJ⟩)
    have HTl := (show Hid (told.length = gs.length ∧ la.length = gs.length ∧ ∀ x, x < gs.length → (la[x]? = some true ↔ Rc gs.length (cG gs) x x)) from ⟨Nat.le_antisymm (gsI_few hgI) (few_all _ _ hall), (HRc.out.1 hz).1, fun x hx => by rw [(HRc.out.1 hz).2 x]; simp [hx]⟩)
    have hol : out.length ≤ 200 := by have h1 := gsI_len hgI; have h2 := gsI_few hgI; omega
    have HCa := (show Hid (∀ (x : Nat) W, x < gs.length → Below w.heap.size w W → Calls Try.prog 18 #[.agg #[.slice A gs.length c], .int .i64 (x : Int)] W fun e w' => (∃ v, e = .returned (.tuple #[v, .int .i64 0]) ∧ w'.ownsRow W.heap.size 3 1 v (cL gs x).length ((cL gs x).map nI)) ∧ Below W.heap.size W w') from fun x W hx hW => by
      have h := callsP_any gs A c (x : Int) W (HP.out.later hW)
      rw [(lk_in hz hx).1, (lk_in hz hx).2] at h
      exact h)
    have hlal : la.length = gs.length := HTl.out.2.1
    rw [hlal] at HOc ⊢
    have HS := (show Hid (OrS wM wM (.slice none 0 0) (out.take 0).flatten) from ⟨Below.refl _ _, by rw [List.take_zero]; exact World.ownsRow_nil _ _ _ _⟩)
    clear hgI hall hgJ hz hR HRa HRc HP hlal
    generalize (ckG gs).2 = cd at *
    go_wp2_with fail
    go_loopw [7, 8] (fun u t wr => ∃ (i m : Nat) (A2 : Option Addr) (c2 : Nat), i ≤ out.length ∧ t = .int .i64 (i : Int) ∧ u = .slice A2 m c2 ∧ m ≤ 200 ∧ Hid ((out.take i).flatten.length = m) ∧ Hid (OrS wM wr (.slice A2 m c2) (out.take i).flatten)) (fun _ t _ => out.length - (intOf t).toNat)
    case atStart => exact ⟨0, 0, none, 0, by omega, by go_num, rfl, by omega, by rw [List.take_zero]; exact (show Hid (([] : List (List Nat)).flatten.length = 0) from rfl), HS⟩
    case round =>
      obtain ⟨i, m, A2, c2, hi, rfl, rfl, hm, HL, HW⟩ := hrel
      clear HS
      by_cases hil : i < out.length
      · obtain ⟨gp, hgp⟩ : ∃ gp, out[i]? = some gp := ⟨_, List.getElem?_eq_getElem hil⟩
        have hmem := List.mem_of_getElem? hgp
        have hgne := HgI.out.1.ne gp hmem
        obtain ⟨hgl, hgnd, hglt⟩ := gsI_row HgI.out.1 hmem
        obtain ⟨g0, A3, c3, rfl, y1, ho3⟩ := tab_at HTa.out HW.out.b hgp
        have HGp := (show Hid (out[i]? = some gp ∧ gp.Nodup ∧ (∀ x ∈ gp, x < gs.length)) from ⟨hgp, hgnd, hglt⟩)
        have hg1 : 0 < gp.length := List.length_pos_iff.2 hgne
        have tg : ((gp.length : Int) == 0) = false := beq_eq_false_iff_ne.2 (by omega)
        have v0 : (0 : Int) ≤ (i : Int) := by omega
        have v1 : (i : Int) < (out.length : Int) := by omega
        have HRow := (show Hid (∀ W, Below wr.heap.size wr W → W.cell? ⟨g0, i, none⟩ = some (.slice A3 gp.length c3) ∧ W.ownsRow w1.heap.size 3 1 (.slice A3 gp.length c3) gp.length (gp.map nI) ∧ OrS wM W (.slice A2 m c2) (out.take i).flatten) from fun W hW => ⟨(hW.cell (p := ⟨g0, i, none⟩) (World.block_lt_of_cell? wr _ y1)).trans y1, U.own_below ho3 hW, HW.out.later hW⟩)
        clear hgp hmem hgne hgnd hglt ho3
        obtain ⟨wR, hwR⟩ : ∃ wR, wR = wr := ⟨_, rfl⟩
        subst hwR
        go_wp2_with fail
        clear y1
        go_loopw [9] (fun t ws => ∃ k : Nat, k ≤ gp.length ∧ t = .int .i64 (k : Int) ∧ Hid (Below wR.heap.size wR ws)) (fun t _ => gp.length - (intOf t).toNat)
        case atStart => exact ⟨0, by omega, by go_num, Below.refl _ _⟩
        case round =>
          obtain ⟨k, hk, rfl, HBk⟩ := hrel
          obtain ⟨y1, ho3, hor⟩ := HRow.out wr HBk.out
          by_cases hkl : k < gp.length
          · obtain ⟨x, hx⟩ : ∃ x, gp[k]? = some x := ⟨_, List.getElem?_eq_getElem hkl⟩
            have hxg := List.mem_of_getElem? hx
            have hxn := HGp.out.2.2 x hxg
            obtain ⟨g3, rfl, y2⟩ := row_at ho3 (Below.refl _ _) hx
            have q1 := ((HX.out.below HW.out.b).below HBk.out).cl
            have HBw := (show Hid (Below w.heap.size w wr) from (HB.out.trans (HW.out.b.mono HB.out.size)).trans (HBk.out.mono (Nat.le_trans HB.out.size HW.out.b.size)))
            have HHt := (show Hid (∀ (z : Nat) W, Below wr.heap.size wr W → Calls Try.prog 32 #[.slice A2 m c2, .int .i64 (z : Int)] W fun e w' => e = .returned (.bool (decide (z ∈ (out.take i).flatten))) ∧ w' = W) from fun z W hW => by
              have h := has_any (out.take i).flatten z (by rw [HL.out]; omega) W (hor.later hW).o
              exact h)
            have HHg := (show Hid (∀ (z : Nat) W, Below wr.heap.size wr W → Calls Try.prog 32 #[.slice (some ⟨g3, 0, none⟩) gp.length c3, .int .i64 (z : Int)] W fun e w' => e = .returned (.bool (decide (z ∈ gp))) ∧ w' = W) from fun z W hW => has_any gp z (by omega) W (U.own_below ho3 hW))
            have HNt := (show Hid (decide (x ∈ (out.take i).flatten) = false) from decide_eq_false (flat_take (by rw [HgI.out.1.fl]; exact HgI.out.1.nd) HGp.out.1 hxg))
            have HC1 := (show Hid (∀ _ : Unit, Calls Try.prog 32 #[.slice A2 m c2, .int .i64 (x : Int)] wr fun e w' => e = .returned (.bool false) ∧ w' = wr) from fun _ => by have h := HHt.out x wr (Below.refl _ _); rw [HNt.out] at h; exact h)
            have HC2 := (show Hid (∀ _ : Unit, Calls Try.prog 18 #[.agg #[.slice A gs.length c], .int .i64 (x : Int)] wr fun e w' => (∃ v, e = .returned (.tuple #[v, .int .i64 0]) ∧ w'.ownsRow wr.heap.size 3 1 v (cL gs x).length ((cL gs x).map nI)) ∧ Below wr.heap.size wr w') from fun _ => HCa.out x wr hxn HBw.out)
            have u0 : (0 : Int) ≤ (k : Int) := by omega
            have u1 : (k : Int) < (gp.length : Int) := by omega
            have u2 : ¬ (x : Int) < 0 := by omega
            have u3 : ¬ (gs.length : Int) ≤ (x : Int) := by omega
            have u4 : (0 : Int) ≤ (x : Int) := by omega
            have u5 : (x : Int) < (gs.length : Int) := by omega
            have HXg := (show Hid (x ∈ gp ∧ x < gs.length) from ⟨hxg, hxn⟩)
            clear hx hxg hxn HNt HCa ho3 hor
            go_wp2_with fail
            refine (HC1.out ()).mono ?_
            rintro e wt ⟨rfl, rfl⟩
            clear HC1
            go_wp2_with fail
            refine (HC2.out ()).mono ?_
            rintro e w5 ⟨⟨v5, rfl, ho5⟩, b5⟩
            obtain ⟨A5, c5, rfl⟩ := own_slice ho5
            have HO5 := (show Hid (w5.ownsRow wt.heap.size 3 1 (.slice A5 (cL gs x).length c5) (cL gs x).length ((cL gs x).map nI)) from ho5)
            have HB5 := (show Hid (Below wt.heap.size wt w5) from b5)
            have hcl := cL_len gs x
            clear HC2 ho5 b5
            have y1' := (HRow.out _ (HBk.out.trans (HB5.out.mono HBk.out.size))).1
            clear y1 y2 q1
            go_wp2_with fail
            obtain ⟨wS, hwS⟩ : ∃ wS, wS = w5 := ⟨_, rfl⟩
            subst hwS
            go_loopw [13] (fun t ws => ∃ j : Nat, j ≤ (cL gs x).length ∧ t = .int .i64 (j : Int) ∧ Hid (Below wS.heap.size wS ws)) (fun t _ => (cL gs x).length - (intOf t).toNat)
            case atStart => exact ⟨0, by omega, by go_num, Below.refl _ _⟩
            case round =>
              obtain ⟨j, hj, rfl, HBj⟩ := hrel
              have HBt := (show Hid (Below wt.heap.size wt wr) from HB5.out.trans (HBj.out.mono HB5.out.size))
              obtain ⟨z1', _, _⟩ := HRow.out wr (HBk.out.trans (HBt.out.mono HBk.out.size))
              by_cases hjl : j < (cL gs x).length
              · obtain ⟨z, hz⟩ : ∃ z, (cL gs x)[j]? = some z := ⟨_, List.getElem?_eq_getElem hjl⟩
                have hzc := (cL_mem.1 (List.mem_of_getElem? hz)).2
                obtain ⟨g5, rfl, y5⟩ := row_at HO5.out HBj.out hz
                have hin := (HgI.out.2 i gp HGp.out.1).2 x HXg.out.1 z hzc
                have s0 : (0 : Int) ≤ (j : Int) := by omega
                have s1 : (j : Int) < ((cL gs x).length : Int) := by omega
                by_cases hzt : z ∈ (out.take i).flatten
                · have HD1 := (show Hid (∀ n, Calls Try.prog 32 #[.slice A2 m c2, .int .i64 (z : Int)] (wr.drewN n) fun e w' => e = .returned (.bool true) ∧ ∃ q, w' = (wr.drewN n).drewN q) from fun n => qui (by have h := HHt.out z (wr.drewN n) (below_drewN HBt.out n); rw [decide_eq_true hzt] at h; exact h))
                  clear hz hzc hin hzt HHt HHg HgI HRow HTa HOc HO5 HGp HXg HTl
                  go_wp2_with fail
                  go_quiet ((go_at_call 32; exact Calls.quiet_of (HD1.out _)))
                  all_goals
                    have HB9 := (show Hid (Below wS.heap.size wS (wr.drewN nq)) from below_drewN HBj.out nq)
                    generalize wr.drewN nq = wD at *
                    clear HD1 y5 z1' HBj HBt
                    go_wp2_with fail
                    go_roundw
                    case rel => exact ⟨j + 1, by omega, by go_num, HB9⟩
                    case measure => simp [intOf]; omega
                · have hzg : z ∈ gp := hin.resolve_left hzt
                  have HD1 := (show Hid (∀ n, Calls Try.prog 32 #[.slice A2 m c2, .int .i64 (z : Int)] (wr.drewN n) fun e w' => e = .returned (.bool false) ∧ ∃ q, w' = (wr.drewN n).drewN q) from fun n => qui (by have h := HHt.out z (wr.drewN n) (below_drewN HBt.out n); rw [decide_eq_false hzt] at h; exact h))
                  have HD2 := (show Hid (∀ n, Calls Try.prog 32 #[.slice (some ⟨g3, 0, none⟩) gp.length c3, .int .i64 (z : Int)] (wr.drewN n) fun e w' => e = .returned (.bool true) ∧ ∃ q, w' = (wr.drewN n).drewN q) from fun n => qui (by have h := HHg.out z (wr.drewN n) (below_drewN HBt.out n); rw [decide_eq_true hzg] at h; exact h))
                  clear hz hzc hin hzt hzg HHt HHg HgI HRow HTa HOc HO5 HGp HXg HTl
                  go_wp2_with fail
                  go_quiet (first | (go_at_call 32; with_reducible exact Calls.quiet_of (HD1.out _)) | (go_at_call 32; with_reducible exact Calls.quiet_of (HD2.out _)))
                  all_goals
                    have HB9 := (show Hid (Below wS.heap.size wS (wr.drewN nq)) from below_drewN HBj.out nq)
                    generalize wr.drewN nq = wD at *
                    clear HD1 HD2 y5 z1' HBj HBt
                    go_wp2_with fail
                    go_roundw
                    case rel => exact ⟨j + 1, by omega, by go_num, HB9⟩
                    case measure => simp [intOf]; omega
              · obtain rfl : j = (cL gs x).length := by omega
                have hself := self_iff (n := gs.length) (c := cG gs) (g := gp) (x := x) (r := (Classical.choose (HgI.out.2 i gp HGp.out.1).1)) (Classical.choose_spec (HgI.out.2 i gp HGp.out.1).1).2 (fun a b q => cG_lt q) (Classical.choose_spec (HgI.out.2 i gp HGp.out.1).1).1 HXg.out.1 HGp.out.2.1
                obtain ⟨bx, hbx⟩ : ∃ bx, la[x]? = some bx := ⟨_, List.getElem?_eq_getElem (by have := HTl.out.2.1; have := HXg.out.2; omega)⟩
                obtain ⟨gc, rfl, yc⟩ := row_b HOc.out (HW.out.b.trans ((HBk.out.trans (HBt.out.mono HBk.out.size)).mono HW.out.b.size)) hbx
                have hcx : decide (x ∈ cL gs x) = cG gs x x := by
                  cases q : cG gs x x
                  · exact decide_eq_false (fun h => by rw [(cL_mem.1 h).2] at q; cases q)
                  · exact decide_eq_true (cL_mem.2 ⟨HXg.out.2, q⟩)
                have hbxe : bx = (decide (1 < gp.length) || cG gs x x) := by
                  have h2 := HTl.out.2.2 x HXg.out.2
                  rw [hbx] at h2
                  rw [Bool.eq_iff_iff, Bool.or_eq_true, decide_eq_true_eq, ← hself, ← h2]
                  simp
                have HD1 := (show Hid (∀ n, Calls Try.prog 32 #[.slice A5 (cL gs x).length c5, .int .i64 (x : Int)] (wr.drewN n) fun e w' => e = .returned (.bool (cG gs x x)) ∧ ∃ q, w' = (wr.drewN n).drewN q) from fun n => qui (by
                  have h := has_any (cL gs x) x (by omega) (wr.drewN n) (U.own_below HO5.out (below_drewN HBj.out n))
                  rw [hcx] at h
                  exact h))
                have s4 : ¬ (gs.length : Int) ≤ (x : Int) := by omega
                have s5 : ¬ gs.length ≤ x := by omega
                by_cases hg2 : 1 < gp.length
                · have tg2 : (1 : Int) < (gp.length : Int) := by omega
                  obtain rfl : bx = true := by rw [hbxe, decide_eq_true hg2]; rfl
                  clear hself hbx hcx hbxe HHt HHg HgI HRow HTa HOc HO5 HGp HXg HTl
                  go_wp2_with fail
                  go_quiet ((go_at_call 32; exact Calls.quiet_of (HD1.out _)))
                  all_goals
                    have HB9 := (show Hid (Below wR.heap.size wR (wr.drewN nq)) from below_drewN (HBk.out.trans (HBt.out.mono HBk.out.size)) nq)
                    generalize wr.drewN nq = wD at *
                    clear HD1 yc z1' HBj HBt
                    go_wp2_with fail
                    go_roundw
                    case rel => exact ⟨k + 1, by omega, by go_num, HB9⟩
                    case measure => simp [intOf]; omega
                · have tg2 : ¬ (1 : Int) < (gp.length : Int) := by omega
                  have hb3 : bx = cG gs x x := by rw [hbxe, decide_eq_false hg2]; rfl
                  cases hcxx : cG gs x x with
                  | true =>
                    rw [hcxx] at hb3 HD1
                    subst hb3
                    clear hself hbx hcx hbxe HHt HHg HgI HRow HTa HOc HO5 HGp HXg HTl hcxx
                    go_wp2_with fail
                    go_quiet ((go_at_call 32; exact Calls.quiet_of (HD1.out _)))
                    all_goals
                      have HB9 := (show Hid (Below wR.heap.size wR (wr.drewN nq)) from below_drewN (HBk.out.trans (HBt.out.mono HBk.out.size)) nq)
                      generalize wr.drewN nq = wD at *
                      clear HD1 yc z1' HBj HBt
                      go_wp2_with fail
                      go_roundw
                      case rel => exact ⟨k + 1, by omega, by go_num, HB9⟩
                      case measure => simp [intOf]; omega
                  | false =>
                    rw [hcxx] at hb3 HD1
                    subst hb3
                    clear hself hbx hcx hbxe HHt HHg HgI HRow HTa HOc HO5 HGp HXg HTl hcxx
                    go_wp2_with fail
                    go_quiet ((go_at_call 32; exact Calls.quiet_of (HD1.out _)))
                    all_goals
                      have HB9 := (show Hid (Below wR.heap.size wR (wr.drewN nq)) from below_drewN (HBk.out.trans (HBt.out.mono HBk.out.size)) nq)
                      generalize wr.drewN nq = wD at *
                      clear HD1 yc z1' HBj HBt
                      go_wp2_with fail
                      go_roundw
                      case rel => exact ⟨k + 1, by omega, by go_num, HB9⟩
                      case measure => simp [intOf]; omega
          · obtain rfl : k = gp.length := by omega
            obtain ⟨g3, cp3, e3, _, _⟩ := ho3.form hg1
            obtain rfl : A3 = some ⟨g3, 0, none⟩ := by injection e3
            clear e3
            have hfs := flat_succ HGp.out.1
            have hm2 : m + gp.length ≤ 200 := by
              have h1 := few_below gs.length (out.take (i + 1)).flatten ((take_flat out (i + 1)).nodup (by rw [HgI.out.1.fl]; exact HgI.out.1.nd)) (fun y hy => HgI.out.1.lt y (by rw [← HgI.out.1.fl]; exact (take_flat out (i + 1)).subset hy))
              rw [hfs, List.length_append, HL.out] at h1
              omega
            have HO := (show Hid (wr.ownsRow wM.heap.size 3 1 (.slice A2 m c2) m ((out.take i).flatten.map nI)) from by have h := hor.o; rw [HL.out] at h; exact h)
            have HBw := (show Hid (wM.heap.size ≤ wr.heap.size) from hor.b.size)
            have HNw := (show Hid (∀ (j : Nat) u, (gp.map nI)[j]? = some u → wr.cell? ((⟨g3, 0, none⟩ : Addr).add j) = some u) from fun j u hu => by
              have h := ho3.cells (g := g3) rfl j u hu
              exact h)
            have HPu := (show Hid (∀ (u' : Value) (w5 : World), w5.ownsRow wM.heap.size 3 1 u' (m + gp.length) ((out.take i).flatten.map nI ++ gp.map nI) → wr.grownBy w5 (Value.slice A2 m c2).ownBlock → OrS wM w5 u' (out.take (i + 1)).flatten) from fun u' w5 h1 h2 => ⟨below_grown hor.b h2 (fun j e => (hor.o.lt j e).1), by rw [hfs, List.length_append, List.map_append, HL.out]; exact h1⟩)
            have HL2 := (show Hid ((out.take (i + 1)).flatten.length = m + gp.length) from by show _ = _; rw [hfs, List.length_append, HL.out])
            have HNl := (show Hid ((gp.map nI).length = gp.length * 1) from by show _ = _; rw [List.length_map, Nat.mul_one])
            obtain ⟨i0, hinf, hz0, hz1, hz2⟩ := info_split Try.info3
            clear hfs ho3 hor HRow HGp HgI HTa HOc HCa HTl HBk HW HL
            go_wp2_with (at_builtin; refine wpList_append_lies _ rfl _ _ 37 rfl wM.heap.size 3 i0 (.int .i64 0) 1 8 Try.underlying37 hinf hz0 hz1 hz2 rfl (by decide) _ m ((out.take i).flatten.map nI) rfl HO.out ⟨g3, 0, none⟩ gp.length c3 (gp.map nI) rfl HNl.out HNw.out (fun u hu => by obtain ⟨y, _, rfl⟩ := List.mem_map.1 hu; rfl) (by omega) (by unfold maxLen; omega) (by omega) HBw.out _ rfl ?_; intro g9 cap9 w9 ho9 hg9 hat9 hl9; have HW9 := (show Hid (OrS wM w9 (.slice (some ⟨g9, 0, none⟩) (m + gp.length) cap9) (out.take (i + 1)).flatten) from HPu.out _ _ ho9 hg9); clear ho9 hg9 hat9 hl9 HPu HO HBw HNw y1)
            go_roundw
            case rel => exact ⟨i + 1, m + gp.length, some ⟨g9, 0, none⟩, cap9, by omega, by go_num, rfl, hm2, HL2, HW9⟩
            case measure => simp [intOf]; omega
      · obtain rfl : i = out.length := by omega
        have hmn : m = gs.length := by
          have h := HL.out
          rw [List.take_length, HgI.out.1.fl, HTl.out.1] at h
          exact h.symm
        subst hmn
        have q1 := (HX.out.below HW.out.b).cl
        have HBz := (show Hid (Below w.heap.size w wr) from HB.out.trans (HW.out.b.mono HB.out.size))
        clear HW HL HgI HTl HTa HOc HCa HX HB
        go_wp2_with fail
        refine (HWk.out _).mono ?_
        rintro e wz ⟨rfl, bz⟩
        have HBy := (show Hid (Below w.heap.size w wz) from HBz.out.trans (bz.mono HBz.out.size))
        clear bz HBz HWk q1
        go_wp2_with fail
        go_ret
        exact ⟨rfl, HBy.out⟩
  · have tz : ((ckG gs).2 != 0) = true := by rw [bne, beq_eq_false_iff_ne.2 hz]; rfl
    obtain rfl := HRa.out.2 hz
    obtain rfl := HRc.out.2 hz
    clear hz HRa HRc HP HTa HOc HX
    generalize (ckG gs).2 = cd at *
    go_wp2_with fail
    refine (HWk.out _).mono ?_
    rintro e wz ⟨rfl, bz⟩
    have HBy := (show Hid (Below w.heap.size w wz) from HB.out.trans (bz.mono HB.out.size))
    clear bz HB HWk
    go_wp2_with fail
    go_ret
    exact ⟨rfl, HBy.out⟩
end Go.Proofs.Ytppggnmlbcdegaa.N

namespace Go.Proofs.Ytppggnmlbcdegaa
open Go.ChangeShapes Go.WideShapes Go.ChangeAt Go.RowKit
open Go.ChangeMaps (open_string shut_string)
set_option maxRecDepth 100000 in
theorem rulesOrder_lifted (os : Os) (started : os.Started) (H : Type) (enc : TypeId × Value → H) :
    ReturnsInHanded {} Try.checked os 8 .any (Rows.rulesOrderSpec.pre6 enc Try.prog Try.f8 Rows.rulesOrderRow.domain false) (Rows.rulesOrderSpec.post enc Try.prog Try.f8 false true false false) := by
  refine returnsInHanded_of_change_sized (C := Try.checked) T.own started (by kernel_rfl) Try.func8
    (ChangeSpec.witness6 (enc := enc) (C := Try.checked) false ⟨#[], #[.agg #[.slice none 0 0]], []⟩ 8 (by kernel_rfl) (by kernel_rfl) (by kernel_rfl) (by kernel_rfl)) ?_
  intro W base args ds gs before hval0 hW hcnd hsz _
  have hval : ∀ (j : Nat) t v, Try.f8.params[j]? = some t → args[j]? = some v → Value.okWide Try.prog W .any base t v := hval0
  have hW' := hW
  obtain ⟨p, q, hA0, hV, rfl, hfz, hnd⟩ := hW
  have hA : DataW.TrodAll enc Try.prog W 0 (fun _ => true) true Try.f8.params.toList args.toList ds p := hA0
  rw [Try.params8] at hA hval
  have hsz : (DataW.weightsEach Try.prog (#[24].toList ++ Rows.rulesOrderSpec.plain.varTypes Try.prog) (ds ++ gs)).all (· ≤ reachBytes) = true := hsz
  obtain ⟨v0, d0, rfl, rfl, h0⟩ := trodAll_one hA
  obtain ⟨rfl, rfl⟩ := trodVars_none hV
  have lt0 : ∀ x ∈ p, x.block < W.heap.size := by obtain ⟨m, hm⟩ := h0; exact DataW.trod_lt m _ _ _ hm
  obtain ⟨A0, c0, L0, rfl, r0⟩ := N.open_gram h0 (hval 0 24 v0 rfl rfl) (T.sized_at hsz (j := 0) rfl rfl)
  clear hA0 hval0
  refine (N.order_law L0 A0 c0 W r0).mono fun e W' ⟨he, bel⟩ => ?_
  subst he
  exact ⟨_, rfl, _, _, _, [], _, [], hW', trodAll_mk1 (shut_bool Try.underlying4 _), (trodAll_cons_mk (Below.trod T.laidOut (by kernel_rfl) (of_decide_eq_true (by kernel_rfl)) h0 bel lt0) trodAll_mk0), rfl, bel.frame _, fun h => by cases h⟩

theorem rulesOrder_holds : Rows.RulesOrderSaid :=
  OpenClaim.holds_of_wide 8 Try.f8 rfl rfl rfl rfl rfl rfl rfl ⟨rfl, rfl, rfl, rfl, rfl⟩ rfl rfl rfl rfl rfl (by kernel_rfl) Try.func8 (by kernel_rfl)
    (of_decide_eq_true (by kernel_rfl)) (by unfold Func.isWrapper; first | (rw [if_pos (by decide +kernel)]; kernel_rfl) | (rw [if_neg (by decide +kernel)]; exact ⟨rfl, rfl⟩))
    (fun os started H enc _ => rulesOrder_lifted os started H enc)
end Go.Proofs.Ytppggnmlbcdegaa
