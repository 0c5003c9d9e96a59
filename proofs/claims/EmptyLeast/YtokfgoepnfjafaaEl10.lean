/- EmptyLeast (9.4): of any grammar, the least length that the program tells of a part is nought just where nothing may be matched, and not above the greatest one, and a rule, its pattern and the last of its parts are told alike; for grammars within the reach of the form. -/
import Derived.BigQuiet
import Derived.Deep.RegionLaw
import Derived.Deep.LoopGhost
import Derived.Deep.CutRange
import Derived.Test.YtokfgoepnfjafaaEl09
namespace Go.Proofs.Ytokfgoepnfjafaa.N
open Go.RowKit Go.Maps
open Go.Proofs.Ytokfgoepnfjafaa.T

open U (own_get own_slice below_grown)
theorem kf_same {gs : GL} {a b : List Em} (h1 : KnF gs a) (h2 : KnF gs b) : a = b := by
  obtain ⟨R, bd, m, hI, hbd, rfl, he⟩ := h1
  obtain ⟨R2, bd2, m2, hI2, hbd2, rfl, he2⟩ := h2
  have hs : ∀ i, i < gs.length → bd2 i = bd i := fun i hi => by
    rw [hbd2 i, hbd i]
    congr 1
    rw [Bool.eq_iff_iff, hI2.rl i i hi hi, hI.rl i i hi hi]
  rw [pgE_bd hs] at he2 ⊢
  rw [pgE_bd hs] at he2
  have e1 := pg_fix he m2
  have e2 := pg_fix he2 m
  rw [← e1, ← e2, Nat.add_comm]
/-- What a rule is known as, and the last of its parts. -/
theorem kf_last {gs : GL} (hR : RtG gs) {now : List Em} (h : KnF gs now) {r : Nat} {g : ByteArray × List Nd} (hg : gs[r]? = some g) : now[r]? = some (EE (lkE gs now) g.2 (g.2.length - 1)) ∨ now[r]? = some { EE (lkE gs now) g.2 (g.2.length - 1) with mo := -1 } := by
  obtain ⟨R, bd, m, hI, hbd, hn, he⟩ := h
  have hm := List.mem_of_getElem? hg
  have hf : now = rdE gs kdR bd now := by
    rw [hn]
    exact he.symm
  have e := rdE_get (gs := gs) (kd := kdR) (bd := bd) (now := now) hg
  rw [← hf, ← EE_la (body_pos hR hm)] at e
  cases hb : bd r with
  | true => rw [hb] at e; exact .inl e
  | false => rw [hb] at e; exact .inr e
theorem enters_of9 (args : Array Value) (w : World) : (callFunc 7 args).run Try.prog w = .ok (.enter 7 args) w := enters_of Try.func7 (by kernel_rfl) rfl args w
set_option maxRecDepth 100000 in
set_option maxHeartbeats 64000000 in
theorem least_law (gs : GL) (A : Option Addr) (c : Nat) (w : World) (hg : GrIn w A c gs) : Calls Try.prog 3 #[.agg #[.slice A gs.length c]] w fun e w' => e = .returned (.bool true) ∧ Below w.heap.size w w' := by
  obtain ⟨w1, hw1⟩ : ∃ w1, w1 = w.alloc (.cells #[.slice A gs.length c] 24) := ⟨_, rfl⟩
  have HE1 := (show Hid (w.alloc (.cells #[.slice A gs.length c] 24) = w1) from hw1.symm)
  have HB1 := (show Hid (Below w.heap.size w w1) from by rw [hw1]; exact below_box w _)
  have HG1 := (show Hid (GX w1 w.heap.size (.slice A gs.length c)) from by rw [hw1]; exact GX.mk (heap_alloc_new w _))
  have HP := (show Hid (GI w A gs) from hg.gi)
  have HWk := (show Hid (∀ W, Calls Try.prog 4 #[] W fun e w' => e = .returned (.bool true) ∧ Below W.heap.size W w') from works_any)
  clear hw1 hg
  go_enter Try.func3, Try.ntmps3
  go_wp2_with (rw [HE1.out])
  refine (HWk.out w1).mono ?_
  rintro e w2 ⟨rfl, b2⟩
  have HB2 := (show Hid (Below w.heap.size w w2) from HB1.out.trans (b2.mono HB1.out.size))
  have HG2 := (show Hid (GX w2 w.heap.size (.slice A gs.length c)) from HG1.out.below b2)
  have q2 := HG2.out.cl
  clear b2 HWk HE1 HB1 HG1
  have HRu := (show Hid (Calls Try.prog 5 #[.agg #[.slice A gs.length c]] w2 fun e w' => (∃ v now, e = .returned (.tuple #[v, .int .i64 (ckG gs).2]) ∧ RuR gs now ∧ w'.ownsRow w2.heap.size 32 4 v now.length (emc now)) ∧ Below w2.heap.size w2 w') from rulesP_any gs A c w2 (HP.out.later HB2.out))
  by_cases hz : (ckG gs).2 = 0
  · have hR := ckG_ok.1 hz
    have HZ := (show Hid ((ckG gs).2 = 0 ∧ RtG gs) from ⟨hz, hR⟩)
    have hn200 := hR.n2
    rw [hz] at HRu
    clear hz hR
    go_wp2_with fail
    refine HRu.out.mono ?_
    rintro e w3 ⟨⟨v, now, rfl, hr, ho⟩, b3⟩
    obtain ⟨hk, hl, hok⟩ := hr.1 HZ.out.1
    rw [hl] at ho
    obtain ⟨A1, c1, rfl⟩ := own_fm ho
    have HK := (show Hid (KnF gs now ∧ now.length = gs.length ∧ OkN gs now) from ⟨hk, hl, hok⟩)
    have HB3 := (show Hid (Below w.heap.size w w3 ∧ GX w3 w.heap.size (.slice A gs.length c)) from ⟨HB2.out.trans (b3.mono HB2.out.size), HG2.out.below b3⟩)
    have HR3 := (show Hid (RdE w3 A1 now) from own_rd ho hl)
    have q3 := HB3.out.2.cl
    clear hr ho b3 hk hl hok HRu HG2 HB2 q2
    go_wp2_with fail
    go_loopg [5] gs.length (fun gk t wr => ∃ k : Nat, k ≤ gs.length ∧ gk = gs.length - k ∧ t = .int .i64 (k : Int) ∧ Hid (Below w3.heap.size w3 wr))
    case atStart => exact ⟨0, by omega, by omega, by go_num, Below.refl _ _⟩
    case round =>
      obtain ⟨k, hk, hgk, rfl, HW⟩ := hrel
      have HGk := (show Hid (gk = gs.length - k) from hgk)
      clear hgk
      by_cases hlt : k < gs.length
      · obtain ⟨g, hg⟩ : ∃ g, gs[k]? = some g := ⟨_, List.getElem?_eq_getElem hlt⟩
        have hm := List.mem_of_getElem? hg
        have hpos := body_pos HZ.out.2 hm
        obtain ⟨jl, hjl⟩ : ∃ j, g.2.length = j + 1 := ⟨g.2.length - 1, by omega⟩
        obtain ⟨b, o, A3, c3, rfl, lb, _, x1, r2⟩ := HP.out.d k g hg
        have HWw := (show Hid (Below w.heap.size w wr) from HB3.out.1.trans (HW.out.mono HB3.out.1.size))
        have HGw := (show Hid (GX wr w.heap.size (.slice (some ⟨b, o, none⟩) gs.length c)) from HB3.out.2.below HW.out)
        have HRl := (show Hid (∀ W, Below wr.heap.size wr W → W.cell? ⟨w.heap.size, 0, none⟩ = some (.slice (some ⟨b, o, none⟩) gs.length c) ∧ W.cell? ⟨b, o + k * 2 + 1, none⟩ = some (.slice A3 g.2.length c3)) from fun W hW => ⟨(HGw.out.below hW).cl, ((HWw.out.trans (hW.mono HWw.out.size)).cell (p := ⟨b, o + k * 2 + 1, none⟩) lb).trans x1⟩)
        have HPt := (show Hid (PtR gs now g.2) from ptR_of HZ.out.2 HP.out HK.out.2.2 hm)
        have HPa := (show Hid (Calls Try.prog 6 #[.agg #[.slice (some ⟨b, o, none⟩) gs.length c], .int .i64 (k : Int)] wr fun e w' => (∃ A4 c4, e = .returned (.tuple #[.slice A4 g.2.length c4, .int .i64 0]) ∧ RdE w' A4 ((List.range g.2.length).map (EE (lkE gs now) g.2))) ∧ Below wr.heap.size wr w') from by
          refine (partsP_any gs (some ⟨b, o, none⟩) c (k : Int) wr (HP.out.later HWw.out)).mono ?_
          rintro e w' ⟨⟨v, l, cd, rfl, hr, ho⟩, bb⟩
          obtain ⟨rfl, n2, hk2, rfl⟩ := (hr.2 HZ.out.1).2 k g rfl hg
          have := kf_same HK.out.1 hk2
          subst this
          rw [List.length_map, List.length_range] at ho
          obtain ⟨A4, c4, rfl⟩ := own_fm ho
          exact ⟨⟨A4, c4, rfl, own_rd ho (by rw [List.length_map, List.length_range])⟩, bb⟩)
        obtain ⟨ek, hek⟩ : ∃ e, e = EE (lkE gs now) g.2 jl := ⟨_, rfl⟩
        have HOf := (show Hid (∀ W, Below wr.heap.size wr W → Calls Try.prog 7 #[.agg #[.slice (some ⟨b, o, none⟩) gs.length c], .slice A3 g.2.length c3] W fun e w' => e = .returned (.tuple #[emG ek, .int .i64 0]) ∧ Below W.heap.size W w') from fun W hW => by
          have hbw := HWw.out.trans (hW.mono HWw.out.size)
          have htx := HP.out.t g hm
          refine (ofP_any gs (some ⟨b, o, none⟩) c g.2 A3 c3 htx.2.1 htx.2.2 W (HP.out.later hbw) (r2.below hbw (Nat.le_refl _))).mono ?_
          rintro e w' ⟨⟨x, cd, rfl, hx⟩, bb⟩
          obtain ⟨rfl, n2, hk2, rfl⟩ := ((hx.2 HZ.out.1).2 (HZ.out.2.ck g hm)).2 (fun n hn h6 => HZ.out.2.dn.c g hm n hn h6)
          have := kf_same HK.out.1 hk2
          subst this
          exact ⟨by rw [hek, show g.2.length - 1 = jl from by omega], bb⟩)
        have HLa := (show Hid (now[k]? = some ek ∨ now[k]? = some { ek with mo := -1 }) from by
          have h := kf_last HZ.out.2 HK.out.1 hg
          rw [show g.2.length - 1 = jl from by omega, ← hek] at h
          exact h)
        have HPl := (show Hid (((List.range g.2.length).map (EE (lkE gs now) g.2))[jl]? = some ek ∧ (List.range g.2.length).map (EE (lkE gs now) g.2) ≠ []) from by
          have h : ((List.range g.2.length).map (EE (lkE gs now) g.2))[jl]? = some ek := by rw [List.getElem?_map, List.getElem?_range (by omega), hek]; rfl
          exact ⟨h, fun q => by rw [q] at h; cases h⟩)
        have HEv := (show Hid (∀ j, j < g.2.length → ∃ e, ((List.range g.2.length).map (EE (lkE gs now) g.2))[j]? = some e ∧ OkE e) from fun j hj => ⟨_, by rw [List.getElem?_map, List.getElem?_range hj]; rfl, HPt.out.ee hj⟩)
        obtain ⟨pl, hpl⟩ : ∃ pl, pl = (List.range g.2.length).map (EE (lkE gs now) g.2) := ⟨_, rfl⟩
        rw [← hpl] at HPa HPl HEv
        have hgl : g.2.length ≤ 140737488355328 := (HP.out.t g hm).2.1
        have hsub : (g.2.length : Int) - 1 = (jl : Int) := by omega
        have tL : ((g.2.length : Int) == 0) = false := by rw [beq_eq_false_iff_ne]; omega
        have z0 : (0 : Int) ≤ (k : Int) := by omega
        have z1 : (k : Int) < (gs.length : Int) := by omega
        have z2 : (0 : Int) ≤ (jl : Int) := by omega
        have z3 : (jl : Int) < (g.2.length : Int) := by omega
        have q5 := (HRl.out wr (Below.refl _ _)).1
        clear hg hm hpos hjl lb x1 r2 hek hpl HWw HGw HPt q3
        go_wp2_with fail
        refine HPa.out.mono ?_
        rintro e w4 ⟨⟨A4, c4, rfl, hp4⟩, b4⟩
        have HB4 := (show Hid (Below wr.heap.size wr w4 ∧ Below w3.heap.size w3 w4) from ⟨b4, HW.out.trans (b4.mono HW.out.size)⟩)
        obtain ⟨gP, oP, rfl, lP, hEB⟩ := hp4 HPl.out.2
        have HEB := (show Hid (gP < w4.heap.size ∧ ∀ (j : Nat) e, pl[j]? = some e → EB w4 gP (oP + j * 4) e) from ⟨lP, hEB⟩)
        have hD : Below w4.heap.size w4 w4.drew := (Below.refl _ _).drew
        obtain ⟨wz, hwz⟩ : ∃ wz, wz = (w4.alloc (.cells #[.bool false, .bool false, .int .i64 0, .int .i64 0] 32)).drew := ⟨_, rfl⟩
        have hZ : Below w4.heap.size w4 wz := by rw [hwz]; exact (below_box w4 _).drew
        have HXz := (show Hid (EX wz w4.heap.size e0) from by rw [hwz]; exact (EX.new w4 e0).below (Below.refl _ _).drew)
        have HC1 := (show Hid (∀ _ : Unit, Calls Try.prog 7 #[.agg #[.slice (some ⟨b, o, none⟩) gs.length c], .slice A3 g.2.length c3] w4.drew fun e w' => e = .returned (.tuple #[emG ek, .int .i64 0]) ∧ Below w4.heap.size w4 w') from fun _ => (HOf.out w4.drew (HB4.out.1.trans (hD.mono HB4.out.1.size))).mono fun e w' q => ⟨q.1, hD.trans q.2⟩)
        have HC2 := (show Hid (∀ _ : Unit, Calls Try.prog 7 #[.agg #[.slice (some ⟨b, o, none⟩) gs.length c], .slice A3 g.2.length c3] wz fun e w' => e = .returned (.tuple #[emG ek, .int .i64 0]) ∧ Below w4.heap.size w4 w' ∧ EX w' w4.heap.size e0) from fun _ => (HOf.out wz (HB4.out.1.trans (hZ.mono HB4.out.1.size))).mono fun e w' q => ⟨q.1, hZ.trans (q.2.mono hZ.size), HXz.out.below q.2⟩)
        have HAl := (show Hid (∀ w5 : World, Below w4.heap.size w4 w5 → Hid (EX (w5.alloc (emO ek)) w5.heap.size ek ∧ Below w4.heap.size w4 (w5.alloc (emO ek)))) from fun w5 h => ⟨EX.new w5 ek, h.alloc h.size _⟩)
        have HSe := (show Hid (∀ w5 : World, Below w4.heap.size w4 w5 → EX w5 w4.heap.size e0 → Hid (EX (st4 w5 w4.heap.size ek) w4.heap.size ek ∧ Below w4.heap.size w4 (st4 w5 w4.heap.size ek))) from fun w5 h hx => ⟨hx.all ek, st4_below h (Nat.le_refl _) ek⟩)
        have d0 := (HRl.out w4.drew (HB4.out.1.trans (hD.mono HB4.out.1.size))).1
        have d1 := (HRl.out w4.drew (HB4.out.1.trans (hD.mono HB4.out.1.size))).2
        have e0' := (HRl.out wz (HB4.out.1.trans (hZ.mono HB4.out.1.size))).1
        have e1' := (HRl.out wz (HB4.out.1.trans (hZ.mono HB4.out.1.size))).2
        obtain ⟨en, ec, el, em⟩ := ek
        simp only [emG] at HC1 HC2
        simp only [st4, emO] at HAl HSe
        rw [hwz] at e0' e1' HC2
        clear hp4 lP hEB b4 hD hZ hwz HXz HOf HPa HW q5
        go_wp2_with fail
        go_cut [8, 9] from 31 to 173 (fun u8 u9 W => ∃ kk, u8 = .pointer (some ⟨kk, 0, none⟩) ∧ u9 = .int .i64 0 ∧ Hid (EX W kk ⟨en, ec, el, em⟩ ∧ Below w4.heap.size w4 W))
        case first =>
          go_region_law (first
            | (refine step_call2 enters_of9 rfl _ _ _ _ (by rfl) (.agg #[.slice (some ⟨b, o, none⟩) gs.length c]) (.slice A3 g.2.length c3) (by rfl) (by rfl) ?_; with_reducible refine (HC1.out ()).mono ?_; rintro e w5 ⟨rfl, h5⟩; refine ⟨_, rfl, ?_⟩; have HF := HAl.out w5 h5)
            | (refine step_call2 enters_of9 rfl _ _ _ _ (by rfl) (.agg #[.slice (some ⟨b, o, none⟩) gs.length c]) (.slice A3 g.2.length c3) (by rfl) (by rfl) ?_; with_reducible refine (HC2.out ()).mono ?_; rintro e w5 ⟨rfl, h5, hx5⟩; refine ⟨_, rfl, ?_⟩; have g0 := hx5.fz 0; have g1 := hx5.fz 1; have g2 := hx5.fz 2; have g3 := hx5.fz 3; have y0 := hx5.eb.c0; have y1 := hx5.eb.c1; have y2 := hx5.eb.c2; have y3 := hx5.eb.c3; have HF := HSe.out w5 h5 hx5))
          all_goals (go_wp2_with fail; go_meet; exact ⟨_, rfl, rfl, HF⟩)
        case rest =>
          obtain ⟨kk, rfl, rfl, HF⟩ := hcut
          obtain ⟨w6, hw6⟩ : ∃ W, W = wc := ⟨_, rfl⟩
          rw [← hw6] at HF ⊢
          clear hw6 HC1 HC2 HAl HSe d0 d1 e0' e1'
          obtain ⟨hxk, hb6⟩ := HF.out
          have HX6 := (show Hid (EX w6 kk ⟨en, ec, el, em⟩ ∧ Below w4.heap.size w4 w6) from ⟨hxk, hb6⟩)
          have d0 := (HRl.out w6 (HB4.out.1.trans (hb6.mono HB4.out.1.size))).1
          have d1 := (HRl.out w6 (HB4.out.1.trans (hb6.mono HB4.out.1.size))).2
          obtain ⟨p0, p1, p2, p3⟩ := (HEB.out.2 jl _ HPl.out.1).same (hb6.block gP HEB.out.1)
          simp only at p0 p1 p2 p3
          obtain ⟨w7, hw7⟩ : ∃ w7, w7 = w6.alloc (.cells #[.bool en, .bool ec, .int .i64 el, .int .i64 em] 32) := ⟨_, rfl⟩
          have HE7 := (show Hid (w6.alloc (.cells #[.bool en, .bool ec, .int .i64 el, .int .i64 em] 32) = w7) from hw7.symm)
          have HX7 := (show Hid (EX w7 kk ⟨en, ec, el, em⟩ ∧ EX w7 w6.heap.size ⟨en, ec, el, em⟩ ∧ Below w4.heap.size w4 w7) from by
            refine ⟨?_, ?_, ?_⟩
            · rw [hw7]; exact hxk.below (below_box _ _)
            · rw [hw7]; exact EX.new w6 ⟨en, ec, el, em⟩
            · rw [hw7]; exact hb6.alloc hb6.size _)
          obtain ⟨a0, a1, a2, a3⟩ := HX7.out.1.eb
          obtain ⟨b0, b1, b2, b3⟩ := HX7.out.2.1.eb
          simp only [Nat.zero_add] at a0 a1 a2 a3 b0 b1 b2 b3
          have hneq := em_neq ⟨en, ec, el, em⟩ ⟨en, ec, el, em⟩
          rw [eqB_iff.2 rfl] at hneq
          simp only [emG] at hneq
          have HX8 := (show Hid (Below w4.heap.size w4 w7) from HX7.out.2.2)
          have HNx := (show Hid (∃ (mr : Int), now[k]? = some (⟨en, ec, el, mr⟩ : Em) ∧ (mr = em ∨ mr = -1)) from by
            rcases HLa.out with h | h
            · exact ⟨em, h, .inl rfl⟩
            · exact ⟨-1, h, .inr rfl⟩)
          obtain ⟨mr, hnk, hmr⟩ := HNx.out
          have hnow : now ≠ [] := by rintro rfl; cases hnk
          obtain ⟨gl, ol, rfl, ll, hEl⟩ := HR3.out hnow
          obtain ⟨x0, x1, x2, x3⟩ := (hEl k _ hnk).same ((HB4.out.2.trans (HX8.out.mono HB4.out.2.size)).block gl ll)
          simp only at x0 x1 x2 x3
          clear hxk hb6 hw7 HF HX6 HX7 HNx HLa hnk hnow ll hEl
          go_wp2_with (rw [HE7.out])
          generalize w6.heap.size = k6 at *
          have tm2 : mr = -1 → decide ((0 : Int) ≤ mr) = false := fun h => by rw [h]; rfl
          by_cases hm0 : (0 : Int) ≤ mr
          · have tm : decide ((0 : Int) ≤ mr) = true := decide_eq_true hm0
            obtain rfl : mr = em := by
              rcases hmr with h | h
              · exact h
              · omega
            clear hmr tm2
            go_big_quiet (fail)
            have HB9 := (show Hid (Below w4.heap.size w4 (w7.drewN nq)) from HX8.out.trans ((below_dn _).mono HX8.out.size))
            generalize w7.drewN nq = w9 at *
            clear a0 a1 a2 a3 b0 b1 b2 b3 x0 x1 x2 x3 hneq HX8 tm hm0 HE7 d0 d1 p0 p1 p2 p3
            go_wp2_with fail
            go_loopw [136] (fun t wr => ∃ j : Nat, j ≤ g.2.length ∧ t = .int .i64 (j : Int) ∧ Hid (Below w4.heap.size w4 wr)) (fun t _ => g.2.length - (intOf t).toNat)
            case atStart => exact ⟨0, by omega, by go_num, HB9⟩
            case round =>
              clear HB9
              obtain ⟨j, hj, rfl, HV⟩ := hrel
              by_cases hjl : j < g.2.length
              · obtain ⟨⟨kn, kc, kl, km⟩, he, hok⟩ := HEv.out j hjl
                obtain ⟨p0, p1, p2, p3⟩ := (HEB.out.2 j _ he).same (HV.out.block gP HEB.out.1)
                simp only at p0 p1 p2 p3
                obtain ⟨l1, l2, m1, m2, hzz, hle⟩ := hok
                simp only at l1 l2 m1 m2 hzz hle
                have y0 : (0 : Int) ≤ (j : Int) := by omega
                have y1 : (j : Int) < (g.2.length : Int) := by omega
                have t2 : decide (km < -1) = false := decide_eq_false (by omega)
                cases kn with
                | true =>
                  obtain rfl : kl = 0 := hzz.1 rfl
                  have HV2 := (show Hid (Below w4.heap.size w4 (wr.alloc (.cells #[.bool true, .bool kc, .int .i64 0, .int .i64 km] 32))) from HV.out.alloc HV.out.size _)
                  by_cases h2 : (0 : Int) ≤ km
                  · have t5 : decide ((0 : Int) ≤ km) = true := decide_eq_true h2
                    have t6 : decide (km < 0) = false := decide_eq_false (by omega)
                    clear h2
                    clear he hzz hle l1 l2 m1 m2 HV
                    go_wp2_with fail
                    go_roundw
                    case rel => exact ⟨j + 1, by omega, by go_num, HV2⟩
                    case measure => simp [intOf]; omega
                  · have t5 : decide ((0 : Int) ≤ km) = false := decide_eq_false h2
                    clear h2
                    clear he hzz hle l1 l2 m1 m2 HV
                    go_wp2_with fail
                    go_roundw
                    case rel => exact ⟨j + 1, by omega, by go_num, HV2⟩
                    case measure => simp [intOf]; omega
                | false =>
                  have tk : (kl == 0) = false := by
                    rw [beq_eq_false_iff_ne]
                    intro q
                    have := hzz.2 q
                    cases this
                  have t1 : decide (kl < -1) = false := decide_eq_false (by omega)
                  have HV2 := (show Hid (Below w4.heap.size w4 (wr.alloc (.cells #[.bool false, .bool kc, .int .i64 kl, .int .i64 km] 32))) from HV.out.alloc HV.out.size _)
                  by_cases h1 : (0 : Int) ≤ kl
                  · have t4 : decide ((0 : Int) ≤ kl) = true := decide_eq_true h1
                    by_cases h2 : (0 : Int) ≤ km
                    · have t5 : decide ((0 : Int) ≤ km) = true := decide_eq_true h2
                      have t6 : decide (km < kl) = false := decide_eq_false (by have := hle h1 h2; omega)
                      clear h1 h2
                      clear he hzz hle l1 l2 m1 m2 HV
                      go_wp2_with fail
                      go_roundw
                      case rel => exact ⟨j + 1, by omega, by go_num, HV2⟩
                      case measure => simp [intOf]; omega
                    · have t5 : decide ((0 : Int) ≤ km) = false := decide_eq_false h2
                      clear h1 h2
                      clear he hzz hle l1 l2 m1 m2 HV
                      go_wp2_with fail
                      go_roundw
                      case rel => exact ⟨j + 1, by omega, by go_num, HV2⟩
                      case measure => simp [intOf]; omega
                  · have t4 : decide ((0 : Int) ≤ kl) = false := decide_eq_false h1
                    clear h1
                    clear he hzz hle l1 l2 m1 m2 HV
                    go_wp2_with fail
                    go_roundw
                    case rel => exact ⟨j + 1, by omega, by go_num, HV2⟩
                    case measure => simp [intOf]; omega
              · obtain rfl : j = g.2.length := by omega
                have HB10 := (show Hid (Below w3.heap.size w3 wr) from HB4.out.2.trans (HV.out.mono HB4.out.2.size))
                clear HV HEv HEB HPl HRl HB4
                go_wp2_with fail
                go_roundg (gs.length - (k + 1))
                case measure => have := HGk.out; omega
                case rel => exact ⟨k + 1, by omega, rfl, by go_num, HB10⟩
          · have tm : decide ((0 : Int) ≤ mr) = false := decide_eq_false hm0
            clear hmr tm2
            go_big_quiet (fail)
            have HB9 := (show Hid (Below w4.heap.size w4 (w7.drewN nq)) from HX8.out.trans ((below_dn _).mono HX8.out.size))
            generalize w7.drewN nq = w9 at *
            clear a0 a1 a2 a3 b0 b1 b2 b3 x0 x1 x2 x3 hneq HX8 tm hm0 HE7 d0 d1 p0 p1 p2 p3
            go_wp2_with fail
            go_loopw [136] (fun t wr => ∃ j : Nat, j ≤ g.2.length ∧ t = .int .i64 (j : Int) ∧ Hid (Below w4.heap.size w4 wr)) (fun t _ => g.2.length - (intOf t).toNat)
            case atStart => exact ⟨0, by omega, by go_num, HB9⟩
            case round =>
              clear HB9
              obtain ⟨j, hj, rfl, HV⟩ := hrel
              by_cases hjl : j < g.2.length
              · obtain ⟨⟨kn, kc, kl, km⟩, he, hok⟩ := HEv.out j hjl
                obtain ⟨p0, p1, p2, p3⟩ := (HEB.out.2 j _ he).same (HV.out.block gP HEB.out.1)
                simp only at p0 p1 p2 p3
                obtain ⟨l1, l2, m1, m2, hzz, hle⟩ := hok
                simp only at l1 l2 m1 m2 hzz hle
                have y0 : (0 : Int) ≤ (j : Int) := by omega
                have y1 : (j : Int) < (g.2.length : Int) := by omega
                have t2 : decide (km < -1) = false := decide_eq_false (by omega)
                cases kn with
                | true =>
                  obtain rfl : kl = 0 := hzz.1 rfl
                  have HV2 := (show Hid (Below w4.heap.size w4 (wr.alloc (.cells #[.bool true, .bool kc, .int .i64 0, .int .i64 km] 32))) from HV.out.alloc HV.out.size _)
                  by_cases h2 : (0 : Int) ≤ km
                  · have t5 : decide ((0 : Int) ≤ km) = true := decide_eq_true h2
                    have t6 : decide (km < 0) = false := decide_eq_false (by omega)
                    clear h2
                    clear he hzz hle l1 l2 m1 m2 HV
                    go_wp2_with fail
                    go_roundw
                    case rel => exact ⟨j + 1, by omega, by go_num, HV2⟩
                    case measure => simp [intOf]; omega
                  · have t5 : decide ((0 : Int) ≤ km) = false := decide_eq_false h2
                    clear h2
                    clear he hzz hle l1 l2 m1 m2 HV
                    go_wp2_with fail
                    go_roundw
                    case rel => exact ⟨j + 1, by omega, by go_num, HV2⟩
                    case measure => simp [intOf]; omega
                | false =>
                  have tk : (kl == 0) = false := by
                    rw [beq_eq_false_iff_ne]
                    intro q
                    have := hzz.2 q
                    cases this
                  have t1 : decide (kl < -1) = false := decide_eq_false (by omega)
                  have HV2 := (show Hid (Below w4.heap.size w4 (wr.alloc (.cells #[.bool false, .bool kc, .int .i64 kl, .int .i64 km] 32))) from HV.out.alloc HV.out.size _)
                  by_cases h1 : (0 : Int) ≤ kl
                  · have t4 : decide ((0 : Int) ≤ kl) = true := decide_eq_true h1
                    by_cases h2 : (0 : Int) ≤ km
                    · have t5 : decide ((0 : Int) ≤ km) = true := decide_eq_true h2
                      have t6 : decide (km < kl) = false := decide_eq_false (by have := hle h1 h2; omega)
                      clear h1 h2
                      clear he hzz hle l1 l2 m1 m2 HV
                      go_wp2_with fail
                      go_roundw
                      case rel => exact ⟨j + 1, by omega, by go_num, HV2⟩
                      case measure => simp [intOf]; omega
                    · have t5 : decide ((0 : Int) ≤ km) = false := decide_eq_false h2
                      clear h1 h2
                      clear he hzz hle l1 l2 m1 m2 HV
                      go_wp2_with fail
                      go_roundw
                      case rel => exact ⟨j + 1, by omega, by go_num, HV2⟩
                      case measure => simp [intOf]; omega
                  · have t4 : decide ((0 : Int) ≤ kl) = false := decide_eq_false h1
                    clear h1
                    clear he hzz hle l1 l2 m1 m2 HV
                    go_wp2_with fail
                    go_roundw
                    case rel => exact ⟨j + 1, by omega, by go_num, HV2⟩
                    case measure => simp [intOf]; omega
              · obtain rfl : j = g.2.length := by omega
                have HB10 := (show Hid (Below w3.heap.size w3 wr) from HB4.out.2.trans (HV.out.mono HB4.out.2.size))
                clear HV HEv HEB HPl HRl HB4
                go_wp2_with fail
                go_roundg (gs.length - (k + 1))
                case measure => have := HGk.out; omega
                case rel => exact ⟨k + 1, by omega, rfl, by go_num, HB10⟩
      · obtain rfl : k = gs.length := by omega
        have HB := (show Hid (Below w.heap.size w wr) from HB3.out.1.trans (HW.out.mono HB3.out.1.size))
        clear HW HB3 HR3 HK HZ HP
        go_wp2_with fail
        go_ret
        exact ⟨rfl, HB.out⟩
  · have HZ := (show Hid ((ckG gs).2 ≠ 0) from hz)
    have tz : ((ckG gs).2 != 0) = true := by rw [bne, beq_eq_false_iff_ne.2 hz]; rfl
    clear hz
    go_wp2_with fail
    refine HRu.out.mono ?_
    rintro e w3 ⟨⟨v, now, rfl, hr, ho⟩, b3⟩
    have e2 := hr.2 HZ.out
    subst e2
    obtain ⟨A1, c1, rfl⟩ := own_fm ho
    have HB3 := (show Hid (Below w.heap.size w w3) from HB2.out.trans (b3.mono HB2.out.size))
    clear hr ho b3 HRu HG2 HB2 q2 HP HZ
    generalize (ckG gs).2 = cd at *
    go_wp2_with fail
    go_ret
    exact ⟨rfl, HB3.out⟩
end Go.Proofs.Ytokfgoepnfjafaa.N

namespace Go.Proofs.Ytokfgoepnfjafaa
open Go.ChangeShapes Go.WideShapes Go.ChangeAt Go.RowKit
open Go.ChangeMaps (open_string shut_string)
set_option maxRecDepth 100000 in
theorem emptyLeast_lifted (os : Os) (started : os.Started) (H : Type) (enc : TypeId × Value → H) :
    ReturnsInHanded {} Try.checked os 3 .any (Rows.emptyLeastSpec.pre6 enc Try.prog Try.f3 Rows.emptyLeastRow.domain false) (Rows.emptyLeastSpec.post enc Try.prog Try.f3 false true false false) := by
  refine returnsInHanded_of_change_sized (C := Try.checked) T.own started (by kernel_rfl) Try.func3
    (ChangeSpec.witness6 (enc := enc) (C := Try.checked) false ⟨#[], #[.agg #[.slice none 0 0]], []⟩ 8 (by kernel_rfl) (by kernel_rfl) (by kernel_rfl) (by kernel_rfl)) ?_
  intro W base args ds gs before hval0 hW hcnd hsz _
  have hval : ∀ (j : Nat) t v, Try.f3.params[j]? = some t → args[j]? = some v → Value.okWide Try.prog W .any base t v := hval0
  have hW' := hW
  obtain ⟨p, q, hA0, hV, rfl, hfz, hnd⟩ := hW
  have hA : DataW.TrodAll enc Try.prog W 0 (fun _ => true) true Try.f3.params.toList args.toList ds p := hA0
  rw [Try.params3] at hA hval
  have hsz : (DataW.weightsEach Try.prog (#[24].toList ++ Rows.emptyLeastSpec.plain.varTypes Try.prog) (ds ++ gs)).all (· ≤ reachBytes) = true := hsz
  obtain ⟨v0, d0, rfl, rfl, h0⟩ := trodAll_one hA
  obtain ⟨rfl, rfl⟩ := trodVars_none hV
  have lt0 : ∀ x ∈ p, x.block < W.heap.size := by obtain ⟨m, hm⟩ := h0; exact DataW.trod_lt m _ _ _ hm
  obtain ⟨A0, c0, L0, rfl, r0⟩ := N.open_gram h0 (hval 0 24 v0 rfl rfl) (T.sized_at hsz (j := 0) rfl rfl)
  clear hA0 hval0
  refine (N.least_law L0 A0 c0 W r0).mono fun e W' ⟨he, bel⟩ => ?_
  subst he
  exact ⟨_, rfl, _, _, _, [], _, [], hW', trodAll_mk1 (shut_bool Try.underlying4 _), (trodAll_cons_mk (Below.trod T.laidOut (by kernel_rfl) (of_decide_eq_true (by kernel_rfl)) h0 bel lt0) trodAll_mk0), rfl, bel.frame _, fun h => by cases h⟩

theorem emptyLeast_holds : Rows.EmptyLeastSaid :=
  OpenClaim.holds_of_wide 3 Try.f3 rfl rfl rfl rfl rfl rfl rfl ⟨rfl, rfl, rfl, rfl, rfl⟩ rfl rfl rfl rfl rfl (by kernel_rfl) Try.func3 (by kernel_rfl)
    (of_decide_eq_true (by kernel_rfl)) (by unfold Func.isWrapper; first | (rw [if_pos (by decide +kernel)]; kernel_rfl) | (rw [if_neg (by decide +kernel)]; exact ⟨rfl, rfl⟩))
    (fun os started H enc _ => emptyLeast_lifted os started H enc)
end Go.Proofs.Ytokfgoepnfjafaa
