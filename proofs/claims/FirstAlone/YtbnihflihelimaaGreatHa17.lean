/- FirstAlone (11.2): of any grammar and any two patterns, a rule, its pattern and the last of its parts are known alike, what fails at its head is not empty, and a choice is decided as what is known of both says; for grammars and patterns within the reach of the form. -/
import Derived.BigQuiet
import Derived.Deep.RegionLaw
import Derived.Deep.LoopGhost
import Derived.Deep.CutRange
import Derived.Test.YtbnihflihelimaaGreatHa16
namespace Go.Proofs.YtbnihflihelimaaGreat.N
open Go.RowKit Go.Maps
open Go.Proofs.YtbnihflihelimaaGreat.T

open U (own_get own_slice below_grown)
theorem pgS_bd {gs : GL} {bd bd2 : Nat → Bool} (h : ∀ i, i < gs.length → bd i = bd2 i) : pgS gs bd = pgS gs bd2 := by
  unfold pgS
  refine List.map_congr_left fun i hi => ?_
  rw [h i (List.mem_range.1 hi)]
theorem rdE_bd0 {gs : GL} {kd : List Nd → Nat → List Nat} {bd bd2 : Nat → Bool} (h : ∀ i, i < gs.length → bd i = bd2 i) (now : List Em) : rdE gs kd bd now = rdE gs kd bd2 now := by
  apply List.ext_getElem?
  intro i
  by_cases hi : i < gs.length
  · have hg : gs[i]? = some gs[i] := List.getElem?_eq_getElem hi
    rw [rdE_get hg, rdE_get hg, h i hi]
  · rw [List.getElem?_eq_none (by rw [rdE_len]; omega), List.getElem?_eq_none (by rw [rdE_len]; omega)]
theorem pgE_bd {gs : GL} {kd : List Nd → Nat → List Nat} {bd bd2 : Nat → Bool} (h : ∀ i, i < gs.length → bd i = bd2 i) : ∀ m, pgE gs kd bd m = pgE gs kd bd2 m := by
  intro m
  induction m with
  | zero => exact pgS_bd h
  | succ m ih =>
    show rdE gs kd bd (pgE gs kd bd m) = rdE gs kd bd2 (pgE gs kd bd2 m)
    rw [ih, rdE_bd0 h]
theorem kf_same {gs : GL} {a b : List Em} (h1 : KnF gs a) (h2 : KnF gs b) : a = b := by
  obtain ⟨R, bd, m, hI, hbd, rfl, he⟩ := h1
  obtain ⟨R2, bd2, m2, hI2, hbd2, rfl, he2⟩ := h2
  have hs : ∀ i, i < gs.length → bd2 i = bd i := fun i hi => by
    rw [hbd2 i, hbd i]
    congr 1
    rw [Bool.eq_iff_iff, hI2.rl i i hi hi, hI.rl i i hi hi]
  rw [pgE_bd hs] at he2 ⊢
  rw [pgE_bd hs] at he2
  have e1 := pg_fix he m2
  have e2 := pg_fix he2 m
  rw [← e1, ← e2, Nat.add_comm]

theorem FoR.one {gs : GL} {now : List Em} {fs : List Fs} {L : List Nd} {x y : Fs} {a b : Int} (h : FoR gs now fs L x a) (g : FoR gs now fs L y b) : x = y ∧ a = b := by
  by_cases hc : (ck L).2 = 0
  · by_cases hm : ∃ n ∈ L, n.op = 6 ∧ fdG gs n.tx = none
    · obtain ⟨rfl, rfl⟩ := (h.2 hc).1 hm
      obtain ⟨rfl, rfl⟩ := (g.2 hc).1 hm
      exact ⟨rfl, rfl⟩
    · have ha : ∀ n ∈ L, n.op = 6 → ∃ i, fdG gs n.tx = some i := fun n hn h6 => by
        cases e : fdG gs n.tx with
        | none => exact absurd ⟨n, hn, h6, e⟩ hm
        | some i => exact ⟨i, rfl⟩
      obtain ⟨rfl, rfl⟩ := (h.2 hc).2 ha
      obtain ⟨rfl, rfl⟩ := (g.2 hc).2 ha
      exact ⟨rfl, rfl⟩
  · obtain ⟨rfl, rfl⟩ := h.1 hc
    obtain ⟨rfl, rfl⟩ := g.1 hc
    exact ⟨rfl, rfl⟩
theorem fx_same {gs : GL} {n1 n2 : List Em} {a b : List Fs} (k1 : KnF gs n1) (k2 : KnF gs n2) (h1 : FxR gs n1 a) (h2 : FxR gs n2 b) : n1 = n2 ∧ a = b := by
  have e := kf_same k1 k2
  subst e
  exact ⟨rfl, h1.one h2⟩
theorem enters_fsOf (args : Array Value) (w : World) : (callFunc 15 args).run Tryz.prog w = .ok (.enter 15 args) w := enters_of Tryz.func15 (by kernel_rfl) rfl args w
set_option maxRecDepth 100000 in
set_option maxHeartbeats 64000000 in
theorem alone_law (gs : GL) (A : Option Addr) (c : Nat) (L : List Nd) (Ap : Option Addr) (cp : Nat) (M : List Nd) (Aq : Option Addr) (cq : Nat) (w : World) (hg : GrIn w A c gs) (hL : L.length ≤ 140737488355328 ∧ (∀ n ∈ L, n.tx.size ≤ 140737488355328) ∧ (∀ n ∈ L, NdW n) ∧ RdN w Ap L) (hM : M.length ≤ 140737488355328 ∧ (∀ n ∈ M, n.tx.size ≤ 140737488355328) ∧ (∀ n ∈ M, NdW n) ∧ RdN w Aq M) : Calls Tryz.prog 5 #[.agg #[.slice A gs.length c], .slice Ap L.length cp, .slice Aq M.length cq] w fun e w' => e = .returned (.bool true) ∧ Below w.heap.size w w' := by
  obtain ⟨w1, hw1⟩ : ∃ w1, w1 = w.alloc (.cells #[.slice A gs.length c] 24) := ⟨_, rfl⟩
  have HE1 := (show Hid (w.alloc (.cells #[.slice A gs.length c] 24) = w1) from hw1.symm)
  have HB1 := (show Hid (Below w.heap.size w w1) from by rw [hw1]; exact below_box w _)
  have HG1 := (show Hid (GX w1 w.heap.size (.slice A gs.length c)) from by rw [hw1]; exact GX.mk (heap_alloc_new w _))
  have HP := (show Hid (GI w A gs) from hg.gi)
  have HNW := (show Hid (∀ g ∈ gs, ∀ n ∈ g.2, NdW n) from hg.nw)
  have HLt := (show Hid (L.length ≤ 140737488355328 ∧ (∀ n ∈ L, n.tx.size ≤ 140737488355328) ∧ (∀ n ∈ L, NdW n) ∧ RdN w Ap L) from hL)
  have HMt := (show Hid (M.length ≤ 140737488355328 ∧ (∀ n ∈ M, n.tx.size ≤ 140737488355328) ∧ (∀ n ∈ M, NdW n) ∧ RdN w Aq M) from hM)
  have HWk := (show Hid (∀ W, Calls Tryz.prog 13 #[] W fun e w' => e = .returned (.bool true) ∧ Below W.heap.size W w') from works11_any)
  clear hw1 hg hL hM
  go_enter Tryz.func5, Tryz.ntmps5
  go_wp2_with (rw [HE1.out])
  refine (HWk.out w1).mono ?_
  rintro e w2 ⟨rfl, b2⟩
  have HB2 := (show Hid (Below w.heap.size w w2) from HB1.out.trans (b2.mono HB1.out.size))
  have HG2 := (show Hid (GX w2 w.heap.size (.slice A gs.length c)) from HG1.out.below b2)
  have q2 := HG2.out.cl
  clear b2 HWk HE1 HB1 HG1
  have HRu := (show Hid (Calls Tryz.prog 7 #[.agg #[.slice A gs.length c]] w2 fun e w' => (∃ v fs, e = .returned (.tuple #[v, .int .i64 (ckG gs).2]) ∧ RsF gs fs ∧ w'.ownsRow w2.heap.size 36 6 v fs.length (fsc fs)) ∧ Below w2.heap.size w2 w') from fsRules_any gs A c w2 (HP.out.later HB2.out) HNW.out)
  by_cases hz : (ckG gs).2 = 0
  · have hR := ckG_ok.1 hz
    have HZ := (show Hid ((ckG gs).2 = 0 ∧ RtG gs) from ⟨hz, hR⟩)
    have hn200 := hR.n2
    rw [hz] at HRu
    clear hz hR
    go_wp2_with fail
    refine HRu.out.mono ?_
    rintro e w3 ⟨⟨v, fs, rfl, hr, ho⟩, b3⟩
    obtain ⟨now, hk, hl, hx⟩ := hr.1 HZ.out.1
    have hfl := hx.i.l
    rw [hfl] at ho
    have hn1 := HZ.out.2.n1
    obtain ⟨gl, c1, rfl, _, _⟩ := ho.form (by omega)
    have HK := (show Hid (KnF gs now ∧ now.length = gs.length ∧ FxR gs now fs) from ⟨hk, hl, hx⟩)
    have HB3 := (show Hid (Below w.heap.size w w3 ∧ GX w3 w.heap.size (.slice A gs.length c)) from ⟨HB2.out.trans (b3.mono HB2.out.size), HG2.out.below b3⟩)
    have HR3 := (show Hid (RdF w3 (some ⟨gl, 0, none⟩) fs) from by
      have h := fs_read ho [] fs rfl
      rw [List.length_nil, Nat.zero_mul] at h
      exact h)
    have q3 := HB3.out.2.cl
    clear hr ho b3 hk hl hx hfl HRu HG2 HB2 q2
    go_wp2_with fail
    go_loopg [9] gs.length (fun gk t wr => ∃ k : Nat, k ≤ gs.length ∧ gk = gs.length - k ∧ t = .int .i64 (k : Int) ∧ Hid (Below w3.heap.size w3 wr))
    case atStart => exact ⟨0, by omega, by omega, by go_num, Below.refl _ _⟩
    case round =>
      obtain ⟨k, hk, hgk, rfl, HW⟩ := hrel
      have HGk := (show Hid (gk = gs.length - k) from hgk)
      clear hgk
      by_cases hlt : k < gs.length
      · obtain ⟨g, hg⟩ : ∃ g, gs[k]? = some g := ⟨_, List.getElem?_eq_getElem hlt⟩
        have hm := List.mem_of_getElem? hg
        have hpos := (rtB HZ.out.2 hm).2.1
        obtain ⟨jl, hjl⟩ : ∃ j, g.2.length = j + 1 := ⟨g.2.length - 1, by omega⟩
        obtain ⟨b, o, A3, c3, rfl, lb, _, x1, r2⟩ := HP.out.d k g hg
        have HWw := (show Hid (Below w.heap.size w wr) from HB3.out.1.trans (HW.out.mono HB3.out.1.size))
        have HGw := (show Hid (GX wr w.heap.size (.slice (some ⟨b, o, none⟩) gs.length c)) from HB3.out.2.below HW.out)
        have HRl := (show Hid (∀ W, Below wr.heap.size wr W → W.cell? ⟨w.heap.size, 0, none⟩ = some (.slice (some ⟨b, o, none⟩) gs.length c) ∧ W.cell? ⟨b, o + k * 2 + 1, none⟩ = some (.slice A3 g.2.length c3)) from fun W hW => ⟨(HGw.out.below hW).cl, ((HWw.out.trans (hW.mono HWw.out.size)).cell (p := ⟨b, o + k * 2 + 1, none⟩) lb).trans x1⟩)
        obtain ⟨ek, hek⟩ : ∃ e, e = faR gs now fs g.2 jl := ⟨_, rfl⟩
        obtain ⟨pl, hpl⟩ : ∃ pl, pl = (List.range g.2.length).map (faR gs now fs g.2) := ⟨_, rfl⟩
        have HPa := (show Hid (Calls Tryz.prog 9 #[.agg #[.slice (some ⟨b, o, none⟩) gs.length c], .int .i64 (k : Int)] wr fun e w' => (∃ gP c4, e = .returned (.tuple #[.slice (some ⟨gP, 0, none⟩) g.2.length c4, .int .i64 0]) ∧ RdF w' (some ⟨gP, 0, none⟩) pl ∧ gP < w'.heap.size) ∧ Below wr.heap.size wr w') from by
          refine (fsPartsC_any gs (some ⟨b, o, none⟩) c (k : Int) wr (HP.out.later HWw.out) HNW.out).mono ?_
          rintro e w' ⟨⟨v, l, cd, rfl, hr, ho⟩, bb⟩
          obtain ⟨rfl, n2, f2, k1, k2, k3, rfl⟩ := (hr.2 HZ.out.1).2 k g rfl hg
          obtain ⟨rfl, rfl⟩ := fx_same HK.out.1 k1 HK.out.2.2 k3
          rw [← hpl] at ho
          have hll : pl.length = g.2.length := by rw [hpl, List.length_map, List.length_range]
          rw [hll] at ho
          obtain ⟨gP, c4, rfl, _, _⟩ := ho.form hpos
          have h := fs_read ho [] pl rfl
          rw [List.length_nil, Nat.zero_mul] at h
          exact ⟨⟨gP, c4, rfl, h, (ho.lt gP rfl).2⟩, bb⟩)
        have HOf := (show Hid (∀ W, Below wr.heap.size wr W → Calls Tryz.prog 15 #[.agg #[.slice (some ⟨b, o, none⟩) gs.length c], .slice A3 g.2.length c3] W fun e w' => e = .returned (.tuple #[fG ek, .int .i64 0]) ∧ Below W.heap.size W w') from fun W hW => by
          have hbw := HWw.out.trans (hW.mono HWw.out.size)
          have htx := HP.out.t g hm
          refine (fsOf_any gs (some ⟨b, o, none⟩) c g.2 A3 c3 htx.2.1 htx.2.2 (HNW.out g hm) W (HP.out.later hbw) HNW.out (r2.below hbw (Nat.le_refl _))).mono ?_
          rintro e w' ⟨⟨x, cd, rfl, hx⟩, bb⟩
          obtain ⟨n2, f2, k1, k2, k3, k4⟩ := hx.2 HZ.out.1
          obtain ⟨rfl, rfl⟩ := fx_same HK.out.1 k1 HK.out.2.2 k3
          obtain ⟨rfl, rfl⟩ := (k4.2 (HZ.out.2.ck g hm)).2 (fun n hn h6 => HZ.out.2.dn.c g hm n hn h6)
          exact ⟨by rw [hek, show g.2.length - 1 = jl from by omega], bb⟩)
        have HLa := (show Hid (fs[k]? = some ek) from by
          have h := HK.out.2.2.x k hlt
          rw [spF_of hg, show g.2.length - 1 = jl from by omega, ← hek] at h
          exact h)
        have HPl := (show Hid (pl[jl]? = some ek) from by rw [hpl, List.getElem?_map, List.getElem?_range (by omega), hek]; rfl)
        have HEv := (show Hid (∀ j, j < g.2.length → ∃ e, pl[j]? = some e ∧ NeF e) from fun j hj => ⟨_, by rw [hpl, List.getElem?_map, List.getElem?_range hj]; rfl, faR_ne HK.out.2.2.i.ne _ _⟩)
        have hgl : g.2.length ≤ 140737488355328 := (HP.out.t g hm).2.1
        have hsub : (g.2.length : Int) - 1 = (jl : Int) := by omega
        have tL : ((g.2.length : Int) == 0) = false := by rw [beq_eq_false_iff_ne]; omega
        have z0 : (0 : Int) ≤ (k : Int) := by omega
        have z1 : (k : Int) < (gs.length : Int) := by omega
        have z2 : (0 : Int) ≤ (jl : Int) := by omega
        have z3 : (jl : Int) < (g.2.length : Int) := by omega
        have q5 := (HRl.out wr (Below.refl _ _)).1
        clear hg hm hpos hjl lb x1 r2 hek hpl HWw HGw q3
        go_wp2_with fail
        refine HPa.out.mono ?_
        rintro e w4 ⟨⟨gP, c4, rfl, hp4, lP⟩, b4⟩
        have HB4 := (show Hid (Below wr.heap.size wr w4 ∧ Below w3.heap.size w3 w4) from ⟨b4, HW.out.trans (b4.mono HW.out.size)⟩)
        have HEB := (show Hid (RdF w4 (some ⟨gP, 0, none⟩) pl) from hp4)
        have hD : Below w4.heap.size w4 w4.drew := (Below.refl _ _).drew
        obtain ⟨wz, hwz⟩ : ∃ wz, wz = (w4.alloc (.cells #[.int .u64 0, .int .u64 0, .int .u64 0, .int .u64 0, .bool false, .bool false] 36)).drew := ⟨_, rfl⟩
        have hZ : Below w4.heap.size w4 wz := by rw [hwz]; exact (below_box w4 _).drew
        have HXz := (show Hid (FX wz w4.heap.size f0) from by
          have h := FX.new w4 f0
          have z0 : ∀ i, wd f0.st i = 0 := fun i => wd_zero i
          rw [z0, z0, z0, z0] at h
          rw [hwz]; exact h.below (Below.refl _ _).drew)
        have HC1 := (show Hid (∀ _ : Unit, Calls Tryz.prog 15 #[.agg #[.slice (some ⟨b, o, none⟩) gs.length c], .slice A3 g.2.length c3] w4.drew fun e w' => e = .returned (.tuple #[fG ek, .int .i64 0]) ∧ Below w4.heap.size w4 w') from fun _ => (HOf.out w4.drew (HB4.out.1.trans (hD.mono HB4.out.1.size))).mono fun e w' q => ⟨q.1, hD.trans q.2⟩)
        have HC2 := (show Hid (∀ _ : Unit, Calls Tryz.prog 15 #[.agg #[.slice (some ⟨b, o, none⟩) gs.length c], .slice A3 g.2.length c3] wz fun e w' => e = .returned (.tuple #[fG ek, .int .i64 0]) ∧ Below w4.heap.size w4 w' ∧ FX w' w4.heap.size f0) from fun _ => (HOf.out wz (HB4.out.1.trans (hZ.mono HB4.out.1.size))).mono fun e w' q => ⟨q.1, hZ.trans (q.2.mono hZ.size), HXz.out.below q.2⟩)
        have HAl := (show Hid (∀ w5 : World, Below w4.heap.size w4 w5 → Hid (FX (w5.alloc (.cells #[.int .u64 (wd ek.st 0), .int .u64 (wd ek.st 1), .int .u64 (wd ek.st 2), .int .u64 (wd ek.st 3), .bool ek.em, .bool ek.hf] 36)) w5.heap.size ek ∧ Below w4.heap.size w4 (w5.alloc (.cells #[.int .u64 (wd ek.st 0), .int .u64 (wd ek.st 1), .int .u64 (wd ek.st 2), .int .u64 (wd ek.st 3), .bool ek.em, .bool ek.hf] 36)))) from fun w5 h => ⟨FX.new w5 ek, h.alloc h.size _⟩)
        have HSe := (show Hid (∀ w5 : World, Below w4.heap.size w4 w5 → FX w5 w4.heap.size f0 → Hid (FX (sF w5 w4.heap.size ek) w4.heap.size ek ∧ Below w4.heap.size w4 (sF w5 w4.heap.size ek))) from fun w5 h hx => ⟨sF_fx hx ek, sF_below _ _ h (Nat.le_refl _)⟩)
        have d0 := (HRl.out w4.drew (HB4.out.1.trans (hD.mono HB4.out.1.size))).1
        have d1 := (HRl.out w4.drew (HB4.out.1.trans (hD.mono HB4.out.1.size))).2
        have e0' := (HRl.out wz (HB4.out.1.trans (hZ.mono HB4.out.1.size))).1
        have e1' := (HRl.out wz (HB4.out.1.trans (hZ.mono HB4.out.1.size))).2
        unfold sF at HSe
        rw [hwz] at e0' e1' HC2
        clear hp4 b4 hD hZ hwz HXz HOf HPa HW q5
        go_wp2_with fail
        go_cut [12, 13] from 52 to 119 (fun u12 u13 W => ∃ kk, u12 = .pointer (some ⟨kk, 0, none⟩) ∧ u13 = .int .i64 0 ∧ Hid (FX W kk ek ∧ Below w4.heap.size w4 W))
        case first =>
          go_region_law (first
            | (refine step_call2 enters_fsOf rfl _ _ _ _ (by rfl) (.agg #[.slice (some ⟨b, o, none⟩) gs.length c]) (.slice A3 g.2.length c3) (by rfl) (by rfl) ?_; with_reducible refine (HC1.out ()).mono ?_; rintro e w5 ⟨rfl, h5⟩; refine ⟨_, rfl, ?_⟩; have HF := HAl.out w5 h5)
            | (refine step_call2 enters_fsOf rfl _ _ _ _ (by rfl) (.agg #[.slice (some ⟨b, o, none⟩) gs.length c]) (.slice A3 g.2.length c3) (by rfl) (by rfl) ?_; with_reducible refine (HC2.out ()).mono ?_; rintro e w5 ⟨rfl, h5, hx5⟩; refine ⟨_, rfl, ?_⟩; have g0 := hx5.fz 0; have g1 := hx5.fz 1; have g2 := hx5.fz 2; have g3 := hx5.fz 3; have g4 := hx5.fz 4; have g5 := hx5.fz 5; have y0 := hx5.c0; have y1 := hx5.c1; have y2 := hx5.c2; have y3 := hx5.c3; have y4 := hx5.c4; have y5 := hx5.c5; have HF := HSe.out w5 h5 hx5))
          all_goals (go_wp2_with fail; go_meet; exact ⟨_, rfl, rfl, HF⟩)
        case rest =>
          obtain ⟨kk, rfl, rfl, HF⟩ := hcut
          obtain ⟨w6, hw6⟩ : ∃ W, W = wc := ⟨_, rfl⟩
          rw [← hw6] at HF ⊢
          clear hw6 HC1 HC2 HAl HSe d0 d1 e0' e1'
          obtain ⟨hxk, hb6⟩ := HF.out
          have hb6d : Below w4.heap.size w4 w6.drew := hb6.trans (((Below.refl _ _).drew).mono hb6.size)
          have d0 := (HRl.out w6.drew (HB4.out.1.trans (hb6d.mono HB4.out.1.size))).1
          have d1 := (HRl.out w6.drew (HB4.out.1.trans (hb6d.mono HB4.out.1.size))).2
          have c0 := (HRl.out w6 (HB4.out.1.trans (hb6.mono HB4.out.1.size))).1
          have c1 := (HRl.out w6 (HB4.out.1.trans (hb6.mono HB4.out.1.size))).2
          obtain ⟨g9, o9, e9, l9, p0, p1, p2, p3, p4, p5⟩ := (HEB.out.later hb6) jl ek HPl.out
          cases e9
          obtain ⟨g8, o8, e8, l8, x0, x1, x2, x3, x4, x5⟩ := (HR3.out.later (HB4.out.2.trans (hb6.mono HB4.out.2.size))) k ek HLa.out
          cases e8
          simp only [Nat.zero_add] at p0 p1 p2 p3 p4 p5 x0 x1 x2 x3 x4 x5
          have a0 := hxk.c0
          have a1 := hxk.c1
          have a2 := hxk.c2
          have a3 := hxk.c3
          have a4 := hxk.c4
          have a5 := hxk.c5
          have hneq := fs_neq ek ek
          rw [(feB_iff _ _).2 rfl] at hneq
          have HX8 := (show Hid (Below w4.heap.size w4 w6) from hb6)
          clear hxk hb6 hb6d HF HLa HPl d0 d1
          go_wp2_with fail
          go_big_quiet (fail)
          have HB9 := (show Hid (Below w4.heap.size w4 (w6.drewN nq)) from HX8.out.trans ((below_dn _).mono HX8.out.size))
          generalize w6.drewN nq = w9 at *
          clear a0 a1 a2 a3 a4 a5 x0 x1 x2 x3 x4 x5 hneq HX8 c0 c1 p0 p1 p2 p3 p4 p5
          go_wp2_with fail
          go_loopw [109] (fun t wr => ∃ j : Nat, j ≤ g.2.length ∧ t = .int .i64 (j : Int) ∧ Hid (Below w4.heap.size w4 wr)) (fun t _ => g.2.length - (intOf t).toNat)
          case atStart => exact ⟨0, by omega, by go_num, HB9⟩
          case round =>
            clear HB9
            obtain ⟨j, hj, rfl, HV⟩ := hrel
            by_cases hjl : j < g.2.length
            · obtain ⟨e, he, hne⟩ := HEv.out j hjl
              obtain ⟨g9, o9, e9, l9, p0, p1, p2, p3, p4, p5⟩ := (HEB.out.later HV.out) j e he
              cases e9
              simp only [Nat.zero_add] at p0 p1 p2 p3 p4 p5
              obtain ⟨ks, ke, kh⟩ := e
              have HV2 := (show Hid (Below w4.heap.size w4 (wr.alloc (.cells #[.int .u64 (wd ks 0), .int .u64 (wd ks 1), .int .u64 (wd ks 2), .int .u64 (wd ks 3), .bool ke, .bool kh] 36))) from HV.out.alloc HV.out.size _)
              have y0 : (0 : Int) ≤ (j : Int) := by omega
              have y1 : (j : Int) < (g.2.length : Int) := by omega
              dsimp only at p0 p1 p2 p3 p4 p5
              cases kh with
              | false =>
                clear he hne HV
                go_wp2_with fail
                go_roundw
                case rel => exact ⟨j + 1, by omega, by go_num, HV2⟩
                case measure => simp [intOf]; omega
              | true =>
                obtain rfl : ke = false := hne rfl
                clear he hne HV
                go_wp2_with fail
                go_roundw
                case rel => exact ⟨j + 1, by omega, by go_num, HV2⟩
                case measure => simp [intOf]; omega
            · obtain rfl : j = g.2.length := by omega
              have HB10 := (show Hid (Below w3.heap.size w3 wr) from HB4.out.2.trans (HV.out.mono HB4.out.2.size))
              clear HV HEv HEB HRl HB4
              go_wp2_with fail
              go_roundg (gs.length - (k + 1))
              case measure => have := HGk.out; omega
              case rel => exact ⟨k + 1, by omega, rfl, by go_num, HB10⟩
      · obtain rfl : k = gs.length := by omega
        have HB := (show Hid (Below w.heap.size w wr) from HB3.out.1.trans (HW.out.mono HB3.out.1.size))
        have HGr := (show Hid (GX wr w.heap.size (.slice A gs.length c)) from HB3.out.2.below HW.out)
        clear HW HB3 HR3
        have HOf := (show Hid (∀ (W : World) (N : List Nd) (Ax : Option Addr) (cx : Nat), Below w.heap.size w W → (N.length ≤ 140737488355328 ∧ (∀ n ∈ N, n.tx.size ≤ 140737488355328) ∧ (∀ n ∈ N, NdW n) ∧ RdN w Ax N) → Calls Tryz.prog 15 #[.agg #[.slice A gs.length c], .slice Ax N.length cx] W fun e w' => (∃ x cd, e = .returned (.tuple #[fG x, .int .i64 cd]) ∧ FoR gs now fs N x cd) ∧ Below W.heap.size W w') from fun W N Ax cx hW hN => by
          refine (fsOf_any gs A c N Ax cx hN.1 hN.2.1 hN.2.2.1 W (HP.out.later hW) HNW.out (hN.2.2.2.below hW (Nat.le_refl _))).mono ?_
          rintro e w' ⟨⟨x, cd, rfl, hx⟩, b⟩
          obtain ⟨n2, f2, k1, k2, k3, k4⟩ := hx.2 HZ.out.1
          obtain ⟨rfl, rfl⟩ := fx_same HK.out.1 k1 HK.out.2.2 k3
          exact ⟨⟨x, cd, rfl, k4⟩, b⟩)
        have q5 := HGr.out.cl
        go_wp2_with fail
        refine (HOf.out wr L Ap cp HB.out HLt.out).mono ?_
        rintro e w5 ⟨⟨x, cx, rfl, hx⟩, b5⟩
        have HX := (show Hid (FoR gs now fs L x cx) from hx)
        obtain ⟨w6, hw6⟩ : ∃ w6, w6 = w5.alloc (.cells #[.int .u64 (wd x.st 0), .int .u64 (wd x.st 1), .int .u64 (wd x.st 2), .int .u64 (wd x.st 3), .bool x.em, .bool x.hf] 36) := ⟨_, rfl⟩
        have HE6 := (show Hid (w5.alloc (.cells #[.int .u64 (wd x.st 0), .int .u64 (wd x.st 1), .int .u64 (wd x.st 2), .int .u64 (wd x.st 3), .bool x.em, .bool x.hf] 36) = w6) from hw6.symm)
        have hb6 : Below wr.heap.size wr w6 := by rw [hw6]; exact b5.alloc b5.size _
        have HF6 := (show Hid (FX w6 w5.heap.size x ∧ Below w.heap.size w w6 ∧ GX w6 w.heap.size (.slice A gs.length c)) from ⟨by rw [hw6]; exact FX.new w5 x, HB.out.trans (hb6.mono HB.out.size), HGr.out.below hb6⟩)
        clear hw6 hb6 hx b5 q5 HGr HB
        have q6 := HF6.out.2.2.cl
        go_wp2_with (rw [HE6.out])
        refine (HOf.out w6 M Aq cq HF6.out.2.1 HMt.out).mono ?_
        rintro e w7 ⟨⟨y, cy, rfl, hy⟩, b7⟩
        have HY := (show Hid (FoR gs now fs M y cy) from hy)
        obtain ⟨w8, hw8⟩ : ∃ w8, w8 = w7.alloc (.cells #[.int .u64 (wd y.st 0), .int .u64 (wd y.st 1), .int .u64 (wd y.st 2), .int .u64 (wd y.st 3), .bool y.em, .bool y.hf] 36) := ⟨_, rfl⟩
        have HE8 := (show Hid (w7.alloc (.cells #[.int .u64 (wd y.st 0), .int .u64 (wd y.st 1), .int .u64 (wd y.st 2), .int .u64 (wd y.st 3), .bool y.em, .bool y.hf] 36) = w8) from hw8.symm)
        have hb8 : Below w6.heap.size w6 w8 := by rw [hw8]; exact b7.alloc b7.size _
        have HF8 := (show Hid (FX w8 w7.heap.size y ∧ FX w8 w5.heap.size x ∧ Below w.heap.size w w8 ∧ GX w8 w.heap.size (.slice A gs.length c)) from ⟨by rw [hw8]; exact FX.new w7 y, HF6.out.1.below hb8, HF6.out.2.1.trans (hb8.mono HF6.out.2.1.size), HF6.out.2.2.below hb8⟩)
        have HDe := (show Hid (Calls Tryz.prog 17 #[.agg #[.slice A gs.length c], .slice Ap L.length cp, .slice Aq M.length cq] w8 fun e w' => (∃ b cd, e = .returned (.tuple #[.bool b, .int .i64 cd]) ∧ (cx ≠ 0 → cd = cx ∧ b = false) ∧ (cx = 0 → (cy ≠ 0 → cd = cy ∧ b = false) ∧ (cy = 0 → cd = 0 ∧ b = dcF x y))) ∧ Below w8.heap.size w8 w') from by
          have hw := HF8.out.2.2.1
          refine (fsDecidedC_any gs A c L M Ap Aq cp cq HLt.out.1 HLt.out.2.1 HLt.out.2.2.1 HMt.out.1 HMt.out.2.1 HMt.out.2.2.1 w8 (HP.out.later hw) HNW.out (HLt.out.2.2.2.below hw (Nat.le_refl _)) (HMt.out.2.2.2.below hw (Nat.le_refl _))).mono ?_
          rintro e w' ⟨⟨b, cd, rfl, hd⟩, bb⟩
          obtain ⟨n2, f2, x2, cx2, k1, k2, k3, k4, k5, k6⟩ := hd.2 HZ.out.1
          obtain ⟨rfl, rfl⟩ := fx_same HK.out.1 k1 HK.out.2.2 k3
          obtain ⟨rfl, rfl⟩ := HX.out.one k4
          refine ⟨⟨b, cd, rfl, k5, fun q => ?_⟩, bb⟩
          obtain ⟨y2, cy2, k7, k8, k9⟩ := k6 q
          obtain ⟨rfl, rfl⟩ := HY.out.one k7
          exact ⟨k8, k9⟩)
        clear hw8 hb8 hy b7 q6 HE6 HF6 HOf
        have q8 := HF8.out.2.2.2.cl
        go_wp2_with (rw [HE8.out])
        refine HDe.out.mono ?_
        rintro e w9 ⟨⟨b, cd, rfl, hd1, hd2⟩, b9⟩
        have HF9 := (show Hid (FX w9 w7.heap.size y ∧ FX w9 w5.heap.size x ∧ Below w.heap.size w w9) from ⟨HF8.out.1.below b9, HF8.out.2.1.below b9, HF8.out.2.2.1.trans (b9.mono HF8.out.2.2.1.size)⟩)
        generalize w7.heap.size = ky at HF9 ⊢
        generalize w5.heap.size = kx at HF9 ⊢
        clear b9 HDe HF8 HE8 q8 HX HY HLt HMt HK HZ HP HNW
        by_cases hcx : cx = 0
        · subst hcx
          have hd2 := hd2 rfl
          by_cases hcy : cy = 0
          · subst hcy
            obtain ⟨rfl, rfl⟩ := hd2.2 rfl
            obtain ⟨xs, xe, xh⟩ := x
            obtain ⟨ys, ye, yh⟩ := y
            have HAp := (show Hid (∀ W, Calls Tryz.prog 20 #[sv xs, sv ys] W fun e w' => e = .returned (.bool ((xs &&& ys) == 0#256)) ∧ Below W.heap.size W w') from fun W => apartS_any xs ys W)
            have x0 := HF9.out.2.1.c0
            have x1 := HF9.out.2.1.c1
            have x2 := HF9.out.2.1.c2
            have x3 := HF9.out.2.1.c3
            have x4 := HF9.out.2.1.c4
            have x5 := HF9.out.2.1.c5
            have y0 := HF9.out.1.c0
            have y1 := HF9.out.1.c1
            have y2 := HF9.out.1.c2
            have y3 := HF9.out.1.c3
            have y4 := HF9.out.1.c4
            have y5 := HF9.out.1.c5
            clear hd1 hd2
            unfold dcF
            cases ye with
            | true =>
              cases xe <;> cases xh
              all_goals
                go_wp2_with fail
                go_ret
                exact ⟨rfl, HF9.out.2.2⟩
            | false =>
              go_wp2_with fail
              refine (HAp.out w9).mono ?_
              rintro e w10 ⟨rfl, b10⟩
              have HF10 := (show Hid (Below w.heap.size w w10 ∧ FX w10 kx ⟨xs, xe, xh⟩) from ⟨HF9.out.2.2.trans (b10.mono HF9.out.2.2.size), HF9.out.2.1.below b10⟩)
              have z4 := HF10.out.2.c4
              have z5 := HF10.out.2.c5
              generalize ((xs &&& ys) == 0#256) = ap
              clear b10 HAp HF9 x0 x1 x2 x3 x4 x5 y0 y1 y2 y3 y4 y5
              cases xe <;> cases xh <;> cases ap
              all_goals
                go_wp2_with fail
                go_ret
                exact ⟨rfl, HF10.out.1⟩
          · obtain ⟨rfl, rfl⟩ := hd2.1 hcy
            have ty : (cd != 0) = true := by rw [bne, beq_eq_false_iff_ne.2 hcy]; rfl
            clear hd1 hd2 hcy
            go_wp2_with fail
            go_ret
            exact ⟨rfl, HF9.out.2.2⟩
        · obtain ⟨rfl, rfl⟩ := hd1 hcx
          have tx : (cd != 0) = true := by rw [bne, beq_eq_false_iff_ne.2 hcx]; rfl
          clear hd1 hd2 hcx
          go_wp2_with fail
          go_ret
          exact ⟨rfl, HF9.out.2.2⟩
  · have HZ := (show Hid ((ckG gs).2 ≠ 0) from hz)
    have tz : ((ckG gs).2 != 0) = true := by rw [bne, beq_eq_false_iff_ne.2 hz]; rfl
    clear hz
    go_wp2_with fail
    refine HRu.out.mono ?_
    rintro e w3 ⟨⟨v, fs, rfl, hr, ho⟩, b3⟩
    have e2 := hr.2 HZ.out
    subst e2
    obtain ⟨A1, c1, rfl⟩ := own_sl ho
    have HB3 := (show Hid (Below w.heap.size w w3) from HB2.out.trans (b3.mono HB2.out.size))
    clear hr ho b3 HRu HG2 HB2 q2 HP HZ
    generalize (ckG gs).2 = cd at *
    go_wp2_with fail
    go_ret
    exact ⟨rfl, HB3.out⟩
end Go.Proofs.YtbnihflihelimaaGreat.N

namespace Go.Proofs.YtbnihflihelimaaGreat
open Go.ChangeShapes Go.WideShapes Go.ChangeAt Go.RowKit
open Go.ChangeMaps (open_string shut_string)
set_option maxRecDepth 100000 in
theorem firstAlone_lifted (os : Os) (started : os.Started) (H : Type) (enc : TypeId × Value → H) :
    ReturnsInHanded {} Tryz.checked os 5 .any (Rows.firstAloneSpec.pre6 enc Tryz.prog Tryz.f5 Rows.firstAloneRow.domain false) (Rows.firstAloneSpec.post enc Tryz.prog Tryz.f5 false true false false) := by
  refine returnsInHanded_of_change_sized (C := Tryz.checked) T.own started (by kernel_rfl) Tryz.func5
    (ChangeSpec.witness6 (enc := enc) (C := Tryz.checked) false ⟨#[], #[.agg #[.slice none 0 0], .slice none 0 0, .slice none 0 0], []⟩ 8 (by kernel_rfl) (by kernel_rfl) (by kernel_rfl) (by kernel_rfl)) ?_
  intro W base args ds gs before hval0 hW hcnd hsz _
  have hval : ∀ (j : Nat) t v, Tryz.f5.params[j]? = some t → args[j]? = some v → Value.okWide Tryz.prog W .any base t v := hval0
  have hW' := hW
  obtain ⟨p, q, hA0, hV, rfl, hfz, hnd⟩ := hW
  have hA : DataW.TrodAll enc Tryz.prog W 0 (fun _ => true) true Tryz.f5.params.toList args.toList ds p := hA0
  rw [Tryz.params5] at hA hval
  have hsz : (DataW.weightsEach Tryz.prog (#[24, 41, 41].toList ++ Rows.firstAloneSpec.plain.varTypes Tryz.prog) (ds ++ gs)).all (· ≤ reachBytes) = true := hsz
  obtain ⟨v0, v1, v2, d0, d1, d2, p0, p1, p2, rfl, rfl, rfl, h0, h1, h2⟩ := trodAll_three hA
  obtain ⟨rfl, rfl⟩ := trodVars_none hV
  have lt0 : ∀ x ∈ p0, x.block < W.heap.size := by obtain ⟨m, hm⟩ := h0; exact DataW.trod_lt m _ _ _ hm
  obtain ⟨A0, c0, L0, rfl, r0⟩ := N.open_gram h0 (hval 0 24 v0 rfl rfl) (T.sized_at hsz (j := 0) rfl rfl)
  have lt1 : ∀ x ∈ p1, x.block < W.heap.size := by obtain ⟨m, hm⟩ := h1; exact DataW.trod_lt m _ _ _ hm
  obtain ⟨A1, c1, L1, rfl, r1, nl1, s1, se1⟩ := T.open_pat h1 (okWide_slice Tryz.underlying41 (hval 1 41 v1 rfl rfl))
  obtain ⟨a1, b1⟩ := s1 (T.sized_at hsz (j := 1) rfl rfl)
  have lt2 : ∀ x ∈ p2, x.block < W.heap.size := by obtain ⟨m, hm⟩ := h2; exact DataW.trod_lt m _ _ _ hm
  obtain ⟨A2, c2, L2, rfl, r2, nl2, s2, se2⟩ := T.open_pat h2 (okWide_slice Tryz.underlying41 (hval 2 41 v2 rfl rfl))
  obtain ⟨a2, b2⟩ := s2 (T.sized_at hsz (j := 2) rfl rfl)
  clear hA0 hval0
  refine (N.alone_law L0 A0 c0 L1 A1 c1 L2 A2 c2 W r0 ⟨by omega, fun n hn => by have := b1 n hn; omega, fun n hn => N.nw_of (se1 n hn), r1⟩ ⟨by omega, fun n hn => by have := b2 n hn; omega, fun n hn => N.nw_of (se2 n hn), r2⟩).mono fun e W' ⟨he, bel⟩ => ?_
  subst he
  exact ⟨_, rfl, _, _, _, [], _, [], hW', trodAll_mk1 (shut_bool Tryz.underlying4 _), (trodAll_cons_mk (Below.trod T.laidOut (by kernel_rfl) (of_decide_eq_true (by kernel_rfl)) h0 bel lt0) (trodAll_cons_mk (Below.trod T.laidOut (by kernel_rfl) (of_decide_eq_true (by kernel_rfl)) h1 bel lt1) (trodAll_cons_mk (Below.trod T.laidOut (by kernel_rfl) (of_decide_eq_true (by kernel_rfl)) h2 bel lt2) trodAll_mk0))), rfl, bel.frame _, fun h => by cases h⟩

theorem firstAlone_holds : Rows.FirstAloneSaid :=
  OpenClaim.holds_of_wide 5 Tryz.f5 rfl rfl rfl rfl rfl rfl rfl ⟨rfl, rfl, rfl, rfl, rfl⟩ rfl rfl rfl rfl rfl (by kernel_rfl) Tryz.func5 (by kernel_rfl)
    (of_decide_eq_true (by kernel_rfl)) (by unfold Func.isWrapper; first | (rw [if_pos (by decide +kernel)]; kernel_rfl) | (rw [if_neg (by decide +kernel)]; exact ⟨rfl, rfl⟩))
    (fun os started H enc _ => firstAlone_lifted os started H enc)
end Go.Proofs.YtbnihflihelimaaGreat
