/- FordChecks (10.1): of any grammar, the verdict that the program gives is the one that the document gives, and the grammar stays as it is; for grammars within the reach of the form. -/
import Derived.Test.YtbipjdgholdhcaaGreatRows
import Derived.Test.YtbipjdgholdhcaaGreatFi19
namespace Go.Proofs.YtbipjdgholdhcaaGreat.N
open Go.RowKit Go.Maps
open Go.Proofs.YtbipjdgholdhcaaGreat.T
/-- While a grammar is lent: its box, the lent one's, and what was lent. -/
structure LyS (w0 wr : World) (wb k : Nat) (u1 u2 : Value) (g cap : Nat) (ov : List Le) : Prop where
  l : LgB w0 wr g cap ov
  x1 : GX wr wb u1
  x2 : GX wr k u2
theorem LyS.later {w0 wr W' : World} {wb k : Nat} {u1 u2 : Value} {g cap : Nat} {ov : List Le} (h : LyS w0 wr wb k u1 u2 g cap ov) (hb : Below wr.heap.size wr W') : LyS w0 W' wb k u1 u2 g cap ov := ⟨h.l.later hb, h.x1.below hb, h.x2.below hb⟩
theorem LyS.box {w0 w2 wr : World} {wb k : Nat} {u1 u2 : Value} {g cap : Nat} {ov : List Le} (h : LyS w0 w2 wb k u1 u2 g cap ov) (hb : Below w2.heap.size w2 wr) : wr.cell? ⟨wb, 0, none⟩ = some u1 ∧ wr.cell? ⟨k, 0, none⟩ = some u2 := ⟨(h.later hb).x1.cl, (h.later hb).x2.cl⟩
theorem vd_doc {gs : GL} {l : List Nat} {p q : Nat} {cd : Int} (h : VdR gs l p q cd) : ∃ now, ((ckG gs).2 = 0 → KnF gs now ∧ now.length = gs.length) ∧ VdD gs now l p q cd := by
  by_cases hz : (ckG gs).2 = 0
  · obtain ⟨now, h1, h2, h3⟩ := h.2 hz
    exact ⟨now, fun _ => ⟨h1, h2⟩, fun q => absurd hz q, fun _ => h3⟩
  · exact ⟨[], fun q => absurd q hz, h.1, fun q => absurd q hz⟩
theorem vd_one {gs : GL} {now : List Em} {l l2 : List Nat} {p q p2 q2 : Nat} {cd cd2 : Int} (h : VdD gs now l p q cd) (g : VdD gs now l2 p2 q2 cd2) : l2 = l ∧ p2 = p ∧ q2 = q ∧ cd2 = cd := by
  by_cases hz : (ckG gs).2 = 0
  · have hc := hdM_lt (nb := nbE now) (ckG_ok.1 hz)
    obtain ⟨cy, h1, h2⟩ := h.2 hz
    obtain ⟨cy2, g1, g2⟩ := g.2 hz
    obtain rfl := h1.one hc g1
    rcases h2 with ⟨a1, rfl, rfl, rfl, rfl⟩ | ⟨a1, rfl, h2⟩
    · rcases g2 with ⟨_, rfl, rfl, rfl, rfl⟩ | ⟨b1, _⟩
      · exact ⟨rfl, rfl, rfl, rfl⟩
      · exact absurd b1 a1
    · rcases g2 with ⟨b1, _⟩ | ⟨_, rfl, g2⟩
      · exact absurd a1 b1
      · rcases h2 with ⟨s, r, e1, rfl, rfl, rfl⟩ | ⟨e1, rfl, rfl, rfl⟩
        · rcases g2 with ⟨s2, r2, e2, rfl, rfl, rfl⟩ | ⟨e2, _⟩
          · rw [e1] at e2
            obtain ⟨rfl, _⟩ := List.cons.inj e2
            exact ⟨rfl, rfl, rfl, rfl⟩
          · rw [e1] at e2; cases e2
        · rcases g2 with ⟨s2, r2, e2, _⟩ | ⟨_, rfl, rfl, rfl⟩
          · rw [e1] at e2; cases e2
          · exact ⟨rfl, rfl, rfl, rfl⟩
  · obtain ⟨rfl, h1, rfl⟩ := h.1 hz
    obtain ⟨rfl, g1, rfl⟩ := g.1 hz
    rw [← g1] at h1
    obtain ⟨rfl, rfl⟩ := Prod.mk.inj h1
    exact ⟨rfl, rfl, rfl, rfl⟩
theorem vd_len {gs : GL} {now : List Em} {l : List Nat} {p q : Nat} {cd : Int} (h : VdD gs now l p q cd) : l.length ≤ 200 := by
  by_cases hz : (ckG gs).2 = 0
  · have hR := ckG_ok.1 hz
    obtain ⟨cy, h1, h2⟩ := h.2 hz
    rcases h2 with ⟨_, rfl, _⟩ | ⟨_, rfl, _⟩
    · rcases h1 with ⟨rfl, _⟩ | ⟨r, m, hd, _, hp⟩
      · exact Nat.zero_le _
      · rw [hp.n]
        exact Nat.le_trans (Ds.few (hdM_lt hR) hd) hR.n2
    · exact Nat.zero_le _
  · rw [(h.1 hz).1]; exact Nat.zero_le _

open U (own_get own_slice below_grown)
set_option maxRecDepth 100000 in
set_option maxHeartbeats 32000000 in
theorem checks_law (gs : GL) (A : Option Addr) (c : Nat) (w : World) (hg : GrIn w A c gs) : Calls Tryz.prog 3 #[.agg #[.slice A gs.length c]] w fun e w' => e = .returned (.bool true) ∧ Below w.heap.size w w' := by
  have hl := hg.len
  obtain ⟨w0, hw0⟩ : ∃ w0, w0 = w.alloc (.cells #[.slice A gs.length c] 24) := ⟨_, rfl⟩
  have hb0 : Below w.heap.size w w0 := by rw [hw0]; exact below_box w _
  have HX0 := (show Hid (GX w0 w.heap.size (.slice A gs.length c)) from by rw [hw0]; exact GX.mk (heap_alloc_new w _))
  have HE0 := (show Hid (w.alloc (.cells #[.slice A gs.length c] 24) = w0) from hw0.symm)
  have hg0 : GrIn w0 A c gs := hg.later hb0
  have HLe : Hid (∀ _ : Unit, Calls Tryz.prog 7 #[.agg #[.slice A gs.length c]] w0 fun e w' => ∃ g cap ov, e = .returned (.agg #[.slice (some ⟨g, 0, none⟩) gs.length cap]) ∧ ov.map (·.1) = gs ∧ LgB w0 w' g cap ov) := fun _ => lendG_any gs A c w0 hg0
  have HK : Hid (∀ (w' : World) (g cap : Nat) (ov : List Le), ov.map (·.1) = gs → LgB w0 w' g cap ov → GrD w' A gs → Calls Tryz.prog 12 #[.agg #[.slice (some ⟨g, 0, none⟩) gs.length cap], .agg #[.slice A gs.length c]] w' fun e w'' => e = .returned (.bool true) ∧ Below w'.heap.size w' w'') := fun w' g cap ov h0 h1 h2 => keptG_any h0 (fun r hr => by
    obtain ⟨k, hk⟩ := List.getElem?_of_mem hr
    obtain ⟨_, _, h6, _⟩ := hg.each k r hk
    exact h6.2.2.2.1) hl h1 h2
  have HWk := (show Hid (∀ W, Calls Tryz.prog 10 #[] W fun e w' => e = .returned (.bool true) ∧ Below W.heap.size W w') from lives_any)
  have HP := (show Hid (GI w0 A gs) from hg0.gi)
  have HB0 := (show Hid (Below w.heap.size w w0) from hb0)
  have x0 := HX0.out.cl
  have HA : Hid (∀ (w' : World) (Ap : Option Addr) (cp : Nat), GI w' Ap gs → Calls Tryz.prog 8 #[.agg #[.slice Ap gs.length cp]] w' fun e w'' => (∃ (A1 : Option Addr) (c1 : Nat) (l : List Nat) (p q : Nat) (cd : Int), e = .returned (.tuple #[.agg #[.slice A1 l.length c1, .int .i64 (p : Int), .int .i64 (q : Int)], .int .i64 cd]) ∧ VdR gs l p q cd ∧ w''.ownsRow w'.heap.size 3 1 (.slice A1 l.length c1) l.length (l.map U.nI)) ∧ Below w'.heap.size w' w'') := fun w' Ap cp h => by
    refine (fcheck_any gs Ap cp w' h).mono ?_
    rintro e w'' ⟨⟨v, l, p, q, cd, rfl, hr, ho⟩, b⟩
    obtain ⟨A1, c1, rfl⟩ := own_slice ho
    exact ⟨⟨A1, c1, l, p, q, cd, rfl, hr, ho⟩, b⟩
  have HD : Hid (∀ (now : List Em), ((ckG gs).2 = 0 → KnF gs now ∧ now.length = gs.length) → ∀ (w' : World) (Ap : Option Addr) (cp : Nat), GI w' Ap gs → Calls Tryz.prog 9 #[.agg #[.slice Ap gs.length cp]] w' fun e w'' => (∃ (A1 : Option Addr) (c1 : Nat) (l : List Nat) (p q : Nat) (cd : Int), e = .returned (.tuple #[.agg #[.slice A1 l.length c1, .int .i64 (p : Int), .int .i64 (q : Int)], .int .i64 cd]) ∧ VdD gs now l p q cd ∧ w''.ownsRow w'.heap.size 3 1 (.slice A1 l.length c1) l.length (l.map U.nI)) ∧ Below w'.heap.size w' w'') := fun now hk w' Ap cp h => by
    refine (checkD10_any hk Ap cp w' h).mono ?_
    rintro e w'' ⟨⟨v, l, p, q, cd, rfl, hr, ho⟩, b⟩
    obtain ⟨A1, c1, rfl⟩ := own_slice ho
    exact ⟨⟨A1, c1, l, p, q, cd, rfl, hr, ho⟩, b⟩
  clear hg hl hg0 hw0 hb0
  go_enter Tryz.func3, Tryz.ntmps3
  go_wp2_with (rw [HE0.out])
  refine (HLe.out ()).mono ?_
  rintro e w1 ⟨g, cap, ov, rfl, hm, ho⟩
  have HM := (show Hid (ov.map (·.1) = gs) from hm)
  obtain ⟨w2, hw2⟩ : ∃ w2, w2 = w1.alloc (.cells #[.slice (some ⟨g, 0, none⟩) gs.length cap] 24) := ⟨_, rfl⟩
  have HE2 := (show Hid (w1.alloc (.cells #[.slice (some ⟨g, 0, none⟩) gs.length cap] 24) = w2) from hw2.symm)
  have HS2 := (show Hid (LyS w0 w2 w.heap.size w1.heap.size (.slice A gs.length c) (.slice (some ⟨g, 0, none⟩) gs.length cap) g cap ov) from by
    have hb : Below w1.heap.size w1 w2 := by rw [hw2]; exact below_box w1 _
    have hX1 : GX w1 w.heap.size (.slice A gs.length c) := HX0.out.same (ho.b.block _ HX0.out.lt)
    exact ⟨ho.later hb, hX1.below hb, by rw [hw2]; exact GX.mk (heap_alloc_new w1 _)⟩)
  have y1 := HS2.out.x1.cl
  have y2 := HS2.out.x2.cl
  have HIn := (show Hid (∀ W, LyS w0 W w.heap.size w1.heap.size (.slice A gs.length c) (.slice (some ⟨g, 0, none⟩) gs.length cap) g cap ov → GI W (some ⟨g, 0, none⟩) gs ∧ GI W A gs) from fun W h => ⟨⟨h.l.gr HM.out, HP.out.l, HP.out.t⟩, HP.out.later h.l.b⟩)
  clear ho hm HLe hw2 x0 HX0
  go_wp2_with (rw [HE2.out])
  generalize w1.heap.size = k1 at *
  refine (HA.out w2 _ _ (HIn.out _ HS2.out).1).mono ?_
  rintro e w3 ⟨⟨A1, c1, l, p, q, cd, rfl, hr1, ho1⟩, b3⟩
  obtain ⟨now, hkn, hvd⟩ := vd_doc hr1
  obtain ⟨w4, hw4⟩ : ∃ w4, w4 = w3.alloc (.cells #[.slice A1 l.length c1, .int .i64 (p : Int), .int .i64 (q : Int)] 30) := ⟨_, rfl⟩
  have HE4 := (show Hid (w3.alloc (.cells #[.slice A1 l.length c1, .int .i64 (p : Int), .int .i64 (q : Int)] 30) = w4) from hw4.symm)
  have hb4 : Below w3.heap.size w3 w4 := by rw [hw4]; exact below_box _ _
  have HB4 := (show Hid (Below w2.heap.size w2 w4) from b3.trans (hb4.mono b3.size))
  have HO4 := (show Hid (DX w4 w3.heap.size (.slice A1 l.length c1) (p : Int) (q : Int) ∧ w4.ownsRow w2.heap.size 3 1 (.slice A1 l.length c1) l.length (l.map U.nI)) from ⟨by rw [hw4]; exact DX.new w3 _ _ _, own_below ho1 hb4⟩)
  have HVd := (show Hid (VdD gs now l p q cd ∧ ((ckG gs).2 = 0 → KnF gs now ∧ now.length = gs.length)) from ⟨hvd, hkn⟩)
  have p1 := (HS2.out.box HB4.out).1
  have p2 := (HS2.out.box HB4.out).2
  clear hr1 ho1 b3 HE2 y1 y2 hw4 hb4 hkn hvd HA
  go_wp2_with (rw [HE4.out])
  refine (HD.out now HVd.out.2 w4 _ _ (HIn.out _ (HS2.out.later HB4.out)).2).mono ?_
  rintro e w5 ⟨⟨A2, c2, l2, q2, q3, cd2, rfl, hr2, ho2⟩, b5⟩
  obtain ⟨rfl, rfl, rfl, rfl⟩ := vd_one HVd.out.1 hr2
  obtain ⟨w6, hw6⟩ : ∃ w6, w6 = w5.alloc (.cells #[.slice A2 l2.length c2, .int .i64 (q2 : Int), .int .i64 (q3 : Int)] 30) := ⟨_, rfl⟩
  have HE6 := (show Hid (w5.alloc (.cells #[.slice A2 l2.length c2, .int .i64 (q2 : Int), .int .i64 (q3 : Int)] 30) = w6) from hw6.symm)
  have hb6 : Below w5.heap.size w5 w6 := by rw [hw6]; exact below_box _ _
  have HB6 := (show Hid (Below w2.heap.size w2 w6) from (HB4.out.trans (b5.mono HB4.out.size)).trans (hb6.mono (HB4.out.trans (b5.mono HB4.out.size)).size))
  have HO6 := (show Hid (DX w6 w3.heap.size (.slice A1 l2.length c1) (q2 : Int) (q3 : Int) ∧ w6.ownsRow w2.heap.size 3 1 (.slice A1 l2.length c1) l2.length (l2.map U.nI) ∧ DX w6 w5.heap.size (.slice A2 l2.length c2) (q2 : Int) (q3 : Int) ∧ w6.ownsRow w4.heap.size 3 1 (.slice A2 l2.length c2) l2.length (l2.map U.nI)) from ⟨(HO4.out.1.below b5).below hb6, own_below (own_below HO4.out.2 b5) hb6, by rw [hw6]; exact DX.new w5 _ _ _, own_below ho2 hb6⟩)
  have HLn := (show Hid (l2.length ≤ 1000000) from Nat.le_trans (vd_len HVd.out.1) (by omega))
  clear hr2 ho2 b5 HE4 p1 p2 hw6 hb6 HD HB4 HO4 HVd
  go_wp2_with (rw [HE6.out])
  refine (HWk.out w6).mono ?_
  rintro e w7 ⟨rfl, b7⟩
  have HB7 := (show Hid (Below w2.heap.size w2 w7) from HB6.out.trans (b7.mono HB6.out.size))
  have HO7 := (show Hid (DX w7 w3.heap.size (.slice A1 l2.length c1) (q2 : Int) (q3 : Int) ∧ w7.ownsRow w2.heap.size 3 1 (.slice A1 l2.length c1) l2.length (l2.map U.nI) ∧ DX w7 w5.heap.size (.slice A2 l2.length c2) (q2 : Int) (q3 : Int) ∧ w7.ownsRow w4.heap.size 3 1 (.slice A2 l2.length c2) l2.length (l2.map U.nI)) from ⟨HO6.out.1.below b7, own_below HO6.out.2.1 b7, HO6.out.2.2.1.below b7, own_below HO6.out.2.2.2 b7⟩)
  have d0 := HO7.out.1.c0
  have d1 := HO7.out.1.c1
  have d2 := HO7.out.1.c2
  have e0 := HO7.out.2.2.1.c0
  have e1 := HO7.out.2.2.1.c1
  have e2 := HO7.out.2.2.1.c2
  have hse := sp_eq q2 q3
  have HSa := (show Hid (∀ _ : Unit, Calls Tryz.prog 11 #[.slice A1 l2.length c1, .slice A2 l2.length c2] w7 fun e w' => e = .returned (.bool true) ∧ Below w7.heap.size w7 w') from fun _ => SameInts_any l2 HLn.out w7 HO7.out.2.1 HO7.out.2.2.2)
  clear b7 HE6 HB6 HO6 HWk
  go_wp2_with fail
  refine (HSa.out ()).mono ?_
  rintro e w8 ⟨rfl, b8⟩
  have HB8 := (show Hid (Below w2.heap.size w2 w8) from HB7.out.trans (b8.mono HB7.out.size))
  have p1 := (HS2.out.box HB8.out).1
  have p2 := (HS2.out.box HB8.out).2
  clear b8 HB7 HSa HO7 d0 d1 d2 e0 e1 e2 hse
  go_wp2_with fail
  refine (HK.out w8 g cap ov HM.out (HS2.out.later HB8.out).l (HP.out.d.later (HS2.out.later HB8.out).l.b)).mono ?_
  rintro e w9 ⟨rfl, b9⟩
  have HB9 := (show Hid (Below w2.heap.size w2 w9) from HB8.out.trans (b9.mono HB8.out.size))
  clear b9 HB8 p1 p2 HK
  go_wp2_with fail
  go_ret
  exact ⟨rfl, HB0.out.trans (((HS2.out.l.b).trans (HB9.out.mono HS2.out.l.b.size)).mono HB0.out.size)⟩
end Go.Proofs.YtbipjdgholdhcaaGreat.N

namespace Go.Proofs.YtbipjdgholdhcaaGreat
open Go.ChangeShapes Go.WideShapes Go.ChangeAt Go.RowKit
open Go.ChangeMaps (open_string shut_string)
set_option maxRecDepth 100000 in
theorem fordChecks_lifted (os : Os) (started : os.Started) (H : Type) (enc : TypeId × Value → H) :
    ReturnsInHanded {} Tryz.checked os 3 .any (Rows.fordChecksSpec.pre6 enc Tryz.prog Tryz.f3 Rows.fordChecksRow.domain false) (Rows.fordChecksSpec.post enc Tryz.prog Tryz.f3 false true false false) := by
  refine returnsInHanded_of_change_sized (C := Tryz.checked) T.own started (by kernel_rfl) Tryz.func3
    (ChangeSpec.witness6 (enc := enc) (C := Tryz.checked) false ⟨#[], #[.agg #[.slice none 0 0]], []⟩ 8 (by kernel_rfl) (by kernel_rfl) (by kernel_rfl) (by kernel_rfl)) ?_
  intro W base args ds gs before hval0 hW hcnd hsz _
  have hval : ∀ (j : Nat) t v, Tryz.f3.params[j]? = some t → args[j]? = some v → Value.okWide Tryz.prog W .any base t v := hval0
  have hW' := hW
  obtain ⟨p, q, hA0, hV, rfl, hfz, hnd⟩ := hW
  have hA : DataW.TrodAll enc Tryz.prog W 0 (fun _ => true) true Tryz.f3.params.toList args.toList ds p := hA0
  rw [Tryz.params3] at hA hval
  have hsz : (DataW.weightsEach Tryz.prog (#[24].toList ++ Rows.fordChecksSpec.plain.varTypes Tryz.prog) (ds ++ gs)).all (· ≤ reachBytes) = true := hsz
  obtain ⟨v0, d0, rfl, rfl, h0⟩ := trodAll_one hA
  obtain ⟨rfl, rfl⟩ := trodVars_none hV
  have lt0 : ∀ x ∈ p, x.block < W.heap.size := by obtain ⟨m, hm⟩ := h0; exact DataW.trod_lt m _ _ _ hm
  obtain ⟨A0, c0, L0, rfl, r0⟩ := N.open_gram h0 (hval 0 24 v0 rfl rfl) (T.sized_at hsz (j := 0) rfl rfl)
  clear hA0 hval0
  refine (N.checks_law L0 A0 c0 W r0).mono fun e W' ⟨he, bel⟩ => ?_
  subst he
  exact ⟨_, rfl, _, _, _, [], _, [], hW', trodAll_mk1 (shut_bool Tryz.underlying4 _), (trodAll_mk1 (Below.trod T.laidOut (by kernel_rfl) (of_decide_eq_true (by kernel_rfl)) h0 bel lt0)), rfl, bel.frame _, fun h => by cases h⟩

theorem fordChecks_holds : Rows.FordChecksSaid :=
  OpenClaim.holds_of_wide 3 Tryz.f3 rfl rfl rfl rfl rfl rfl rfl ⟨rfl, rfl, rfl, rfl, rfl⟩ rfl rfl rfl rfl rfl (by kernel_rfl) Tryz.func3 (by kernel_rfl)
    (of_decide_eq_true (by kernel_rfl)) (by unfold Func.isWrapper; first | (rw [if_pos (by decide +kernel)]; kernel_rfl) | (rw [if_neg (by decide +kernel)]; exact ⟨rfl, rfl⟩))
    (fun os started H enc _ => fordChecks_lifted os started H enc)
end Go.Proofs.YtbipjdgholdhcaaGreat
