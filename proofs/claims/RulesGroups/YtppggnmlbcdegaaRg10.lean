/- RulesGroups: of every grammar the law returns true: Groups and Again answer as the document says; no conditions. -/
import Derived.Test.YtppggnmlbcdegaaRg09
namespace Go.Proofs.Ytppggnmlbcdegaa.N
open Go.RowKit Go.Maps
open Go.Proofs.Ytppggnmlbcdegaa.T

open U (nI own_get own_slice TT)
theorem agR_len {gs : GL} {l : List Bool} (h : AgR gs l) : l.length ≤ 100000 := by
  by_cases q : (ckG gs).2 = 0
  · have h1 := (h.1 q).1
    have h2 := (ckG_ok.1 q).n2
    omega
  · rw [h.2 q]; exact Nat.zero_le _
/-- The groups hold each rule once. -/
theorem gpR_all {gs : GL} {out : List (List Nat)} (h : GpR gs out) (q : (ckG gs).2 = 0) : ∃ told, GsI gs.length (cG gs) told out ∧ ∀ i, i < gs.length → i ∈ told := by
  obtain ⟨R, h1, rfl⟩ := h.1 q
  exact gsG_all h1 (gs.length + 1) [] [] (GsI.nil _ _) (by simp)
theorem gsI_row {n : Nat} {c : Mx} {told : List Nat} {out : List (List Nat)} (h : GsI n c told out) {l : List Nat} (hl : l ∈ out) : l.length ≤ n ∧ l.Nodup ∧ (∀ x ∈ l, x < n) := by
  have hsub : l.Sublist told := by rw [← h.fl]; exact List.sublist_flatten_of_mem hl
  have hnd := hsub.nodup h.nd
  have hlt : ∀ x ∈ l, x < n := fun x hx => h.lt x (hsub.subset hx)
  exact ⟨few_below n l hnd hlt, hnd, hlt⟩
theorem gpR_len {gs : GL} {out : List (List Nat)} (h : GpR gs out) : out.length ≤ 100000 ∧ ∀ l ∈ out, l.length ≤ 100000 := by
  by_cases q : (ckG gs).2 = 0
  · obtain ⟨told, h1, _⟩ := gpR_all h q
    have h2 := (ckG_ok.1 q).n2
    have h3 := gsI_len h1
    have h4 := gsI_few h1
    exact ⟨by omega, fun l hl => by have := (gsI_row h1 hl).1; omega⟩
  · rw [h.2 q]; exact ⟨Nat.zero_le _, fun l hl => by cases hl⟩
set_option maxRecDepth 100000 in
set_option maxHeartbeats 8000000 in
theorem groups_law (gs : GL) (A : Option Addr) (c : Nat) (w : World) (hg : GrIn w A c gs) : Calls Try.prog 5 #[.agg #[.slice A gs.length c]] w fun e w' => e = .returned (.bool true) ∧ Below w.heap.size w w' := by
  have hl := hg.len
  obtain ⟨w0, hw0⟩ : ∃ w0, w0 = w.alloc (.cells #[.slice A gs.length c] 24) := ⟨_, rfl⟩
  have hb0 : Below w.heap.size w w0 := by rw [hw0]; exact below_box w _
  have HX0 := (show Hid (GX w0 w.heap.size (.slice A gs.length c)) from by rw [hw0]; exact GX.mk (heap_alloc_new w _))
  have HE0 := (show Hid (w.alloc (.cells #[.slice A gs.length c] 24) = w0) from hw0.symm)
  have hg0 : GrIn w0 A c gs := hg.later hb0
  have HLe : Hid (∀ _ : Unit, Calls Try.prog 9 #[.agg #[.slice A gs.length c]] w0 fun e w' => ∃ g cap ov, e = .returned (.agg #[.slice (some ⟨g, 0, none⟩) gs.length cap]) ∧ ov.map (·.1) = gs ∧ LgB w0 w' g cap ov) := fun _ => lendG_any gs A c w0 hg0
  have HK : Hid (∀ (w' : World) (g cap : Nat) (ov : List Le), ov.map (·.1) = gs → LgB w0 w' g cap ov → GrD w' A gs → Calls Try.prog 15 #[.agg #[.slice (some ⟨g, 0, none⟩) gs.length cap], .agg #[.slice A gs.length c]] w' fun e w'' => e = .returned (.bool true) ∧ Below w'.heap.size w' w'') := fun w' g cap ov h0 h1 h2 => keptG_any h0 (fun r hr => by
    obtain ⟨k, hk⟩ := List.getElem?_of_mem hr
    obtain ⟨_, _, h6, _⟩ := hg.each k r hk
    exact h6.2.2.2.1) hl h1 h2
  have HWk := (show Hid (∀ W, Calls Try.prog 12 #[] W fun e w' => e = .returned (.bool true) ∧ Below W.heap.size W w') from lives_any)
  have HP := (show Hid (GI w0 A gs) from hg0.gi)
  have HB0 := (show Hid (Below w.heap.size w w0) from hb0)
  have x0 := HX0.out.cl
  have HA1 : Hid (∀ (w' : World) (Ap : Option Addr) (cp : Nat), GI w' Ap gs → Calls Try.prog 23 #[.agg #[.slice Ap gs.length cp]] w' fun e w'' => (∃ v xs out, e = .returned (.tuple #[v, .int .i64 (ckG gs).2]) ∧ GpR gs out ∧ TT w'' w'.heap.size 37 3 v (nM out) xs) ∧ Below w'.heap.size w' w'') := fun w' Ap cp h => groupsP_any gs Ap cp w' h
  have HD1 : Hid (∀ (w' : World) (Ap : Option Addr) (cp : Nat), GI w' Ap gs → Calls Try.prog 24 #[.agg #[.slice Ap gs.length cp]] w' fun e w'' => (∃ v xs out, e = .returned (.tuple #[v, .int .i64 (ckG gs).2]) ∧ GpR gs out ∧ TT w'' w'.heap.size 37 3 v (nM out) xs) ∧ Below w'.heap.size w' w'') := fun w' Ap cp h => groupsD_any gs Ap cp w' h
  have HA2 : Hid (∀ (w' : World) (Ap : Option Addr) (cp : Nat), GI w' Ap gs → Calls Try.prog 25 #[.agg #[.slice Ap gs.length cp]] w' fun e w'' => (∃ v l, e = .returned (.tuple #[v, .int .i64 (ckG gs).2]) ∧ AgR gs l ∧ w''.ownsRow w'.heap.size 4 1 v l.length (l.map Value.bool)) ∧ Below w'.heap.size w' w'') := fun w' Ap cp h => againP_any gs Ap cp w' h
  have HD2 : Hid (∀ (w' : World) (Ap : Option Addr) (cp : Nat), GI w' Ap gs → Calls Try.prog 26 #[.agg #[.slice Ap gs.length cp]] w' fun e w'' => (∃ v l, e = .returned (.tuple #[v, .int .i64 (ckG gs).2]) ∧ AgR gs l ∧ w''.ownsRow w'.heap.size 4 1 v l.length (l.map Value.bool)) ∧ Below w'.heap.size w' w'') := fun w' Ap cp h => againD_any gs Ap cp w' h
  generalize (ckG gs).2 = cd at *
  clear hg hl hg0 hw0 hb0
  go_enter Try.func5, Try.ntmps5
  go_wp2_with (rw [HE0.out])
  refine (HLe.out ()).mono ?_
  rintro e w1 ⟨g, cap, ov, rfl, hm, ho⟩
  have HM := (show Hid (ov.map (·.1) = gs) from hm)
  obtain ⟨w2, hw2⟩ : ∃ w2, w2 = w1.alloc (.cells #[.slice (some ⟨g, 0, none⟩) gs.length cap] 24) := ⟨_, rfl⟩
  have HE2 := (show Hid (w1.alloc (.cells #[.slice (some ⟨g, 0, none⟩) gs.length cap] 24) = w2) from hw2.symm)
  have HS2 := (show Hid (LyS w0 w2 w.heap.size w1.heap.size (.slice A gs.length c) (.slice (some ⟨g, 0, none⟩) gs.length cap) g cap ov) from by
    have hb : Below w1.heap.size w1 w2 := by rw [hw2]; exact below_box w1 _
    have hX1 : GX w1 w.heap.size (.slice A gs.length c) := HX0.out.same (ho.b.block _ HX0.out.lt)
    exact ⟨ho.later hb, hX1.below hb, by rw [hw2]; exact GX.mk (heap_alloc_new w1 _)⟩)
  have y1 := HS2.out.x1.cl
  have y2 := HS2.out.x2.cl
  have HIn := (show Hid (∀ W, LyS w0 W w.heap.size w1.heap.size (.slice A gs.length c) (.slice (some ⟨g, 0, none⟩) gs.length cap) g cap ov → GI W (some ⟨g, 0, none⟩) gs ∧ GI W A gs) from fun W h => ⟨⟨h.l.gr HM.out, HP.out.l, HP.out.t⟩, HP.out.later h.l.b⟩)
  clear ho hm HLe hw2 x0 HX0
  go_wp2_with (rw [HE2.out])
  generalize w1.heap.size = k1 at *
  refine (HA1.out w2 _ _ (HIn.out _ HS2.out).1).mono ?_
  rintro e w3 ⟨⟨va, xa, oa, rfl, ra, ta⟩, b3⟩
  have HS3 := (show Hid (LyS w0 w3 w.heap.size k1 (.slice A gs.length c) (.slice (some ⟨g, 0, none⟩) gs.length cap) g cap ov) from HS2.out.later b3)
  generalize w2.heap.size = ba at ta
  have HRa := (show Hid (GpR gs oa) from ra)
  clear ra
  have HTa_3 := (show Hid (TT w3 ba 37 3 va (nM oa) xa) from ta)
  clear b3 HS2 y1 y2 HA1 HE2 ta
  have y1 := HS3.out.x1.cl
  have y2 := HS3.out.x2.cl
  go_wp2_with fail
  refine (HD1.out w3 _ _ (HIn.out _ HS3.out).2).mono ?_
  rintro e w4 ⟨⟨vb, xb, ob, rfl, rb, tb⟩, b4⟩
  have HS4 := (show Hid (LyS w0 w4 w.heap.size k1 (.slice A gs.length c) (.slice (some ⟨g, 0, none⟩) gs.length cap) g cap ov) from HS3.out.later b4)
  have HTa_4 := (show Hid (TT w4 ba 37 3 va (nM oa) xa) from (TT.below HTa_3.out b4))
  generalize w3.heap.size = bb at tb
  obtain rfl : oa = ob := HRa.out.same rb
  clear rb
  have HTb_4 := (show Hid (TT w4 bb 37 3 vb (nM oa) xb) from tb)
  clear b4 HS3 HTa_3 y1 y2 HD1 tb
  have y1 := HS4.out.x1.cl
  have y2 := HS4.out.x2.cl
  go_wp2_with fail
  refine (HA2.out w4 _ _ (HIn.out _ HS4.out).1).mono ?_
  rintro e w5 ⟨⟨vc, lc, rfl, rc, oc⟩, b5⟩
  have HS5 := (show Hid (LyS w0 w5 w.heap.size k1 (.slice A gs.length c) (.slice (some ⟨g, 0, none⟩) gs.length cap) g cap ov) from HS4.out.later b5)
  have HTa_5 := (show Hid (TT w5 ba 37 3 va (nM oa) xa) from (TT.below HTa_4.out b5))
  have HTb_5 := (show Hid (TT w5 bb 37 3 vb (nM oa) xb) from (TT.below HTb_4.out b5))
  generalize w4.heap.size = bc at oc
  have HRc := (show Hid (AgR gs lc) from rc)
  clear rc
  have HOc_5 := (show Hid (World.ownsRow w5 bc 4 1 vc lc.length (lc.map Value.bool)) from oc)
  clear b5 HS4 HTa_4 HTb_4 y1 y2 HA2 oc
  have y1 := HS5.out.x1.cl
  have y2 := HS5.out.x2.cl
  go_wp2_with fail
  refine (HD2.out w5 _ _ (HIn.out _ HS5.out).2).mono ?_
  rintro e w6 ⟨⟨vd, ld, rfl, rd, od⟩, b6⟩
  have HS6 := (show Hid (LyS w0 w6 w.heap.size k1 (.slice A gs.length c) (.slice (some ⟨g, 0, none⟩) gs.length cap) g cap ov) from HS5.out.later b6)
  have HTa_6 := (show Hid (TT w6 ba 37 3 va (nM oa) xa) from (TT.below HTa_5.out b6))
  have HTb_6 := (show Hid (TT w6 bb 37 3 vb (nM oa) xb) from (TT.below HTb_5.out b6))
  have HOc_6 := (show Hid (World.ownsRow w6 bc 4 1 vc lc.length (lc.map Value.bool)) from U.own_below HOc_5.out b6)
  generalize w5.heap.size = bd at od
  obtain rfl : lc = ld := HRc.out.same rd
  clear rd
  have HOd_6 := (show Hid (World.ownsRow w6 bd 4 1 vd lc.length (lc.map Value.bool)) from od)
  clear b6 HS5 HTa_5 HTb_5 HOc_5 y1 y2 HD2 od
  have y1 := HS6.out.x1.cl
  have y2 := HS6.out.x2.cl
  go_wp2_with fail
  refine (HWk.out w6).mono ?_
  rintro e w7 ⟨rfl, b7⟩
  have HS7 := (show Hid (LyS w0 w7 w.heap.size k1 (.slice A gs.length c) (.slice (some ⟨g, 0, none⟩) gs.length cap) g cap ov) from HS6.out.later b7)
  have HTa_7 := (show Hid (TT w7 ba 37 3 va (nM oa) xa) from (TT.below HTa_6.out b7))
  have HTb_7 := (show Hid (TT w7 bb 37 3 vb (nM oa) xb) from (TT.below HTb_6.out b7))
  have HOc_7 := (show Hid (World.ownsRow w7 bc 4 1 vc lc.length (lc.map Value.bool)) from U.own_below HOc_6.out b7)
  have HOd_7 := (show Hid (World.ownsRow w7 bd 4 1 vd lc.length (lc.map Value.bool)) from U.own_below HOd_6.out b7)
  clear b7 HS6 HTa_6 HTb_6 HOc_6 HOd_6 y1 y2 HWk
  have HLc := (show Hid (lc.length ≤ 100000) from agR_len HRc.out)
  have HGl := (show Hid (oa.length ≤ 100000 ∧ ∀ l ∈ oa, l.length ≤ 100000) from gpR_len HRa.out)
  obtain ⟨Aa, ca, ea⟩ := own_slice HTa_7.out.o
  obtain ⟨Ab, cb, eb⟩ := own_slice HTb_7.out.o
  have hla : xa.length = oa.length := HTa_7.out.len.trans (nM_len oa)
  have hlb : xb.length = oa.length := HTb_7.out.len.trans (nM_len oa)
  rw [hla] at ea
  rw [hlb] at eb
  subst ea eb
  have hgl := HGl.out.1
  clear HRc HRa hla hlb
  have y1 := HS7.out.x1.cl
  have y2 := HS7.out.x2.cl
  go_wp2_with fail
  refine (sameB_any _ _ _ _ _ lc HLc.out w7 HOc_7.out HOd_7.out).mono ?_
  rintro e w8 ⟨rfl, b8⟩
  have HS8 := (show Hid (LyS w0 w8 w.heap.size k1 (.slice A gs.length c) (.slice (some ⟨g, 0, none⟩) gs.length cap) g cap ov) from HS7.out.later b8)
  have HTa_8 := (show Hid (TT w8 ba 37 3 (.slice Aa oa.length ca) (nM oa) xa) from (TT.below HTa_7.out b8))
  have HTb_8 := (show Hid (TT w8 bb 37 3 (.slice Ab oa.length cb) (nM oa) xb) from (TT.below HTb_7.out b8))
  have HOc_8 := (show Hid (World.ownsRow w8 bc 4 1 vc lc.length (lc.map Value.bool)) from U.own_below HOc_7.out b8)
  have HOd_8 := (show Hid (World.ownsRow w8 bd 4 1 vd lc.length (lc.map Value.bool)) from U.own_below HOd_7.out b8)
  clear b8 HS7 HTa_7 HTb_7 HOc_7 HOd_7 y1 y2 
  clear HOc_8 HOd_8 HLc
  have HRd := (show Hid (∀ (k : Nat) (W : World), k < oa.length → Below w8.heap.size w8 W → ∃ g1 A3 c3 g2 A4 c4 n, Aa = some ⟨g1, 0, none⟩ ∧ W.cell? ⟨g1, k, none⟩ = some (.slice A3 n c3) ∧ Ab = some ⟨g2, 0, none⟩ ∧ W.cell? ⟨g2, k, none⟩ = some (.slice A4 n c4) ∧ Calls Try.prog 22 #[.slice A3 n c3, .slice A4 n c4] W fun e w' => e = .returned (.bool true) ∧ Below W.heap.size W w') from fun k W hk hb => by
    have hl : oa[k]? = some oa[k] := List.getElem?_eq_getElem hk
    obtain ⟨x1, r1, hx1, hr1, ho1⟩ := HTa_8.out.at' (i := k) (by rw [nM_len]; exact hk)
    obtain ⟨x2, r2, hx2, hr2, ho2⟩ := HTb_8.out.at' (i := k) (by rw [nM_len]; exact hk)
    rw [nM_get hl] at hr1 hr2
    cases hr1
    cases hr2
    rw [List.length_map] at ho1 ho2
    obtain ⟨A3, c3, rfl⟩ := own_slice ho1
    obtain ⟨A4, c4, rfl⟩ := own_slice ho2
    obtain ⟨g1, d1, e1, _, l1, y1, _⟩ := own_get HTa_8.out.o hx1
    obtain ⟨g2, d2, e2, _, l2, y2, _⟩ := own_get HTb_8.out.o hx2
    have f1 : Aa = some ⟨g1, 0, none⟩ := by injection e1
    have f2 : Ab = some ⟨g2, 0, none⟩ := by injection e2
    exact ⟨g1, A3, c3, g2, A4, c4, oa[k].length, f1, (hb.cell (p := ⟨g1, k, none⟩) l1).trans y1, f2, (hb.cell (p := ⟨g2, k, none⟩) l2).trans y2, sameI_any _ _ _ _ _ oa[k] (HGl.out.2 _ (List.getElem_mem hk)) W (U.own_below ho1 hb) (U.own_below ho2 hb)⟩)
  go_wp2_with fail
  go_loopw [12] (fun t wr => ∃ k : Nat, k ≤ oa.length ∧ t = .int .i64 (k : Int) ∧ Hid (Below w8.heap.size w8 wr)) (fun t _ => oa.length - (intOf t).toNat)
  case atStart => exact ⟨0, by omega, by go_num, Below.refl _ _⟩
  case round =>
    obtain ⟨k, hk, rfl, HBk⟩ := hrel
    by_cases hlt : k < oa.length
    · obtain ⟨g1, A3, c3, g2, A4, c4, n, rfl, y1, rfl, y2, _⟩ := HRd.out k wr hlt HBk.out
      have HCs := (show Hid (∀ W, Below wr.heap.size wr W → (W.cell? ⟨g1, k, none⟩ = some (.slice A3 n c3) ∧ W.cell? ⟨g2, k, none⟩ = some (.slice A4 n c4)) ∧ Calls Try.prog 22 #[.slice A3 n c3, .slice A4 n c4] W fun e w' => e = .returned (.bool true) ∧ Below wr.heap.size wr w') from fun W hW => by
        have hb : Below w8.heap.size w8 W := HBk.out.trans (hW.mono HBk.out.size)
        have z1 := (hW.cell (p := ⟨g1, k, none⟩) (World.block_lt_of_cell? wr _ y1)).trans y1
        have z2 := (hW.cell (p := ⟨g2, k, none⟩) (World.block_lt_of_cell? wr _ y2)).trans y2
        refine ⟨⟨z1, z2⟩, ?_⟩
        obtain ⟨g1', A3', c3', g2', A4', c4', n', e1, x1, e2, x2, hc⟩ := HRd.out k W hlt hb
        have f1 : g1 = g1' := by injection e1 with e1; injection e1
        have f2 : g2 = g2' := by injection e2 with e2; injection e2
        subst f1 f2
        rw [z1] at x1
        rw [z2] at x2
        cases x1
        cases x2
        refine hc.mono ?_
        rintro e w' ⟨rfl, b⟩
        exact ⟨rfl, hW.trans (b.mono hW.size)⟩)
      have v0 : (0 : Int) ≤ (k : Int) := by omega
      have v1 : (k : Int) < (oa.length : Int) := by omega
      clear HRd HK
      go_wp2_with fail
      go_region_held3 (fun W => W.cell? ⟨g1, k, none⟩ = some (.slice A3 n c3) ∧ W.cell? ⟨g2, k, none⟩ = some (.slice A4 n c4)) (first | go_keep | exact (HCs.out _ bq).1) ((go_at_call 22; with_reducible refine (HCs.out _ ((Below.refl _ _).drew)).2.mono ?_; rintro e wq ⟨rfl, bq⟩))
      all_goals
        have HB2 := (show Hid (Below w8.heap.size w8 wq) from HBk.out.trans (bq.mono HBk.out.size))
        clear bq HCs y1 y2 HBk
        go_wp2_with fail
        go_roundw
        case rel => exact ⟨k + 1, by omega, by go_num, HB2⟩
        case measure => simp [intOf]; omega
    · obtain rfl : k = oa.length := by omega
      have HSk := (show Hid (LyS w0 wr w.heap.size k1 (.slice A gs.length c) (.slice (some ⟨g, 0, none⟩) gs.length cap) g cap ov) from HS8.out.later HBk.out)
      have y1 := HSk.out.x1.cl
      have y2 := HSk.out.x2.cl
      clear HRd HS8 HTa_8 HTb_8
      go_wp2_with fail
      refine (HK.out _ g cap ov HM.out HSk.out.l (HP.out.d.later HSk.out.l.b)).mono ?_
      rintro e wz ⟨rfl, bz⟩
      have HBz := (show Hid (Below w.heap.size w wz) from HB0.out.trans ((HSk.out.l.b.trans (bz.mono HSk.out.l.b.size)).mono HB0.out.size))
      clear bz HK HSk HP y1 y2
      go_wp2_with fail
      go_ret
      exact ⟨rfl, HBz.out⟩
end Go.Proofs.Ytppggnmlbcdegaa.N

namespace Go.Proofs.Ytppggnmlbcdegaa
open Go.ChangeShapes Go.WideShapes Go.ChangeAt Go.RowKit
open Go.ChangeMaps (open_string shut_string)
set_option maxRecDepth 100000 in
theorem rulesGroups_lifted (os : Os) (started : os.Started) (H : Type) (enc : TypeId × Value → H) :
    ReturnsInHanded {} Try.checked os 5 .any (Rows.rulesGroupsSpec.pre6 enc Try.prog Try.f5 Rows.rulesGroupsRow.domain false) (Rows.rulesGroupsSpec.post enc Try.prog Try.f5 false true false false) := by
  refine returnsInHanded_of_change_sized (C := Try.checked) T.own started (by kernel_rfl) Try.func5
    (ChangeSpec.witness6 (enc := enc) (C := Try.checked) false ⟨#[], #[.agg #[.slice none 0 0]], []⟩ 8 (by kernel_rfl) (by kernel_rfl) (by kernel_rfl) (by kernel_rfl)) ?_
  intro W base args ds gs before hval0 hW hcnd hsz _
  have hval : ∀ (j : Nat) t v, Try.f5.params[j]? = some t → args[j]? = some v → Value.okWide Try.prog W .any base t v := hval0
  have hW' := hW
  obtain ⟨p, q, hA0, hV, rfl, hfz, hnd⟩ := hW
  have hA : DataW.TrodAll enc Try.prog W 0 (fun _ => true) true Try.f5.params.toList args.toList ds p := hA0
  rw [Try.params5] at hA hval
  have hsz : (DataW.weightsEach Try.prog (#[24].toList ++ Rows.rulesGroupsSpec.plain.varTypes Try.prog) (ds ++ gs)).all (· ≤ reachBytes) = true := hsz
  obtain ⟨v0, d0, rfl, rfl, h0⟩ := trodAll_one hA
  obtain ⟨rfl, rfl⟩ := trodVars_none hV
  have lt0 : ∀ x ∈ p, x.block < W.heap.size := by obtain ⟨m, hm⟩ := h0; exact DataW.trod_lt m _ _ _ hm
  obtain ⟨A0, c0, L0, rfl, r0⟩ := N.open_gram h0 (hval 0 24 v0 rfl rfl) (T.sized_at hsz (j := 0) rfl rfl)
  clear hA0 hval0
  refine (N.groups_law L0 A0 c0 W r0).mono fun e W' ⟨he, bel⟩ => ?_
  subst he
  exact ⟨_, rfl, _, _, _, [], _, [], hW', trodAll_mk1 (shut_bool Try.underlying4 _), (trodAll_cons_mk (Below.trod T.laidOut (by kernel_rfl) (of_decide_eq_true (by kernel_rfl)) h0 bel lt0) trodAll_mk0), rfl, bel.frame _, fun h => by cases h⟩

theorem rulesGroups_holds : Rows.RulesGroupsSaid :=
  OpenClaim.holds_of_wide 5 Try.f5 rfl rfl rfl rfl rfl rfl rfl ⟨rfl, rfl, rfl, rfl, rfl⟩ rfl rfl rfl rfl rfl (by kernel_rfl) Try.func5 (by kernel_rfl)
    (of_decide_eq_true (by kernel_rfl)) (by unfold Func.isWrapper; first | (rw [if_pos (by decide +kernel)]; kernel_rfl) | (rw [if_neg (by decide +kernel)]; exact ⟨rfl, rfl⟩))
    (fun os started H enc _ => rulesGroups_lifted os started H enc)
end Go.Proofs.Ytppggnmlbcdegaa
