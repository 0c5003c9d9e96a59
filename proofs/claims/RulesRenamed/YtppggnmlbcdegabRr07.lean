/- RulesRenamed: of every grammar, number and name the law returns true: a renamed grammar is found by its new name, calls what it called, and renamed back is as it was; no conditions. -/
import Derived.Test.YtppggnmlbcdegabRr06
namespace Go.Proofs.Ytppggnmlbcdegab.N
open Go.RowKit Go.Maps
open Go.Proofs.Ytppggnmlbcdegab.T
theorem renameP_any (gs : GL) (A : Option Addr) (c : Nat) (r : Int) (s : ByteArray) (hs : s.size ≤ 140737488355328) (w : World) (hp : GI w A gs) :
    Calls Try.prog 4 #[.agg #[.slice A gs.length c], .int .i64 r, .string s] w fun e w' => RnA w w' e gs r s ∧ Below w.heap.size w w' := by
  by_cases h : rnE gs r s = 0
  · obtain ⟨n, rfl⟩ : ∃ n : Nat, r = (n : Int) := ⟨r.toNat, by have := (lkR_zero (rnE_zero h).1).2.1; omega⟩
    exact renameP_yes gs A c n s hs w hp h
  · exact renameP_no gs A c r s hs w hp h
theorem clR_len (gs : GL) (r : Int) : (clR gs r).length ≤ 100000 := by
  unfold clR
  split
  · rename_i h
    have h1 := cL_len gs r.toNat
    have h2 := (lkR_zero h).1.n2
    omega
  · exact Nat.zero_le _
theorem enters4 (args : Array Value) (w : World) : (callFunc 4 args).run Try.prog w = .ok (.enter 4 args) w := enters_of Try.func4 (by kernel_rfl) rfl args w
theorem hid_of {p : Prop} (h : p) : Hid p := h
/-- The grammar's box and the answer's. -/
structure RvS (w2 wr : World) (k0 k1 : Nat) (u v : Value) : Prop where
  b : Below w2.heap.size w2 wr
  x : GX wr k0 u
  z : GX wr k1 v
theorem RvS.later {w2 wr W' : World} {k0 k1 : Nat} {u v : Value} (h : RvS w2 wr k0 k1 u v) (hb : Below wr.heap.size wr W') : RvS w2 W' k0 k1 u v := ⟨h.b.trans (hb.mono h.b.size), h.x.below hb, h.z.below hb⟩
set_option maxRecDepth 100000 in
set_option maxHeartbeats 16000000 in
theorem renamed_no (gs : GL) (A : Option Addr) (c : Nat) (r : Int) (s : ByteArray) (hs : s.size ≤ 140737488355328) (w : World) (hp : GI w A gs) (h0 : ¬ rnE gs r s = 0) : Calls Try.prog 3 #[.agg #[.slice A gs.length c], .int .i64 r, .string s] w fun e w' => e = .returned (.bool true) ∧ Below w.heap.size w w' := by
  obtain ⟨w0, hw0⟩ : ∃ w0, w0 = w.alloc (.cells #[.slice A gs.length c] 24) := ⟨_, rfl⟩
  have hb0 : Below w.heap.size w w0 := by rw [hw0]; exact below_box w _
  have HX0 := (show Hid (GX w0 w.heap.size (.slice A gs.length c)) from by rw [hw0]; exact GX.mk (heap_alloc_new w _))
  have HE0 := (show Hid (w.alloc (.cells #[.slice A gs.length c] 24) = w0) from hw0.symm)
  have HB0 := (show Hid (Below w.heap.size w w0) from hb0)
  have HWk := (show Hid (∀ W, Calls Try.prog 5 #[] W fun e w' => e = .returned (.bool true) ∧ Below W.heap.size W w') from lives_any)
  have HR := (show Hid (∀ _ : Unit, Calls Try.prog 4 #[.agg #[.slice A gs.length c], .int .i64 r, .string s] w0 fun e w' => (∃ Av cv, e = .returned (.tuple #[.agg #[.slice Av 0 cv], .int .i64 (rnE gs r s)])) ∧ Below w0.heap.size w0 w') from fun _ => by
    refine (renameP_any gs A c r s hs w0 (hp.later hb0)).mono ?_
    rintro e w' ⟨⟨v, ov, rfl, h1, h2⟩, hb⟩
    have h3 : rnG gs r s = [] := by unfold rnG; rw [if_neg h0]
    rw [h3] at h1
    obtain rfl : ov = [] := List.map_eq_nil_iff.1 h1
    obtain ⟨Av, cv, rfl⟩ := own_sl h2.o
    exact ⟨⟨Av, cv, rfl⟩, hb⟩)
  have tz : (rnE gs r s != 0) = true := by rw [bne, beq_eq_false_iff_ne.2 h0]; rfl
  have x0 := HX0.out.cl
  generalize rnE gs r s = re at *
  clear hp h0 hs hw0 hb0
  go_enter Try.func3, Try.ntmps3
  go_wp2_with (rw [HE0.out])
  refine (HR.out ()).mono ?_
  rintro e w1 ⟨⟨Av, cv, rfl⟩, b1⟩
  obtain ⟨w2, hw2⟩ : ∃ w2, w2 = w1.alloc (.cells #[.slice Av 0 cv] 24) := ⟨_, rfl⟩
  have HE2 := (show Hid (w1.alloc (.cells #[.slice Av 0 cv] 24) = w2) from hw2.symm)
  have HZ := (show Hid (GX w2 w1.heap.size (.slice Av 0 cv)) from by rw [hw2]; exact GX.mk (heap_alloc_new w1 _))
  have HB2 := (show Hid (Below w.heap.size w w2) from by
    have hb := HB0.out.trans (b1.mono HB0.out.size)
    show Below _ _ _
    rw [hw2]
    exact hb.alloc hb.size _)
  clear b1 hw2 x0 HR HX0 HB0
  go_wp2_with (rw [HE2.out])
  generalize w1.heap.size = k1 at *
  refine (HWk.out _).mono ?_
  rintro e w3 ⟨rfl, b3⟩
  have z3 := (HZ.out.below b3).cl
  have HB3 := (show Hid (Below w.heap.size w w3) from HB2.out.trans (b3.mono HB2.out.size))
  clear b3 HZ HB2 HE2
  go_wp2_with fail
  go_ret
  exact ⟨rfl, HB3.out⟩
set_option maxRecDepth 100000 in
set_option maxHeartbeats 32000000 in
theorem renamed_yes (gs : GL) (A : Option Addr) (c : Nat) (r : Nat) (s : ByteArray) (hs : s.size ≤ 140737488355328) (w : World) (hp : GI w A gs) (h0 : rnE gs (r : Int) s = 0) : Calls Try.prog 3 #[.agg #[.slice A gs.length c], .int .i64 (r : Int), .string s] w fun e w' => e = .returned (.bool true) ∧ Below w.heap.size w w' := by
  have hR := (lkR_zero (rnE_zero h0).1).1
  have hr : r < gs.length := by have := (lkR_zero (rnE_zero h0).1).2.2; omega
  obtain ⟨g0, hg0⟩ : ∃ g0, gs[r]? = some g0 := ⟨_, List.getElem?_eq_getElem hr⟩
  obtain ⟨hs9, hhs⟩ : ∃ hs9, hs9 = reG gs r g0.1 s := ⟨_, rfl⟩
  have hlen : hs9.length = gs.length := by rw [hhs, reG_len]
  have hrn : rnG gs (r : Int) s = hs9 := by rw [hhs]; unfold rnG; rw [if_pos h0, Int.toNat_natCast, hg0]; rfl
  have HFn := (show Hid (fnR hs9 s = ((r : Int), 0)) from by rw [hhs]; exact ren_find h0 hg0)
  have HCl := (show Hid (∀ i : Nat, i < gs.length → lkR gs (i : Int) = 0 ∧ lkR hs9 (i : Int) = 0 ∧ clR hs9 (i : Int) = clR gs (i : Int)) from fun i hi => by rw [hhs]; exact ren_calls h0 hg0 hi)
  have HBk0 := (show Hid (g0.1.size = 0 → rnE hs9 (r : Int) g0.1 = 6) from fun q => by rw [hhs]; exact ren_back0 h0 hg0 q)
  have HBk := (show Hid (¬ g0.1.size = 0 → rnE hs9 (r : Int) g0.1 = 0 ∧ rnG hs9 (r : Int) g0.1 = gs) from fun q => by rw [hhs]; exact ren_back h0 hg0 q)
  have HSz := (show Hid (∀ g ∈ hs9, g.1.size ≤ 140737488355328 ∧ g.2.length ≤ 140737488355328 ∧ ∀ n ∈ g.2, n.tx.size ≤ 140737488355328) from by rw [hhs]; exact ren_sizes hs hp.t)
  obtain ⟨w0, hw0⟩ : ∃ w0, w0 = w.alloc (.cells #[.slice A gs.length c] 24) := ⟨_, rfl⟩
  have hb0 : Below w.heap.size w w0 := by rw [hw0]; exact below_box w _
  have HX0 := (show Hid (GX w0 w.heap.size (.slice A gs.length c)) from by rw [hw0]; exact GX.mk (heap_alloc_new w _))
  have HE0 := (show Hid (w.alloc (.cells #[.slice A gs.length c] 24) = w0) from hw0.symm)
  have HB0 := (show Hid (Below w.heap.size w w0) from hb0)
  have HP := (show Hid (GI w A gs) from hp)
  have HWk := (show Hid (∀ W, Calls Try.prog 5 #[] W fun e w' => e = .returned (.bool true) ∧ Below W.heap.size W w') from lives_any)
  have HSs := (show Hid (s.size ≤ 140737488355328) from hs)
  have HRn := (show Hid (∀ _ : Unit, Calls Try.prog 4 #[.agg #[.slice A gs.length c], .int .i64 (r : Int), .string s] w0 fun e w' => (∃ Ah ch, e = .returned (.tuple #[.agg #[.slice Ah gs.length ch], .int .i64 0]) ∧ GI w' Ah hs9) ∧ Below w0.heap.size w0 w') from fun _ => by
    refine (renameP_any gs A c (r : Int) s hs w0 (hp.later hb0)).mono ?_
    rintro e w' ⟨⟨v, ov, rfl, h1, h2⟩, hb⟩
    rw [hrn] at h1
    obtain ⟨Ah, ch, rfl, hd⟩ := h2.rd h1
    rw [hlen, h0]
    exact ⟨⟨Ah, ch, rfl, hd, by rw [hlen]; exact hp.l, HSz.out⟩, hb⟩)
  obtain ⟨b, o, A2, c2, rfl, lb, e0, _, _⟩ := hp.d r g0 hg0
  have HNm := (show Hid (∀ W, Below w.heap.size w W → W.cell? ⟨b, o + r * 2, none⟩ = some (.string g0.1)) from fun W hW => (hW.cell (p := ⟨b, o + r * 2, none⟩) lb).trans e0)
  have HNs := (show Hid (g0.1.size ≤ 140737488355328) from (hp.t g0 (List.mem_of_getElem? hg0)).1)
  have HL9 := (show Hid (hs9.length = gs.length) from hlen)
  have hgl := hR.n2
  have z0 : (0 : Int) ≤ (r : Int) := by omega
  have z1 : (r : Int) < (gs.length : Int) := by omega
  have x0 := HX0.out.cl
  obtain ⟨nm0, hnm0⟩ : ∃ nm0, nm0 = g0.1 := ⟨_, rfl⟩
  rw [← hnm0] at HBk0 HBk HNm HNs
  clear hp h0 hs hw0 hb0 hR hr hg0 hhs hlen hrn lb e0 hnm0 HSz
  go_enter Try.func3, Try.ntmps3
  go_wp2_with (rw [HE0.out])
  refine (HRn.out ()).mono ?_
  rintro e w1 ⟨⟨Ah, ch, rfl, hGh⟩, b1⟩
  obtain ⟨w2, hw2⟩ : ∃ w2, w2 = w1.alloc (.cells #[.slice Ah gs.length ch] 24) := ⟨_, rfl⟩
  have HE2 := (show Hid (w1.alloc (.cells #[.slice Ah gs.length ch] 24) = w2) from hw2.symm)
  have bx : Below w1.heap.size w1 w2 := by rw [hw2]; exact below_box _ _
  have HB2 := (show Hid (Below w.heap.size w w2) from (HB0.out.trans (b1.mono HB0.out.size)).trans (bx.mono (Nat.le_trans HB0.out.size b1.size)))
  have HS2 := (show Hid (RvS w2 w2 w.heap.size w1.heap.size (.slice (some ⟨b, o, none⟩) gs.length c) (.slice Ah gs.length ch)) from ⟨Below.refl _ _, (HX0.out.below b1).below bx, by rw [hw2]; exact GX.mk (heap_alloc_new w1 _)⟩)
  have HGg := (show Hid (∀ W, Below w2.heap.size w2 W → GI W (some ⟨b, o, none⟩) gs ∧ GI W Ah hs9) from fun W hW => ⟨(HP.out.later HB2.out).later hW, (hGh.later bx).later hW⟩)
  have hz := HS2.out.z.cl
  clear b1 bx hw2 x0 HRn HX0 HB0 HP hGh HE0
  go_wp2_with (rw [HE2.out])
  generalize w1.heap.size = k1 at *
  have HFd := (show Hid (∀ W, Below w2.heap.size w2 W → Calls Try.prog 6 #[.agg #[.slice Ah gs.length ch], .string s] W fun e w' => e = .returned (.tuple #[.int .i64 (r : Int), .int .i64 0]) ∧ Below W.heap.size W w') from fun W hW => by
    have h := findP_any hs9 Ah ch s HSs.out W (HGg.out W hW).2
    rw [HL9.out, HFn.out] at h
    exact h)
  have HC1 := (show Hid (∀ (W : World) (i : Nat), i < gs.length → Below w2.heap.size w2 W → Calls Try.prog 7 #[.agg #[.slice (some ⟨b, o, none⟩) gs.length c], .int .i64 (i : Int)] W fun e w' => (∃ v, e = .returned (.tuple #[v, .int .i64 0]) ∧ w'.ownsRow W.heap.size 3 1 v (clR gs (i : Int)).length ((clR gs (i : Int)).map U.nI)) ∧ Below W.heap.size W w') from fun W i hi hW => by
    have h := callsP_any gs (some ⟨b, o, none⟩) c (i : Int) W (HGg.out W hW).1
    rw [(HCl.out i hi).1] at h
    exact h)
  have HC2 := (show Hid (∀ (W : World) (i : Nat), i < gs.length → Below w2.heap.size w2 W → Calls Try.prog 7 #[.agg #[.slice Ah gs.length ch], .int .i64 (i : Int)] W fun e w' => (∃ v, e = .returned (.tuple #[v, .int .i64 0]) ∧ w'.ownsRow W.heap.size 3 1 v (clR gs (i : Int)).length ((clR gs (i : Int)).map U.nI)) ∧ Below W.heap.size W w') from fun W i hi hW => by
    have h := callsP_any hs9 Ah ch (i : Int) W (HGg.out W hW).2
    rw [(HCl.out i hi).2.1, (HCl.out i hi).2.2, HL9.out] at h
    exact h)
  have HBa := (show Hid (∀ W, Below w2.heap.size w2 W → Calls Try.prog 4 #[.agg #[.slice Ah gs.length ch], .int .i64 (r : Int), .string nm0] W fun e w' => (∃ Av nv cv ov, e = .returned (.tuple #[.agg #[.slice Av nv cv], .int .i64 (rnE hs9 (r : Int) nm0)]) ∧ ov.map (·.1) = rnG hs9 (r : Int) nm0 ∧ OG w' w2.heap.size (.slice Av nv cv) ov) ∧ Below W.heap.size W w') from fun W hW => by
    have h := renameP_any hs9 Ah ch (r : Int) nm0 HNs.out W (HGg.out W hW).2
    rw [HL9.out] at h
    refine h.mono ?_
    rintro e w' ⟨⟨v, ov, rfl, h1, h2⟩, hb⟩
    obtain ⟨Av, cv, rfl⟩ := own_sl h2.o
    exact ⟨⟨Av, _, cv, ov, rfl, h1, h2.base hW.size⟩, hb⟩)
  have HLn := (show Hid (∀ i : Nat, (clR gs (i : Int)).length ≤ 100000) from fun i => clR_len _ _)
  have HGm := (show Hid (∀ W, Below w2.heap.size w2 W → GrR W (.slice (some ⟨b, o, none⟩) gs.length c) gs) from fun W hW => ⟨_, _, rfl, (HGg.out W hW).1.d⟩)
  have HGs := (show Hid (GmL gs) from ⟨by omega, fun g hg => ((HGg.out w2 (Below.refl _ _)).1.t g hg).2.1⟩)
  clear HGg HFn HCl HL9 HNs HSs hz HE2
  refine (HFd.out w2 (Below.refl _ _)).mono ?_
  rintro e w3 ⟨rfl, b3⟩
  have HS3 := (show Hid (RvS w2 w3 w.heap.size k1 (.slice (some ⟨b, o, none⟩) gs.length c) (.slice Ah gs.length ch)) from HS2.out.later b3)
  have q1 := HS3.out.x.cl
  have q2 := HS3.out.z.cl
  clear HFd b3 HS2
  go_wp2_with fail
  clear q1 q2
  go_loopw [11] (fun t wr => ∃ (i : Nat), i ≤ gs.length ∧ t = .int .i64 (i : Int) ∧ Hid (RvS w2 wr w.heap.size k1 (.slice (some ⟨b, o, none⟩) gs.length c) (.slice Ah gs.length ch))) (fun t _ => gs.length - (intOf t).toNat)
  case atStart => exact ⟨0, Nat.zero_le _, by go_num, HS3⟩
  case round =>
    obtain ⟨i, hi, rfl, HW⟩ := hrel
    clear HS3
    have q1 := HW.out.x.cl
    by_cases hlt : i < gs.length
    · go_wp2_with fail
      refine (HC1.out _ i hlt HW.out.b).mono ?_
      rintro e w4 ⟨⟨va, rfl, oa⟩, b4⟩
      have HW4 := (show Hid (RvS w2 w4 w.heap.size k1 (.slice (some ⟨b, o, none⟩) gs.length c) (.slice Ah gs.length ch)) from HW.out.later b4)
      have HO4 := (show Hid _ from oa)
      have q2 := HW4.out.z.cl
      clear q1 b4 oa HW
      go_wp2_with fail
      refine (HC2.out _ i hlt HW4.out.b).mono ?_
      rintro e w5 ⟨⟨vb, rfl, ob⟩, b5⟩
      have HW5 := (show Hid (RvS w2 w5 w.heap.size k1 (.slice (some ⟨b, o, none⟩) gs.length c) (.slice Ah gs.length ch)) from HW4.out.later b5)
      have HI := (show Hid (∀ _ : Unit, Calls Try.prog 8 #[va, vb] w5 fun e w' => e = .returned (.bool true) ∧ Below w5.heap.size w5 w') from fun _ => sameI_any va vb _ _ _ _ (HLn.out i) w5 (U.own_below HO4.out b5) ob)
      clear b5 ob HO4 HW4 q2
      go_wp2_with fail
      refine (HI.out ()).mono ?_
      rintro e w6 ⟨rfl, b6⟩
      have HW6 := (show Hid (RvS w2 w6 w.heap.size k1 (.slice (some ⟨b, o, none⟩) gs.length c) (.slice Ah gs.length ch)) from HW5.out.later b6)
      clear b6 HI HW5
      go_wp2_with fail
      go_roundw
      case rel => exact ⟨i + 1, by omega, by go_num, HW6⟩
      case measure => simp [intOf]; omega
    · obtain rfl : i = gs.length := by omega
      have hD : Below wr.heap.size wr wr.drew := (Below.refl _ _).drew
      have HWd := (show Hid (RvS w2 wr.drew w.heap.size k1 (.slice (some ⟨b, o, none⟩) gs.length c) (.slice Ah gs.length ch)) from HW.out.later hD)
      have d1 := HWd.out.x.cl
      have d2 := HWd.out.z.cl
      have d3 := HNm.out _ (HB2.out.trans (HWd.out.b.mono HB2.out.size))
      have HCall := (show Hid (∀ _ : Unit, Calls Try.prog 4 #[.agg #[.slice Ah gs.length ch], .int .i64 (r : Int), .string nm0] wr.drew fun e w' => (∃ Av nv cv ov, e = .returned (.tuple #[.agg #[.slice Av nv cv], .int .i64 (rnE hs9 (r : Int) nm0)]) ∧ ov.map (·.1) = rnG hs9 (r : Int) nm0 ∧ OG w' w2.heap.size (.slice Av nv cv) ov) ∧ RvS w2 w' w.heap.size k1 (.slice (some ⟨b, o, none⟩) gs.length c) (.slice Ah gs.length ch)) from fun _ => (HBa.out _ HWd.out.b).mono fun e w' q => ⟨q.1, HWd.out.later q.2⟩)
      obtain ⟨wz, hwz⟩ : ∃ wz, wz = (wr.alloc (.cells #[.slice none 0 0] 24)).drew := ⟨_, rfl⟩
      have hA : Below wr.heap.size wr wz := by rw [hwz]; exact (below_box wr _).drew
      have HWa := (show Hid (RvS w2 wz w.heap.size k1 (.slice (some ⟨b, o, none⟩) gs.length c) (.slice Ah gs.length ch)) from HW.out.later hA)
      have HXa := (show Hid (GX wz wr.heap.size (.slice none 0 0)) from by rw [hwz]; exact ⟨heap_alloc_new wr _⟩)
      have a1 := HWa.out.x.cl
      have a2 := HWa.out.z.cl
      have a3 := HNm.out _ (HB2.out.trans (HWa.out.b.mono HB2.out.size))
      have HCall2 := (show Hid (∀ _ : Unit, Calls Try.prog 4 #[.agg #[.slice Ah gs.length ch], .int .i64 (r : Int), .string nm0] wz fun e w' => (∃ Av nv cv ov, e = .returned (.tuple #[.agg #[.slice Av nv cv], .int .i64 (rnE hs9 (r : Int) nm0)]) ∧ ov.map (·.1) = rnG hs9 (r : Int) nm0 ∧ OG w' w2.heap.size (.slice Av nv cv) ov) ∧ RvS w2 w' w.heap.size k1 (.slice (some ⟨b, o, none⟩) gs.length c) (.slice Ah gs.length ch) ∧ GX w' wr.heap.size (.slice none 0 0)) from fun _ => (HBa.out _ HWa.out.b).mono fun e w' q => ⟨q.1, HWa.out.later q.2, HXa.out.below q.2⟩)
      rw [hwz] at a1 a2 a3 HCall2
      clear hwz hA HWa HXa
      have HSe := (show Hid (∀ (w4 : World) (v : Value) (ov : List Rg), RvS w2 w4 w.heap.size k1 (.slice (some ⟨b, o, none⟩) gs.length c) (.slice Ah gs.length ch) → GX w4 wr.heap.size (.slice none 0 0) → OG w4 w2.heap.size v ov → Hid (RvS w2 (w4.setCell ⟨wr.heap.size, 0, none⟩ v) w.heap.size k1 (.slice (some ⟨b, o, none⟩) gs.length c) (.slice Ah gs.length ch) ∧ GX (w4.setCell ⟨wr.heap.size, 0, none⟩ v) wr.heap.size v ∧ OG (w4.setCell ⟨wr.heap.size, 0, none⟩ v) w2.heap.size v ov)) from fun w4 v ov h3 h4 h2 => by
        have key : ∀ (j : Nat), j ≠ wr.heap.size → (w4.setCell ⟨wr.heap.size, 0, none⟩ v).heap[j]? = w4.heap[j]? := fun j hj => Below.heap_setCell _ _ _ _ hj
        have l1 := HW.out.x.lt
        have l2 := HW.out.z.lt
        exact ⟨⟨h3.b.setCell (p := ⟨wr.heap.size, 0, none⟩) HW.out.b.size _, h3.x.same (key _ (by omega)), h3.z.same (key _ (by omega))⟩, h4.set _, h2.same fun j hj => key j (h2.ne h4 hj)⟩)
      have HAl := (show Hid (∀ (w4 : World) (v : Value) (ov : List Rg), RvS w2 w4 w.heap.size k1 (.slice (some ⟨b, o, none⟩) gs.length c) (.slice Ah gs.length ch) → OG w4 w2.heap.size v ov → Hid (RvS w2 (w4.alloc (.cells #[v] 24)) w.heap.size k1 (.slice (some ⟨b, o, none⟩) gs.length c) (.slice Ah gs.length ch) ∧ GX (w4.alloc (.cells #[v] 24)) w4.heap.size v ∧ OG (w4.alloc (.cells #[v] 24)) w2.heap.size v ov)) from fun w4 v ov h3 h2 => ⟨h3.later (below_box _ _), GX.mk (heap_alloc_new w4 _), h2.later (below_box _ _)⟩)
      clear HC1 HC2 HBa HLn hD HWd HW
      by_cases hz : nm0.size = 0
      · have e6 := HBk0.out hz
        rw [e6] at HCall HCall2
        have te : (nm0.toList == []) = true := by
          have e := emp_t hz
          rw [List.isEmpty_iff] at e
          rw [e]; rfl
        have te2 := emp_t hz
        clear e6 hz HBk0 HBk
        generalize rnG hs9 (r : Int) nm0 = rg at *
        go_wp2_with fail
        go_region_law (first
          | (refine step_call3 enters4 rfl _ _ _ _ _ _ (by rfl) (.agg #[.slice Ah gs.length ch]) (.int .i64 (r : Int)) (.string nm0) (by rfl) (by rfl) (by rfl) ?_; with_reducible refine (HCall.out ()).mono ?_; rintro e w4 ⟨⟨Av, nv, cv, ov, rfl, h1, h2⟩, h3⟩; refine ⟨_, rfl, ?_⟩; have HF := HAl.out w4 (.slice Av nv cv) ov h3 h2)
          | (refine step_call3 enters4 rfl _ _ _ _ _ _ (by rfl) (.agg #[.slice Ah gs.length ch]) (.int .i64 (r : Int)) (.string nm0) (by rfl) (by rfl) (by rfl) ?_; with_reducible refine (HCall2.out ()).mono ?_; rintro e w4 ⟨⟨Av, nv, cv, ov, rfl, h1, h2⟩, h3, h4⟩; refine ⟨_, rfl, ?_⟩; have hzf := h4.fz; have hzc := h4.cl; have HF := HSe.out w4 (.slice Av nv cv) ov h3 h4 h2))
        all_goals
          have HM := hid_of h1
          first
            | (clear hzf hzc; generalize w4.setCell ⟨wr.heap.size, 0, none⟩ (.slice Av nv cv) = w5 at HF ⊢; generalize wr.heap.size = kk at HF ⊢; clear h1 h2 h3 h4)
            | (generalize w4.alloc (.cells #[.slice Av nv cv] 24) = w5 at HF ⊢; generalize w4.heap.size = kk at HF ⊢; clear h1 h2 h3)
          clear HCall HCall2 HSe HAl d1 d2 d3 a1 a2 a3
          have p1 := HF.out.1.x.cl
          have p2 := HF.out.1.z.cl
          have p3 := HF.out.2.1.cl
          have p4 := HNm.out _ (HB2.out.trans (HF.out.1.b.mono HB2.out.size))
          go_wp2_with fail
          refine (HWk.out _).mono ?_
          rintro e w6 ⟨rfl, b6⟩
          have HB6 := (show Hid (Below w.heap.size w w6) from (HB2.out.trans (HF.out.1.b.mono HB2.out.size)).trans (b6.mono (HB2.out.trans (HF.out.1.b.mono HB2.out.size)).size))
          clear b6 HF p1 p2 p3 p4
          go_wp2_with fail
          go_ret
          exact ⟨rfl, HB6.out⟩
      · obtain ⟨e6, e7⟩ := HBk.out hz
        rw [e6, e7] at HCall HCall2
        have te : (nm0.toList == []) = false := by
          have e := emp_f hz
          cases hl : nm0.toList with
          | nil => rw [hl] at e; cases e
          | cons x r => rfl
        have te2 := emp_f hz
        clear e6 e7 hz HBk0 HBk
        go_wp2_with fail
        go_region_law (first
          | (refine step_call3 enters4 rfl _ _ _ _ _ _ (by rfl) (.agg #[.slice Ah gs.length ch]) (.int .i64 (r : Int)) (.string nm0) (by rfl) (by rfl) (by rfl) ?_; with_reducible refine (HCall.out ()).mono ?_; rintro e w4 ⟨⟨Av, nv, cv, ov, rfl, h1, h2⟩, h3⟩; refine ⟨_, rfl, ?_⟩; have HF := HAl.out w4 (.slice Av nv cv) ov h3 h2)
          | (refine step_call3 enters4 rfl _ _ _ _ _ _ (by rfl) (.agg #[.slice Ah gs.length ch]) (.int .i64 (r : Int)) (.string nm0) (by rfl) (by rfl) (by rfl) ?_; with_reducible refine (HCall2.out ()).mono ?_; rintro e w4 ⟨⟨Av, nv, cv, ov, rfl, h1, h2⟩, h3, h4⟩; refine ⟨_, rfl, ?_⟩; have hzf := h4.fz; have hzc := h4.cl; have HF := HSe.out w4 (.slice Av nv cv) ov h3 h4 h2))
        all_goals
          have HM := hid_of h1
          first
            | (clear hzf hzc; generalize w4.setCell ⟨wr.heap.size, 0, none⟩ (.slice Av nv cv) = w5 at HF ⊢; generalize wr.heap.size = kk at HF ⊢; clear h1 h2 h3 h4)
            | (generalize w4.alloc (.cells #[.slice Av nv cv] 24) = w5 at HF ⊢; generalize w4.heap.size = kk at HF ⊢; clear h1 h2 h3)
          clear HCall HCall2 HSe HAl d1 d2 d3 a1 a2 a3
          have p1 := HF.out.1.x.cl
          have p2 := HF.out.1.z.cl
          have p3 := HF.out.2.1.cl
          have p4 := HNm.out _ (HB2.out.trans (HF.out.1.b.mono HB2.out.size))
          have HSm := (show Hid (∀ _ : Unit, Calls Try.prog 9 #[.agg #[.slice Av nv cv], .agg #[.slice (some ⟨b, o, none⟩) gs.length c]] w5 fun e w' => e = .returned (.bool true) ∧ Below w5.heap.size w5 w') from fun _ => (sameP_any HGs.out HGs.out (HF.out.2.2.rd HM.out) (HGm.out _ HF.out.1.b)).mono fun e w' q => ⟨by rw [q.1, gmB_t rfl], q.2⟩)
          go_wp2_with fail
          refine (HSm.out ()).mono ?_
          rintro e w6 ⟨rfl, b6⟩
          have HB6 := (show Hid (Below w.heap.size w w6) from (HB2.out.trans (HF.out.1.b.mono HB2.out.size)).trans (b6.mono (HB2.out.trans (HF.out.1.b.mono HB2.out.size)).size))
          clear b6 HF p1 p2 p3 p4 HSm
          go_wp2_with fail
          refine (HWk.out _).mono ?_
          rintro e w7 ⟨rfl, b7⟩
          have HB7 := (show Hid (Below w.heap.size w w7) from HB6.out.trans (b7.mono HB6.out.size))
          clear b7 HB6
          go_wp2_with fail
          go_ret
          exact ⟨rfl, HB7.out⟩
theorem renamed_law (gs : GL) (A : Option Addr) (c : Nat) (r : Int) (s : ByteArray) (hs : s.size ≤ 140737488355328) (w : World) (hg : GrIn w A c gs) : Calls Try.prog 3 #[.agg #[.slice A gs.length c], .int .i64 r, .string s] w fun e w' => e = .returned (.bool true) ∧ Below w.heap.size w w' := by
  by_cases h : rnE gs r s = 0
  · obtain ⟨n, rfl⟩ : ∃ n : Nat, r = (n : Int) := ⟨r.toNat, by have := (lkR_zero (rnE_zero h).1).2.1; omega⟩
    exact renamed_yes gs A c n s hs w hg.gi h
  · exact renamed_no gs A c r s hs w hg.gi h
end Go.Proofs.Ytppggnmlbcdegab.N

namespace Go.Proofs.Ytppggnmlbcdegab
open Go.ChangeShapes Go.WideShapes Go.ChangeAt Go.RowKit
open Go.ChangeMaps (open_string shut_string)
set_option maxRecDepth 100000 in
theorem rulesRenamed_lifted (os : Os) (started : os.Started) (H : Type) (enc : TypeId × Value → H) :
    ReturnsInHanded {} Try.checked os 3 .any (Rows.rulesRenamedSpec.pre6 enc Try.prog Try.f3 Rows.rulesRenamedRow.domain false) (Rows.rulesRenamedSpec.post enc Try.prog Try.f3 false true false false) := by
  refine returnsInHanded_of_change_sized (C := Try.checked) T.own started (by kernel_rfl) Try.func3
    (ChangeSpec.witness6 (enc := enc) (C := Try.checked) false ⟨#[], #[.agg #[.slice none 0 0], .int .i64 0, .string ByteArray.empty], []⟩ 8 (by kernel_rfl) (by kernel_rfl) (by kernel_rfl) (by kernel_rfl)) ?_
  intro W base args ds gs before hval0 hW hcnd hsz _
  have hval : ∀ (j : Nat) t v, Try.f3.params[j]? = some t → args[j]? = some v → Value.okWide Try.prog W .any base t v := hval0
  have hW' := hW
  obtain ⟨p, q, hA0, hV, rfl, hfz, hnd⟩ := hW
  have hA : DataW.TrodAll enc Try.prog W 0 (fun _ => true) true Try.f3.params.toList args.toList ds p := hA0
  rw [Try.params3] at hA hval
  have hsz : (DataW.weightsEach Try.prog (#[24, 3, 9].toList ++ Rows.rulesRenamedSpec.plain.varTypes Try.prog) (ds ++ gs)).all (· ≤ reachBytes) = true := hsz
  obtain ⟨v0, v1, v2, d0, d1, d2, p0, p1, p2, rfl, rfl, rfl, h0, h1, h2⟩ := trodAll_three hA
  obtain ⟨rfl, rfl⟩ := trodVars_none hV
  have lt0 : ∀ x ∈ p0, x.block < W.heap.size := by obtain ⟨m, hm⟩ := h0; exact DataW.trod_lt m _ _ _ hm
  obtain ⟨A0, c0, L0, rfl, r0⟩ := N.open_gram h0 (hval 0 24 v0 rfl rfl) (T.sized_at hsz (j := 0) rfl rfl)
  obtain ⟨n1, rfl, rfl, rfl, wm1⟩ := open_int Try.underlying3 (hval 1 3 v1 rfl rfl) h1
  have sz2 := T.sized_at hsz (j := 2) rfl rfl
  obtain ⟨s2, rfl, rfl, rfl, hs2⟩ := open_string Try.underlying9 (hval 2 9 v2 rfl rfl) h2
  have hb2 : s2.size ≤ 140737488355328 := by
    have hr : reachBytes = 140737488351232 := by decide
    have h := sz2 s2.size (by simp only [DataW.weights, List.mem_singleton]; rw [Array.length_toList]; rfl)
    rw [hr] at h
    omega
  clear hA0 hval0
  refine (N.renamed_law L0 A0 c0 n1 s2 hb2 W r0).mono fun e W' ⟨he, bel⟩ => ?_
  subst he
  exact ⟨_, rfl, _, _, _, [], _, [], hW', trodAll_mk1 (shut_bool Try.underlying4 _), (trodAll_cons_mk (Below.trod T.laidOut (by kernel_rfl) (of_decide_eq_true (by kernel_rfl)) h0 bel lt0) (trodAll_cons_mk (shut_int Try.underlying3 wm1) (trodAll_cons_mk (shut_string Try.underlying9 hs2) trodAll_mk0))), rfl, bel.frame _, fun h => by cases h⟩

theorem rulesRenamed_holds : Rows.RulesRenamedSaid :=
  OpenClaim.holds_of_wide 3 Try.f3 rfl rfl rfl rfl rfl rfl rfl ⟨rfl, rfl, rfl, rfl, rfl⟩ rfl rfl rfl rfl rfl (by kernel_rfl) Try.func3 (by kernel_rfl)
    (of_decide_eq_true (by kernel_rfl)) (by unfold Func.isWrapper; first | (rw [if_pos (by decide +kernel)]; kernel_rfl) | (rw [if_neg (by decide +kernel)]; exact ⟨rfl, rfl⟩))
    (fun os started H enc _ => rulesRenamed_lifted os started H enc)
end Go.Proofs.Ytppggnmlbcdegab
