/- FordNames (10.4): of any grammar, any number and any name, where the document renames a rule so, the program gives the grammar renamed the same verdict; for grammars and names within the reach of the form. -/
import Derived.Test.YtbipjdgholdhcabGreatRows
import Derived.Test.YtbipjdgholdhcabGreatFs16
namespace Go.Proofs.YtbipjdgholdhcabGreat.N
open Go.RowKit Go.Maps
open Go.Proofs.YtbipjdgholdhcabGreat.T

open U (own_get own_slice below_grown)
theorem renameD_any (gs : GL) (A : Option Addr) (c : Nat) (r : Int) (s : ByteArray) (hs : s.size ≤ 140737488355328) (w : World) (hp : GI w A gs) :
    Calls Tryz.prog 5 #[.agg #[.slice A gs.length c], .int .i64 r, .string s] w fun e w' => RnA w w' e gs r s ∧ Below w.heap.size w w' := by
  by_cases h : rnE gs r s = 0
  · obtain ⟨n, rfl⟩ : ∃ n : Nat, r = (n : Int) := ⟨r.toNat, by have := (lkR_zero (rnE_zero h).1).2.1; omega⟩
    exact renameD_yes gs A c n s hs w hp h
  · exact renameD_no gs A c r s hs w hp h
/-- Where Rename answers, the grammar is right, and the name its own. -/
theorem re_of {gs : GL} {r : Int} {s : ByteArray} (h : rnE gs r s = 0) : ∃ (k : Nat) (a : ByteArray), ReO gs k a s ∧ rnG gs r s = reG gs k a s := by
  obtain ⟨h1, h2, h3⟩ := rnE_zero h
  obtain ⟨hR, h0, hl⟩ := lkR_zero h1
  obtain ⟨k, rfl⟩ : ∃ k : Nat, r = (k : Int) := ⟨r.toNat, by omega⟩
  have hk : k < gs.length := by omega
  obtain ⟨g0, hg⟩ : ∃ g0, gs[k]? = some g0 := ⟨_, List.getElem?_eq_getElem hk⟩
  refine ⟨k, g0.1, ⟨hR, ⟨g0, hg, rfl⟩, h2, fun j x hj hx => ?_⟩, ?_⟩
  · cases hf : fdG gs s with
    | none => exact absurd hx (fdG_none.1 hf x (List.mem_of_getElem? hj))
    | some i =>
      rw [fdN_some hf] at h3
      have e : i = k := by omega
      subst e
      obtain ⟨y, hy, hy2, _⟩ := fdG_some hf
      exact hR.dn.d j i x y hj hy (hx.trans hy2.symm)
  · unfold rnG
    rw [if_pos h, Int.toNat_natCast, hg]
    rfl
theorem re_sizes {gs : GL} {k : Nat} {a s : ByteArray} (hs : s.size ≤ 140737488355328) (h : ∀ g ∈ gs, g.1.size ≤ 140737488355328 ∧ g.2.length ≤ 140737488355328 ∧ ∀ n ∈ g.2, n.tx.size ≤ 140737488355328) : ∀ g ∈ reG gs k a s, g.1.size ≤ 140737488355328 ∧ g.2.length ≤ 140737488355328 ∧ ∀ n ∈ g.2, n.tx.size ≤ 140737488355328 := fun x hx => by
  obtain ⟨j, hj⟩ := List.getElem?_of_mem hx
  rw [reG_get] at hj
  cases e : gs[j]? with
  | none => rw [e] at hj; cases hj
  | some g =>
    rw [e] at hj
    obtain ⟨h1, h2, h3⟩ := h g (List.mem_of_getElem? e)
    have hj : (if j = k then s else g.1, g.2.map (reN a s)) = x := Option.some.inj hj
    subst hj
    refine ⟨?_, ?_, fun n hn => ?_⟩
    · show (if j = k then s else g.1).size ≤ _
      split
      · exact hs
      · exact h1
    · show (g.2.map (reN a s)).length ≤ _
      rw [List.length_map]
      exact h2
    · obtain ⟨m, hm, rfl⟩ := List.mem_map.1 hn
      unfold reN
      split
      · exact hs
      · exact h3 m hm
/-- While a verdict and a renamed grammar are held. -/
structure NrS (w wr : World) (kh B2 : Nat) (a u : Value) (ov : List Rg) : Prop where
  b : Below w.heap.size w wr
  x : GX wr w.heap.size a
  y : GX wr kh u
  o : OG wr B2 u ov
theorem NrS.later {w wr W' : World} {kh B2 : Nat} {a u : Value} {ov : List Rg} (h : NrS w wr kh B2 a u ov) (hb : Below wr.heap.size wr W') : NrS w W' kh B2 a u ov :=
  ⟨h.b.trans (hb.mono h.b.size), h.x.below hb, h.y.below hb, h.o.later hb⟩

set_option maxRecDepth 100000 in
set_option maxHeartbeats 32000000 in
theorem names_law (gs : GL) (r : Int) (nm : ByteArray) (hnm : nm.size ≤ 140737488355328) (A : Option Addr) (c : Nat) (w : World) (hg : GrIn w A c gs) : Calls Tryz.prog 3 #[.agg #[.slice A gs.length c], .int .i64 r, .string nm] w fun e w' => e = .returned (.bool true) ∧ Below w.heap.size w w' := by
  obtain ⟨w0, hw0⟩ : ∃ w0, w0 = w.alloc (.cells #[.slice A gs.length c] 24) := ⟨_, rfl⟩
  have HB0 := (show Hid (Below w.heap.size w w0) from by rw [hw0]; exact below_box w _)
  have HX0 := (show Hid (GX w0 w.heap.size (.slice A gs.length c)) from by rw [hw0]; exact GX.mk (heap_alloc_new w _))
  have HE0 := (show Hid (w.alloc (.cells #[.slice A gs.length c] 24) = w0) from hw0.symm)
  have HP := (show Hid (GI w A gs) from hg.gi)
  have HNM := (show Hid (nm.size ≤ 140737488355328) from hnm)
  have HWk := (show Hid (∀ W, Calls Tryz.prog 6 #[] W fun e w' => e = .returned (.bool true) ∧ Below W.heap.size W w') from lives_any)
  have HA : Hid (∀ (ks : GL) (w' : World) (Ap : Option Addr) (cp : Nat), GI w' Ap ks → Calls Tryz.prog 7 #[.agg #[.slice Ap ks.length cp]] w' fun e w'' => (∃ (A1 : Option Addr) (c1 : Nat) (l : List Nat) (p q : Nat) (cd : Int), e = .returned (.tuple #[.agg #[.slice A1 l.length c1, .int .i64 (p : Int), .int .i64 (q : Int)], .int .i64 cd]) ∧ VdR ks l p q cd ∧ w''.ownsRow w'.heap.size 3 1 (.slice A1 l.length c1) l.length (l.map U.nI)) ∧ Below w'.heap.size w' w'') := fun ks w' Ap cp h => by
    refine (fcheck_any ks Ap cp w' h).mono ?_
    rintro e w'' ⟨⟨v, l, p, q, cd, rfl, hr, ho⟩, b⟩
    obtain ⟨A1, c1, rfl⟩ := own_slice ho
    exact ⟨⟨A1, c1, l, p, q, cd, rfl, hr, ho⟩, b⟩
  have HRn := (show Hid (∀ _ : Unit, Calls Tryz.prog 5 #[.agg #[.slice A gs.length c], .int .i64 r, .string nm] w0 fun e w' => RnA w0 w' e gs r nm ∧ Below w0.heap.size w0 w') from fun _ => renameD_any gs A c r nm hnm w0 (HP.out.later HB0.out))
  have x0 := HX0.out.cl
  clear hg hw0 hnm
  go_enter Tryz.func3, Tryz.ntmps3
  go_wp2_with (rw [HE0.out])
  refine (HRn.out ()).mono ?_
  rintro e w1 ⟨⟨v, ov, rfl, hm, hog⟩, b1⟩
  obtain ⟨w2, hw2⟩ : ∃ w2, w2 = w1.alloc (.cells #[v] 24) := ⟨_, rfl⟩
  have HE2 := (show Hid (w1.alloc (.cells #[v] 24) = w2) from hw2.symm)
  have hb2 : Below w1.heap.size w1 w2 := by rw [hw2]; exact below_box _ _
  have HS2 := (show Hid (NrS w w2 w1.heap.size w0.heap.size (.slice A gs.length c) v ov ∧ ov.map (·.1) = rnG gs r nm) from by
    have h1 := b1.trans (hb2.mono b1.size)
    exact ⟨⟨HB0.out.trans (h1.mono HB0.out.size), HX0.out.below h1, by rw [hw2]; exact GX.mk (heap_alloc_new w1 _), hog.later hb2⟩, hm⟩)
  have x2 := HS2.out.1.x.cl
  clear hm hog b1 hb2 hw2 x0 HE0 HX0 HB0 HRn
  by_cases h0 : rnE gs r nm = 0
  · obtain ⟨k, a, hre, hrg⟩ := re_of h0
    have tz : (rnE gs r nm != 0) = false := by rw [h0]; rfl
    have HO := (show Hid (ReO gs k a nm) from hre)
    have hlen : (reG gs k a nm).length = gs.length := reG_len
    have hov : ov.length = gs.length := by rw [← hlen, ← hrg, ← HS2.out.2, List.length_map]
    obtain ⟨Av, cv, rfl⟩ := own_sl HS2.out.1.o.o
    rw [hov] at HS2 HE2
    have HGI := (show Hid (GI w2 Av (reG gs k a nm)) from by
      obtain ⟨A9, c9, e9, h9⟩ := HS2.out.1.o.rd (HS2.out.2.trans hrg)
      have e9 : A9 = Av := by injection e9 with e1; exact e1.symm
      subst e9
      exact ⟨h9, by rw [hlen]; exact HP.out.l, re_sizes HNM.out HP.out.t⟩)
    have HCf := (show Hid (∀ W, Below w2.heap.size w2 W → Calls Tryz.prog 7 #[.agg #[.slice Av gs.length cv]] W fun e w' => (∃ (A1 : Option Addr) (c1 : Nat) (l : List Nat) (p q : Nat) (cd : Int), e = .returned (.tuple #[.agg #[.slice A1 l.length c1, .int .i64 (p : Int), .int .i64 (q : Int)], .int .i64 cd]) ∧ VdR (reG gs k a nm) l p q cd ∧ w'.ownsRow W.heap.size 3 1 (.slice A1 l.length c1) l.length (l.map U.nI)) ∧ Below W.heap.size W w') from fun W hW => by
      have h := HA.out (reG gs k a nm) W Av cv (HGI.out.later hW)
      rw [hlen] at h
      exact h)
    have HCg := (show Hid (∀ W, Below w2.heap.size w2 W → Calls Tryz.prog 7 #[.agg #[.slice A gs.length c]] W fun e w' => (∃ (A1 : Option Addr) (c1 : Nat) (l : List Nat) (p q : Nat) (cd : Int), e = .returned (.tuple #[.agg #[.slice A1 l.length c1, .int .i64 (p : Int), .int .i64 (q : Int)], .int .i64 cd]) ∧ VdR gs l p q cd ∧ w'.ownsRow W.heap.size 3 1 (.slice A1 l.length c1) l.length (l.map U.nI)) ∧ Below W.heap.size W w') from fun W hW => HA.out gs W A c (HP.out.later (HS2.out.1.b.trans (hW.mono HS2.out.1.b.size))))
    have hov2 := hov
    clear hre hrg hlen hov HA HGI h0
    generalize w0.heap.size = B0 at *
    go_wp2_with (rw [HE2.out])
    generalize w1.heap.size = kh at *
    refine (HCg.out w2 (Below.refl _ _)).mono ?_
    rintro e w3 ⟨⟨A1, c1, l, p, q, cd, rfl, hv1, ho1⟩, b3⟩
    obtain ⟨w4, hw4⟩ : ∃ w4, w4 = w3.alloc (.cells #[.slice A1 l.length c1, .int .i64 (p : Int), .int .i64 (q : Int)] 33) := ⟨_, rfl⟩
    have HE4 := (show Hid (w3.alloc (.cells #[.slice A1 l.length c1, .int .i64 (p : Int), .int .i64 (q : Int)] 33) = w4) from hw4.symm)
    have hb4 : Below w3.heap.size w3 w4 := by rw [hw4]; exact below_box _ _
    have HB4 := (show Hid (Below w2.heap.size w2 w4) from b3.trans (hb4.mono b3.size))
    have HD4 := (show Hid (DX w4 w3.heap.size (.slice A1 l.length c1) (p : Int) (q : Int) ∧ w4.ownsRow w2.heap.size 3 1 (.slice A1 l.length c1) l.length (l.map U.nI)) from ⟨by rw [hw4]; exact DX.new w3 _ _ _, own_below ho1 hb4⟩)
    have HV1 := (show Hid (VdR gs l p q cd) from hv1)
    have HS4 := (show Hid (NrS w w4 kh B0 (.slice A gs.length c) (.slice Av gs.length cv) ov) from HS2.out.1.later HB4.out)
    have y4 := HS4.out.y.cl
    clear hv1 ho1 b3 hb4 hw4 HE2 HCg x2
    go_wp2_with (rw [HE4.out])
    generalize w3.heap.size = k3 at *
    refine (HCf.out w4 HB4.out).mono ?_
    rintro e w5 ⟨⟨A2, c2, l2, p2, q2, cd2, rfl, hv2, ho2⟩, b5⟩
    obtain ⟨w6, hw6⟩ : ∃ w6, w6 = w5.alloc (.cells #[.slice A2 l2.length c2, .int .i64 (p2 : Int), .int .i64 (q2 : Int)] 33) := ⟨_, rfl⟩
    have HE6 := (show Hid (w5.alloc (.cells #[.slice A2 l2.length c2, .int .i64 (p2 : Int), .int .i64 (q2 : Int)] 33) = w6) from hw6.symm)
    have hb6 : Below w5.heap.size w5 w6 := by rw [hw6]; exact below_box _ _
    obtain ⟨rfl, rfl, rfl, rfl⟩ := HO.out.vd HV1.out hv2
    have HD6 := (show Hid (Below w.heap.size w w6 ∧ DX w6 k3 (.slice A1 l2.length c1) (p2 : Int) (q2 : Int) ∧ w6.ownsRow w2.heap.size 3 1 (.slice A1 l2.length c1) l2.length (l2.map U.nI) ∧ DX w6 w5.heap.size (.slice A2 l2.length c2) (p2 : Int) (q2 : Int) ∧ w6.ownsRow w4.heap.size 3 1 (.slice A2 l2.length c2) l2.length (l2.map U.nI)) from by
      have h1 := b5.trans (hb6.mono b5.size)
      exact ⟨HS4.out.b.trans (h1.mono HS4.out.b.size), HD4.out.1.below h1, own_below HD4.out.2 h1, by rw [hw6]; exact DX.new w5 _ _ _, own_below ho2 hb6⟩)
    have HLl := (show Hid (l2.length ≤ 1000000) from by
      obtain ⟨_, _, h⟩ := vd_doc HV1.out
      exact Nat.le_trans (vd_len h) (by omega))
    have d0 := HD6.out.2.1.c0
    have d1 := HD6.out.2.1.c1
    have d2 := HD6.out.2.1.c2
    have e0 := HD6.out.2.2.2.1.c0
    have e1 := HD6.out.2.2.2.1.c1
    have e2 := HD6.out.2.2.2.1.c2
    have hse := sp_eq p2 q2
    have t1 : (cd2 == cd2) = true := by rw [beq_iff_eq]
    have HSa := (show Hid (∀ _ : Unit, Calls Tryz.prog 8 #[.slice A1 l2.length c1, .slice A2 l2.length c2] w6 fun e w' => e = .returned (.bool true) ∧ Below w6.heap.size w6 w') from fun _ => SameInts_any l2 HLl.out w6 HD6.out.2.2.1 HD6.out.2.2.2.2)
    clear hv2 ho2 b5 hb6 hw6 HE4 HCf HS4 HD4 HB4 HV1 HO HS2 y4
    go_wp2_with (rw [HE6.out])
    refine (HSa.out ()).mono ?_
    rintro e w7 ⟨rfl, b7⟩
    have HB7 := (show Hid (Below w.heap.size w w7) from HD6.out.1.trans (b7.mono HD6.out.1.size))
    clear b7 HE6 HSa HD6 d0 d1 d2 e0 e1 e2 hse
    go_wp2_with fail
    refine (HWk.out _).mono ?_
    rintro e w8 ⟨rfl, b8⟩
    have HF := (show Hid (Below w.heap.size w w8) from HB7.out.trans (b8.mono HB7.out.size))
    clear b8 HB7
    go_wp2_with fail
    go_ret
    exact ⟨rfl, HF.out⟩
  · have tz : (rnE gs r nm != 0) = true := by rw [bne_iff_ne]; exact h0
    have HB := (show Hid (Below w.heap.size w w2) from HS2.out.1.b)
    obtain ⟨Av, cv, rfl⟩ := own_sl HS2.out.1.o.o
    clear HS2 HA h0
    go_wp2_with (rw [HE2.out])
    refine (HWk.out _).mono ?_
    rintro e w8 ⟨rfl, b8⟩
    have HF := (show Hid (Below w.heap.size w w8) from HB.out.trans (b8.mono HB.out.size))
    clear b8 HB
    go_wp2_with fail
    go_ret
    exact ⟨rfl, HF.out⟩
end Go.Proofs.YtbipjdgholdhcabGreat.N

namespace Go.Proofs.YtbipjdgholdhcabGreat
open Go.ChangeShapes Go.WideShapes Go.ChangeAt Go.RowKit
open Go.ChangeMaps (open_string shut_string)
set_option maxRecDepth 100000 in
theorem fordNames_lifted (os : Os) (started : os.Started) (H : Type) (enc : TypeId × Value → H) :
    ReturnsInHanded {} Tryz.checked os 3 .any (Rows.fordNamesSpec.pre6 enc Tryz.prog Tryz.f3 Rows.fordNamesRow.domain false) (Rows.fordNamesSpec.post enc Tryz.prog Tryz.f3 false true false false) := by
  refine returnsInHanded_of_change_sized (C := Tryz.checked) T.own started (by kernel_rfl) Tryz.func3
    (ChangeSpec.witness6 (enc := enc) (C := Tryz.checked) false ⟨#[], #[.agg #[.slice none 0 0], .int .i64 0, .string ByteArray.empty], []⟩ 8 (by kernel_rfl) (by kernel_rfl) (by kernel_rfl) (by kernel_rfl)) ?_
  intro W base args ds gs before hval0 hW hcnd hsz _
  have hval : ∀ (j : Nat) t v, Tryz.f3.params[j]? = some t → args[j]? = some v → Value.okWide Tryz.prog W .any base t v := hval0
  have hW' := hW
  obtain ⟨p, q, hA0, hV, rfl, hfz, hnd⟩ := hW
  have hA : DataW.TrodAll enc Tryz.prog W 0 (fun _ => true) true Tryz.f3.params.toList args.toList ds p := hA0
  rw [Tryz.params3] at hA hval
  have hsz : (DataW.weightsEach Tryz.prog (#[24, 3, 9].toList ++ Rows.fordNamesSpec.plain.varTypes Tryz.prog) (ds ++ gs)).all (· ≤ reachBytes) = true := hsz
  obtain ⟨v0, v1, v2, d0, d1, d2, p0, p1, p2, rfl, rfl, rfl, h0, h1, h2⟩ := trodAll_three hA
  obtain ⟨rfl, rfl⟩ := trodVars_none hV
  have lt0 : ∀ x ∈ p0, x.block < W.heap.size := by obtain ⟨m, hm⟩ := h0; exact DataW.trod_lt m _ _ _ hm
  obtain ⟨A0, c0, L0, rfl, r0⟩ := N.open_gram h0 (hval 0 24 v0 rfl rfl) (T.sized_at hsz (j := 0) rfl rfl)
  obtain ⟨n1, rfl, rfl, rfl, wm1⟩ := open_int Tryz.underlying3 (hval 1 3 v1 rfl rfl) h1
  have sz2 := T.sized_at hsz (j := 2) rfl rfl
  obtain ⟨s2, rfl, rfl, rfl, hs2⟩ := open_string Tryz.underlying9 (hval 2 9 v2 rfl rfl) h2
  have hb2 : s2.size ≤ 140737488355328 := by
    have hr : reachBytes = 140737488351232 := by decide
    have h := sz2 s2.size (by simp only [DataW.weights, List.mem_singleton]; rw [Array.length_toList]; rfl)
    rw [hr] at h
    omega
  clear hA0 hval0
  refine (N.names_law L0 n1 s2 hb2 A0 c0 W r0).mono fun e W' ⟨he, bel⟩ => ?_
  subst he
  exact ⟨_, rfl, _, _, _, [], _, [], hW', trodAll_mk1 (shut_bool Tryz.underlying4 _), (trodAll_cons_mk (Below.trod T.laidOut (by kernel_rfl) (of_decide_eq_true (by kernel_rfl)) h0 bel lt0) (trodAll_cons_mk (shut_int Tryz.underlying3 wm1) (trodAll_cons_mk (shut_string Tryz.underlying9 hs2) trodAll_mk0))), rfl, bel.frame _, fun h => by cases h⟩

theorem fordNames_holds : Rows.FordNamesSaid :=
  OpenClaim.holds_of_wide 3 Tryz.f3 rfl rfl rfl rfl rfl rfl rfl ⟨rfl, rfl, rfl, rfl, rfl⟩ rfl rfl rfl rfl rfl (by kernel_rfl) Tryz.func3 (by kernel_rfl)
    (of_decide_eq_true (by kernel_rfl)) (by unfold Func.isWrapper; first | (rw [if_pos (by decide +kernel)]; kernel_rfl) | (rw [if_neg (by decide +kernel)]; exact ⟨rfl, rfl⟩))
    (fun os started H enc _ => fordNames_lifted os started H enc)
end Go.Proofs.YtbipjdgholdhcabGreat
