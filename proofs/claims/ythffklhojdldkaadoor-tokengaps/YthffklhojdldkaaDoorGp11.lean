/- The law TokenGaps of layer 5 holds at every text and every list of numbers: more blanks and comments between the tokens leave them alike; the program's table of signs lies as its text lays it. -/
import Derived.ChangeSlices
import Derived.Test.YthffklhojdldkaaDoorGp10
namespace Go.Proofs.YthffklhojdldkaaDoor
open Go.RowKit
set_option maxRecDepth 100000 in
set_option maxHeartbeats 16000000 in
theorem gaps_ok1 (s : ByteArray) (l : List Tk) (A : Option Addr) (c : Nat) (ks : List Int) (hks : ks ≠ []) (h : lexR (oneP s) s = .inl l) (h400 : l.length ≤ 400) (h8000 : s.size ≤ 8000) (w : World) (hg : SG w) (hk : RdK w A ks) :
    Calls Tryd.prog 5 #[.string s, .slice A ks.length c] w fun e w' => e = .returned (.bool true) ∧ Below w.heap.size w w' := by
  obtain ⟨i0, hinf, hz0, hz1, hz2⟩ := info_parts Tryd.info5
  obtain ⟨hs, hch⟩ := lex_chn h
  have HWk : Hid (∀ w, SG w → Calls Tryd.prog 10 #[] w fun e w' => e = .returned (.bool true) ∧ Below w.heap.size w w') := fun w g => works_any w g
  have HG := (show Hid (SG w) from hg)
  have HL : Hid (∀ w, SG w → Calls Tryd.prog 7 #[.string s] w fun e' w' => (∃ v, e' = .returned (.tuple #[v, .agg #[.int .i64 0, .int .i64 0]]) ∧ w'.ownsRow w.heap.size 36 9 v l.length (tkc l)) ∧ Below w.heap.size w w') := fun w g => by
    have h1 := lexP_any s w g
    rw [h] at h1
    exact h1
  have e1 := eq26 0 0 0 0
  have HC := (show Hid (Chn s 0 l) from hch)
  have q1 : ¬ (400 : Int) < (l.length : Int) := by omega
  have q2 : ¬ (8000 : Int) < (s.size : Int) := by omega
  obtain ⟨gk, ofk, rfl, gklt, hkc⟩ := hk.rd hks
  have HKc := (show Hid (∀ wx, Below w.heap.size w wx → gk < wx.heap.size ∧ ∀ (k : Nat) x, ks[k]? = some x → wx.cell? ⟨gk, ofk + k, none⟩ = some (.int .i64 x)) from fun wx bx => ⟨Nat.lt_of_lt_of_le gklt bx.size, fun k x hx => (bx.cell (p := ⟨gk, ofk + k, none⟩) gklt).trans (hkc k x hx)⟩)
  have hkl : 0 < ks.length := List.length_pos_iff.2 hks
  clear hkc gklt
  have HK0 := (show Hid (gpB s (kfN ks) l 0 0 = [] ++ gpB s (kfN ks) (l.drop 0) 0 0) from rfl)
  clear hg h hch hk
  go_enter Tryd.func5, Tryd.ntmps5
  go_wp2_with fail
  refine (HWk.out _ HG.out).mono ?_
  rintro e w1 ⟨rfl, b1⟩
  have HG1 := (show Hid (SG w1) from HG.out.later b1)
  have HB1 := (show Hid (Below w.heap.size w w1) from b1)
  clear b1 HWk
  go_wp2_with fail
  refine (HL.out _ HG1.out).mono ?_
  rintro e w2 ⟨⟨v, rfl, ho⟩, b2⟩
  obtain ⟨A1, cp, rfl, hr⟩ := own_rdt ho rfl
  have HB2 := (show Hid (AtGp w (w2.alloc (fxO 0 0)) (w2.alloc (fxO 0 0)) (.slice none 0 0) []) from ⟨(HB1.out.trans (b2.mono HB1.out.size)).alloc (Nat.le_trans HB1.out.size b2.size) _, Below.refl _ _, World.ownsRow_nil _ _ _ _⟩)
  have HR2 := (show Hid (RdT (w2.alloc (fxO 0 0)) A1 l) from hr.later (below_box _ _))
  have HF2 := (show Hid (FX (w2.alloc (fxO 0 0)) w2.heap.size 0 0) from ⟨heap_alloc_new w2 _⟩)
  clear b2 HB1 HG1 HL ho hr
  go_wp2_with fail
  generalize w2.alloc (fxO 0 0) = wB at *
  have hwB : w.heap.size ≤ wB.heap.size := HB2.out.b.size
  go_loopw [7, 8, 35] (fun v a t wr => ∃ (k i : Nat) (out : List Int), k ≤ l.length ∧ i ≤ s.size ∧ out.length ≤ i + 15 * k ∧ t = .int .i64 k ∧ a = .int .i64 i ∧ Hid (AtGp w wB wr v out) ∧ Hid (Chn s i (l.drop k)) ∧ Hid (gpB s (kfN ks) l 0 0 = out ++ gpB s (kfN ks) (l.drop k) i k) ∧ Hid (0 < k → ∃ t', l[k - 1]? = some t' ∧ t'.en = i)) (fun _ _ t _ => l.length - (intOf t).toNat)
  case atStart => exact ⟨0, 0, [], by omega, by omega, by simp, by go_num, by go_num, HB2, HC, HK0, fun q => by omega⟩
  case round =>
    obtain ⟨k, i, out, hk, hi, hol, rfl, rfl, HW, HD, HP, HV⟩ := hrel
    clear HB2 HK0
    by_cases hlt : k < l.length
    · obtain ⟨t, ht⟩ : ∃ t, l[k]? = some t := ⟨_, List.getElem?_eq_getElem hlt⟩
      have hdr : l.drop k = t :: l.drop (k + 1) := by
        obtain ⟨h1, h2⟩ := List.getElem?_eq_some_iff.1 ht
        rw [List.drop_eq_getElem_cons h1, h2]
      rw [hdr] at HD HP
      obtain ⟨d1, d2, en, d3, d4, d5, d6⟩ := HD.out
      have d7 := oneP_fr d2
      have hge := gapN_ge s i hi
      generalize gapN s i = b0 at *
      have HD2 := (show Hid (Chn s en (l.drop (k + 1))) from d6)
      have HP2 : Hid (gpB s (kfN ks) l 0 0 = out ++ (Q.byl (s.extract i b0) ++ ((if insB k i b0 (kfN ks k) = true then gapL (gpI (kfN ks k)) else []) ++ (Q.byl (s.extract b0 en) ++ gpB s (kfN ks) (l.drop (k + 1)) en (k + 1))))) := by
        show _ = _
        rw [HP.out, gpB, d7, d3, Int.toNat_natCast, Int.toNat_natCast]
      have HV2 := (show Hid (0 < k + 1 → ∃ t', l[k + 1 - 1]? = some t' ∧ t'.en = en) from fun _ => ⟨t, by rw [Nat.add_sub_cancel]; exact ht, d3⟩)
      obtain ⟨g, rfl, glt, hc⟩ := (HR2.out.later HW.out.c).rd (by rintro rfl; simp at ht)
      obtain ⟨a0, a1, a2, a3, a4, a5, a6, a7, a8⟩ := hc k t ht
      have HPr := (show Hid (∀ wx, Below wB.heap.size wB wx → 0 < k → wx.cell? ⟨g, (k - 1) * 9 + 3, none⟩ = some (.int .i64 i)) from fun wx bx h0 => by
        obtain ⟨t', x1, x2⟩ := HV.out h0
        obtain ⟨g', e', _, hc'⟩ := (HR2.out.later bx).rd (by rintro rfl; simp at x1)
        cases e'
        have := (hc' (k - 1) t' x1).c3
        rw [x2] at this
        exact this)
      obtain ⟨kd, nn, tf, te, tx, s0, s1, s2, s3⟩ := t
      dsimp only at d3 d7 a0 a1 a2 a3 a4 a5 a6 a7 a8
      subst d3 d7
      have z0 : (0 : Int) ≤ (k : Int) := by omega
      have z1 : (k : Int) < (l.length : Int) := by omega
      have y0 : ¬ (b0 : Int) < (i : Int) := by omega
      have y1 : ¬ (en : Int) < (b0 : Int) := by omega
      have y2 : ¬ (s.size : Int) < (en : Int) := by omega
      have y3 : (0 : Int) ≤ (i : Int) := by omega
      have y4 : (i : Int) ≤ (b0 : Int) := by omega
      have y5 : (b0 : Int) ≤ (s.size : Int) := by omega
      have y6 : (0 : Int) ≤ (b0 : Int) := by omega
      have y7 : (b0 : Int) ≤ (en : Int) := by omega
      have y8 : (en : Int) ≤ (s.size : Int) := by omega
      have hx1 : (s.extract i b0).size ≤ 8000 := by rw [ByteArray.size_extract]; omega
      have hx2 : (s.extract b0 en).size ≤ 8000 := by rw [ByteArray.size_extract]; omega
      have Hx := (show Hid ((s.extract i b0).size = b0 - i ∧ (s.extract b0 en).size = en - b0) from ⟨by rw [ByteArray.size_extract]; omega, by rw [ByteArray.size_extract]; omega⟩)
      have HX := (show Hid (AtGp w wB (wr.alloc (tkO ⟨kd, nn, b0, en, tx, s0, s1, s2, s3⟩)) u7 out ∧ TX (wr.alloc (tkO ⟨kd, nn, b0, en, tx, s0, s1, s2, s3⟩)) wr.heap.size ⟨kd, nn, b0, en, tx, s0, s1, s2, s3⟩) from ⟨HW.out.step (below_box _ _), TX.new wr _⟩)
      have hsB : wB.heap.size ≤ wr.heap.size + 1 := by have := HX.out.1.c.size; rwa [World.size_alloc] at this
      have HKm := (show Hid (gk < wr.heap.size ∧ ∀ (k : Nat) x, ks[k]? = some x → wr.cell? ⟨gk, ofk + k, none⟩ = some (.int .i64 x)) from HKc.out wr HW.out.b)
      clear HC HD HP HV d1 d2 d4 d6 hdr ht hc HW
      have hkm : k % ks.length < ks.length := Nat.mod_lt _ hkl
      obtain ⟨kx, hkx⟩ : ∃ x, ks[k % ks.length]? = some x := ⟨_, List.getElem?_eq_getElem hkm⟩
      have HKe := (show Hid (kfN ks k = kx) from by show _ = _; unfold kfN; rw [if_neg hks, hkx]; rfl)
      have m0 := HKm.out.2 _ kx hkx
      have gkl := HKm.out.1
      have m5 : (k : Int) % (ks.length : Int) = ((k % ks.length : Nat) : Int) := rfl
      have m1 : IntKind.i64.wrap ((k : Int).tmod (ks.length : Int)) = ((k % ks.length : Nat) : Int) := by
        have := Nat.mod_le k ks.length
        rw [Int.tmod_eq_emod_of_nonneg (by omega), m5, IntKind.wrap_i64]; omega
      generalize k % ks.length = km at *
      have m2 : (0 : Int) ≤ (km : Int) := by omega
      have m3 : (km : Int) < (ks.length : Int) := by omega
      have m4 : (0 : Int) < (ks.length : Int) := by omega
      have m6 : ((ks.length : Int) == 0) = false := by rw [beq_eq_false_iff_ne]; omega
      clear hkx HKm HKc
      go_wp2_with (at_builtin; refine Lib.wpList_append_own_string _ rfl _ _ 39 9 rfl wB.heap.size 5 i0 Tryd.underlying39 Tryd.underlying9 hinf hz0 hz1 hz2 _ _ _ rfl HX.out.1.o (s.extract i b0) rfl ?d3 ?d4 ?d5 ?_)
      case d3 => unfold maxLen; first | omega | (simp; omega)
      case d4 => first | omega | (simp; omega)
      intro v2 w5 hown2 hgrow2 hxx
      clear hxx
      have HX2 := (show Hid (AtGp w wB w5 v2 (out ++ Q.byl (s.extract i b0)) ∧ TX w5 wr.heap.size ⟨kd, nn, b0, en, tx, s0, s1, s2, s3⟩) from ⟨HX.out.1.grow hwB (x := s.extract i b0) (by rw [ByteArray.size_extract]; exact hown2) hgrow2, tx_grown HX.out.2 HX.out.1.o hgrow2⟩)
      clear hown2 hgrow2 HX a0 a1 a2 a3 a4 a5 a6 a7 a8
      obtain ⟨c0, c1, c2, c3, c4, c5, c6, c7, c8⟩ := HX2.out.2.cells
      dsimp only at c0 c1 c2 c3 c4 c5 c6 c7 c8
      go_wp2_with fail
      have hcp := HPr.out w5 HX2.out.1.c
      by_cases hk0 : k = 0
      · have v0 : decide (0 < k) = false := decide_eq_false (by omega)
        have v0' : decide ((0 : Int) < (k : Int)) = false := decide_eq_false (by omega)
        have HIn := (show Hid (insB k i b0 (kfN ks k) = true) from by unfold insB; rw [hk0]; rfl)
        clear hk0 hcp HPr
        go_quiet (fail)
        have HX6 := (show Hid (AtGp w wB (w5.drewN nq) v2 (out ++ Q.byl (s.extract i b0)) ∧ TX (w5.drewN nq) wr.heap.size ⟨kd, nn, b0, en, tx, s0, s1, s2, s3⟩) from ⟨HX2.out.1.step (below_drewN (Below.refl _ _) _), HX2.out.2.below (below_drewN (Below.refl _ _) _)⟩)
        generalize w5.drewN nq = w6 at *
        clear HX2 c0 c1 c2 c3 c4 c5 c6 c7 c8
        have HGp : Hid (∀ w, Calls Tryd.prog 13 #[.int .i64 kx] w fun e w' => e = .returned (.string (gpT (gpI kx))) ∧ Below w.heap.size w w') := fun w => gapT_any _ w
        have hgl : (gpT (gpI kx)).size ≤ 15 := gpT_len _
        have HX7 := (show Hid (AtGp w wB w6.drew v2 (out ++ Q.byl (s.extract i b0)) ∧ TX w6.drew wr.heap.size ⟨kd, nn, b0, en, tx, s0, s1, s2, s3⟩) from ⟨HX6.out.1.step (Below.refl _ _).drew, HX6.out.2.below (Below.refl _ _).drew⟩)
        have HGe := (show Hid (gapL (gpI (kfN ks (k))) = Q.byl (gpT (gpI kx))) from by show _ = _; rw [HKe.out])
        generalize gpT (gpI kx) = GT at *
        have hq1 : (out ++ Q.byl (s.extract i b0)).length ≤ 30000 := by rw [List.length_append, Q.byl_len]; omega
        have hq2 : (out ++ Q.byl (s.extract i b0) ++ Q.byl GT).length ≤ 30100 := by rw [List.length_append, Q.byl_len]; omega
        have HQ3 := (show Hid ((out ++ Q.byl (s.extract i b0) ++ Q.byl GT ++ Q.byl (s.extract b0 en)).length ≤ en + 15 * (k + 1)) from by show _ ≤ _; rw [List.length_append, List.length_append, List.length_append, Q.byl_len, Q.byl_len, Q.byl_len, Hx.out.1, Hx.out.2]; omega)
        have HP3 := (show Hid (gpB s (kfN ks) l 0 0 = out ++ Q.byl (s.extract i b0) ++ Q.byl GT ++ Q.byl (s.extract b0 en) ++ gpB s (kfN ks) (l.drop (k + 1)) en (k + 1)) from by show _ = _; rw [HP2.out, if_pos HIn.out, HGe.out]; simp only [List.append_assoc])
        clear HP2 HIn HGe HKe
        have c2 := HX7.out.2.cells.c2
        have c3 := HX7.out.2.cells.c3
        have e2 := HX6.out.2.cells.c2
        have e3 := HX6.out.2.cells.c3
        dsimp only at c2 c3 e2 e3
        go_wp2_with fail
        go_region_law (first
          | (refine step_call1 enters13 (by rfl) _ _ (by rfl) (.int .i64 kx) (by rfl) ?_; with_reducible refine (HGp.out _).mono ?_; rintro e wA ⟨rfl, bA⟩; refine ⟨_, rfl, ?_⟩; have HXA := hid_of (And.intro (HX7.out.1.step bA) (HX7.out.2.below bA)); have g2 := HXA.out.2.cells.c2; have g3 := HXA.out.2.cells.c3; dsimp only at g2 g3; have hsA := HXA.out.1.c.size)
          | (refine step_append_str (by rfl) _ _ 39 9 (by rfl) wB.heap.size 5 i0 Tryd.underlying39 Tryd.underlying9 hinf hz0 hz1 hz2 _ _ _ (by rfl) HXB.out.1.o (s.extract b0 en) (by rfl) (by unfold maxLen; omega) (by omega) hsBB ?_; intro v4 w8 hown4 hgrow4; have HXC := hid_of (And.intro (HXB.out.1.grow hwB (x := s.extract b0 en) hown4 hgrow4) (tx_grown HXB.out.2 HXB.out.1.o hgrow4)); have k3 := HXC.out.2.cells.c3; dsimp only at k3)
          | (refine step_append_str (by rfl) _ _ 39 9 (by rfl) wB.heap.size 5 i0 Tryd.underlying39 Tryd.underlying9 hinf hz0 hz1 hz2 _ _ _ (by rfl) HXA.out.1.o GT (by rfl) (by unfold maxLen; omega) (by omega) hsA ?_; intro v3 w7 hown3 hgrow3; have HXB := hid_of (And.intro (HXA.out.1.grow hwB (x := GT) hown3 hgrow3) (tx_grown HXA.out.2 HXA.out.1.o hgrow3)); have i2 := HXB.out.2.cells.c2; have i3 := HXB.out.2.cells.c3; dsimp only at i2 i3; have hsBB := HXB.out.1.c.size))
        all_goals (try clear c2 c3 e2 e3 g2 g3 i2 i3 hown3 hgrow3 hown4 hgrow4 HXA HXB HX7 HX6 HGp bA hq1 hq2)
        all_goals (try go_wp2_with fail)
        all_goals (refine ⟨⟨k + 1, en, _, by omega, by omega, HQ3.out, by go_num, by go_num, HXC.out.1, HD2.out, HP3.out, HV2.out⟩, ?_⟩; simp [intOf]; omega)
      · have v0 : (0 : Int) < (k : Int) := by omega
        have hcp := hcp (by omega)
        obtain ⟨k1, rfl⟩ : ∃ j, k = j + 1 := ⟨k - 1, by omega⟩
        rw [Nat.add_sub_cancel] at hcp
        have u1 : IntKind.i64.wrap (((k1 + 1 : Nat) : Int) - 1) = (k1 : Int) := by rw [IntKind.wrap_i64]; omega
        have u2 : IntKind.i64.wrap ((k1 : Int) + 1 - 1) = (k1 : Int) := by rw [IntKind.wrap_i64]; omega
        have z2 : (0 : Int) ≤ (k1 : Int) := by omega
        have z3 : (k1 : Int) < (l.length : Int) := by omega
        by_cases hib : i = b0
        · have v1 : ((i : Int) == (b0 : Int)) = true := by rw [hib]; exact beq_self_eq_true _
          by_cases hev : (kx).tmod 2 = 0
          · have v3 : ((kx).tmod 2 == 0) = true := by rw [hev]; rfl
            have v4 : (IntKind.i64.wrap (kx.tmod 2) == 0) = true := by rw [tm2]; exact v3
            have HIn := (show Hid (¬ insB (k1 + 1) i b0 (kfN ks (k1 + 1)) = true) from by show ¬ _; unfold insB; rw [HKe.out, v3, decide_eq_true hib]; simp)
            clear hib HPr hev
            go_quiet (fail)
            clear hcp u1 u2 z2 z3
            have HX6 := (show Hid (AtGp w wB (w5.drewN nq) v2 (out ++ Q.byl (s.extract i b0)) ∧ TX (w5.drewN nq) wr.heap.size ⟨kd, nn, b0, en, tx, s0, s1, s2, s3⟩) from ⟨HX2.out.1.step (below_drewN (Below.refl _ _) _), HX2.out.2.below (below_drewN (Below.refl _ _) _)⟩)
            generalize w5.drewN nq = w6 at *
            clear HX2 c0 c1 c2 c3 c4 c5 c6 c7 c8
            have hq1 : (out ++ Q.byl (s.extract i b0)).length ≤ 30000 := by rw [List.length_append, Q.byl_len]; omega
            have hq1' : out.length + (Q.byl (s.extract i b0)).length ≤ 30000 := by rw [Q.byl_len]; omega
            have HQ3 := (show Hid ((out ++ Q.byl (s.extract i b0) ++ Q.byl (s.extract b0 en)).length ≤ en + 15 * (k1 + 1 + 1)) from by show _ ≤ _; rw [List.length_append, List.length_append, Q.byl_len, Q.byl_len, Hx.out.1, Hx.out.2]; omega)
            have HP3 := (show Hid (gpB s (kfN ks) l 0 0 = out ++ Q.byl (s.extract i b0) ++ Q.byl (s.extract b0 en) ++ gpB s (kfN ks) (l.drop (k1 + 1 + 1)) en (k1 + 1 + 1)) from by show _ = _; rw [HP2.out, if_neg HIn.out]; simp only [List.append_assoc, List.nil_append])
            clear HP2 HIn HKe
            have e2 := HX6.out.2.cells.c2
            have e3 := HX6.out.2.cells.c3
            dsimp only at e2 e3
            have hsA := HX6.out.1.c.size
            go_wp2_with (at_builtin; refine Lib.wpList_append_own_string _ rfl _ _ 39 9 rfl wB.heap.size 5 i0 Tryd.underlying39 Tryd.underlying9 hinf hz0 hz1 hz2 _ _ _ rfl HX6.out.1.o (s.extract b0 en) rfl ?p3 ?p4 ?p5 ?_)
            case p3 => unfold maxLen; first | omega | (simp; omega)
            case p4 => first | omega | (simp; omega)
            try (case p5 => exact hsA)
            intro v4 w8 hown4 hgrow4 hxx
            clear hxx
            have HXC := (show Hid (AtGp w wB w8 v4 (out ++ Q.byl (s.extract i b0) ++ Q.byl (s.extract b0 en)) ∧ TX w8 wr.heap.size ⟨kd, nn, b0, en, tx, s0, s1, s2, s3⟩) from ⟨HX6.out.1.grow hwB (x := s.extract b0 en) (by rw [List.length_append, List.map_append, List.append_assoc, Hx.out.2]; exact hown4) hgrow4, tx_grown HX6.out.2 HX6.out.1.o hgrow4⟩)
            have k3 := HXC.out.2.cells.c3
            dsimp only at k3
            clear hown4 hgrow4 HX6 e2 e3 hq1 hq1' hsA
            go_wp2_with fail
            all_goals (refine ⟨⟨k1 + 1 + 1, en, _, by omega, by omega, HQ3.out, by go_num, by go_num, HXC.out.1, HD2.out, HP3.out, HV2.out⟩, ?_⟩; simp [intOf]; omega)
          · have v3 : ((kx).tmod 2 == 0) = false := by rw [beq_eq_false_iff_ne]; exact hev
            have v4 : (IntKind.i64.wrap (kx.tmod 2) == 0) = false := by rw [tm2]; exact v3
            have HIn := (show Hid (insB (k1 + 1) i b0 (kfN ks (k1 + 1)) = true) from by show _ = _; unfold insB; rw [HKe.out, v3]; simp)
            clear hib HPr hev
            go_quiet (fail)
            clear hcp u1 u2 z2 z3
            have HX6 := (show Hid (AtGp w wB (w5.drewN nq) v2 (out ++ Q.byl (s.extract i b0)) ∧ TX (w5.drewN nq) wr.heap.size ⟨kd, nn, b0, en, tx, s0, s1, s2, s3⟩) from ⟨HX2.out.1.step (below_drewN (Below.refl _ _) _), HX2.out.2.below (below_drewN (Below.refl _ _) _)⟩)
            generalize w5.drewN nq = w6 at *
            clear HX2 c0 c1 c2 c3 c4 c5 c6 c7 c8
            have HGp : Hid (∀ w, Calls Tryd.prog 13 #[.int .i64 kx] w fun e w' => e = .returned (.string (gpT (gpI kx))) ∧ Below w.heap.size w w') := fun w => gapT_any _ w
            have hgl : (gpT (gpI kx)).size ≤ 15 := gpT_len _
            have HX7 := (show Hid (AtGp w wB w6.drew v2 (out ++ Q.byl (s.extract i b0)) ∧ TX w6.drew wr.heap.size ⟨kd, nn, b0, en, tx, s0, s1, s2, s3⟩) from ⟨HX6.out.1.step (Below.refl _ _).drew, HX6.out.2.below (Below.refl _ _).drew⟩)
            have HGe := (show Hid (gapL (gpI (kfN ks (k1 + 1))) = Q.byl (gpT (gpI kx))) from by show _ = _; rw [HKe.out])
            generalize gpT (gpI kx) = GT at *
            have hq1 : (out ++ Q.byl (s.extract i b0)).length ≤ 30000 := by rw [List.length_append, Q.byl_len]; omega
            have hq2 : (out ++ Q.byl (s.extract i b0) ++ Q.byl GT).length ≤ 30100 := by rw [List.length_append, Q.byl_len]; omega
            have HQ3 := (show Hid ((out ++ Q.byl (s.extract i b0) ++ Q.byl GT ++ Q.byl (s.extract b0 en)).length ≤ en + 15 * (k1 + 1 + 1)) from by show _ ≤ _; rw [List.length_append, List.length_append, List.length_append, Q.byl_len, Q.byl_len, Q.byl_len, Hx.out.1, Hx.out.2]; omega)
            have HP3 := (show Hid (gpB s (kfN ks) l 0 0 = out ++ Q.byl (s.extract i b0) ++ Q.byl GT ++ Q.byl (s.extract b0 en) ++ gpB s (kfN ks) (l.drop (k1 + 1 + 1)) en (k1 + 1 + 1)) from by show _ = _; rw [HP2.out, if_pos HIn.out, HGe.out]; simp only [List.append_assoc])
            clear HP2 HIn HGe HKe
            have c2 := HX7.out.2.cells.c2
            have c3 := HX7.out.2.cells.c3
            have e2 := HX6.out.2.cells.c2
            have e3 := HX6.out.2.cells.c3
            dsimp only at c2 c3 e2 e3
            go_wp2_with fail
            go_region_law (first
              | (refine step_call1 enters13 (by rfl) _ _ (by rfl) (.int .i64 kx) (by rfl) ?_; with_reducible refine (HGp.out _).mono ?_; rintro e wA ⟨rfl, bA⟩; refine ⟨_, rfl, ?_⟩; have HXA := hid_of (And.intro (HX7.out.1.step bA) (HX7.out.2.below bA)); have g2 := HXA.out.2.cells.c2; have g3 := HXA.out.2.cells.c3; dsimp only at g2 g3; have hsA := HXA.out.1.c.size)
              | (refine step_append_str (by rfl) _ _ 39 9 (by rfl) wB.heap.size 5 i0 Tryd.underlying39 Tryd.underlying9 hinf hz0 hz1 hz2 _ _ _ (by rfl) HXB.out.1.o (s.extract b0 en) (by rfl) (by unfold maxLen; omega) (by omega) hsBB ?_; intro v4 w8 hown4 hgrow4; have HXC := hid_of (And.intro (HXB.out.1.grow hwB (x := s.extract b0 en) hown4 hgrow4) (tx_grown HXB.out.2 HXB.out.1.o hgrow4)); have k3 := HXC.out.2.cells.c3; dsimp only at k3)
              | (refine step_append_str (by rfl) _ _ 39 9 (by rfl) wB.heap.size 5 i0 Tryd.underlying39 Tryd.underlying9 hinf hz0 hz1 hz2 _ _ _ (by rfl) HXA.out.1.o GT (by rfl) (by unfold maxLen; omega) (by omega) hsA ?_; intro v3 w7 hown3 hgrow3; have HXB := hid_of (And.intro (HXA.out.1.grow hwB (x := GT) hown3 hgrow3) (tx_grown HXA.out.2 HXA.out.1.o hgrow3)); have i2 := HXB.out.2.cells.c2; have i3 := HXB.out.2.cells.c3; dsimp only at i2 i3; have hsBB := HXB.out.1.c.size))
            all_goals (try clear c2 c3 e2 e3 g2 g3 i2 i3 hown3 hgrow3 hown4 hgrow4 HXA HXB HX7 HX6 HGp bA hq1 hq2)
            all_goals (try go_wp2_with fail)
            all_goals (refine ⟨⟨k1 + 1 + 1, en, _, by omega, by omega, HQ3.out, by go_num, by go_num, HXC.out.1, HD2.out, HP3.out, HV2.out⟩, ?_⟩; simp [intOf]; omega)
        · have v1 : ((i : Int) == (b0 : Int)) = false := by rw [beq_eq_false_iff_ne]; omega
          have HIn := (show Hid (insB (k1 + 1) i b0 (kfN ks (k1 + 1)) = true) from by unfold insB; rw [decide_eq_false hib, Bool.and_false, Bool.false_and]; rfl)
          clear hib HPr
          go_quiet (fail)
          clear hcp u1 u2 z2 z3
          have HX6 := (show Hid (AtGp w wB (w5.drewN nq) v2 (out ++ Q.byl (s.extract i b0)) ∧ TX (w5.drewN nq) wr.heap.size ⟨kd, nn, b0, en, tx, s0, s1, s2, s3⟩) from ⟨HX2.out.1.step (below_drewN (Below.refl _ _) _), HX2.out.2.below (below_drewN (Below.refl _ _) _)⟩)
          generalize w5.drewN nq = w6 at *
          clear HX2 c0 c1 c2 c3 c4 c5 c6 c7 c8
          have HGp : Hid (∀ w, Calls Tryd.prog 13 #[.int .i64 kx] w fun e w' => e = .returned (.string (gpT (gpI kx))) ∧ Below w.heap.size w w') := fun w => gapT_any _ w
          have hgl : (gpT (gpI kx)).size ≤ 15 := gpT_len _
          have HX7 := (show Hid (AtGp w wB w6.drew v2 (out ++ Q.byl (s.extract i b0)) ∧ TX w6.drew wr.heap.size ⟨kd, nn, b0, en, tx, s0, s1, s2, s3⟩) from ⟨HX6.out.1.step (Below.refl _ _).drew, HX6.out.2.below (Below.refl _ _).drew⟩)
          have HGe := (show Hid (gapL (gpI (kfN ks (k1 + 1))) = Q.byl (gpT (gpI kx))) from by show _ = _; rw [HKe.out])
          generalize gpT (gpI kx) = GT at *
          have hq1 : (out ++ Q.byl (s.extract i b0)).length ≤ 30000 := by rw [List.length_append, Q.byl_len]; omega
          have hq2 : (out ++ Q.byl (s.extract i b0) ++ Q.byl GT).length ≤ 30100 := by rw [List.length_append, Q.byl_len]; omega
          have HQ3 := (show Hid ((out ++ Q.byl (s.extract i b0) ++ Q.byl GT ++ Q.byl (s.extract b0 en)).length ≤ en + 15 * (k1 + 1 + 1)) from by show _ ≤ _; rw [List.length_append, List.length_append, List.length_append, Q.byl_len, Q.byl_len, Q.byl_len, Hx.out.1, Hx.out.2]; omega)
          have HP3 := (show Hid (gpB s (kfN ks) l 0 0 = out ++ Q.byl (s.extract i b0) ++ Q.byl GT ++ Q.byl (s.extract b0 en) ++ gpB s (kfN ks) (l.drop (k1 + 1 + 1)) en (k1 + 1 + 1)) from by show _ = _; rw [HP2.out, if_pos HIn.out, HGe.out]; simp only [List.append_assoc])
          clear HP2 HIn HGe HKe
          have c2 := HX7.out.2.cells.c2
          have c3 := HX7.out.2.cells.c3
          have e2 := HX6.out.2.cells.c2
          have e3 := HX6.out.2.cells.c3
          dsimp only at c2 c3 e2 e3
          go_wp2_with fail
          go_region_law (first
            | (refine step_call1 enters13 (by rfl) _ _ (by rfl) (.int .i64 kx) (by rfl) ?_; with_reducible refine (HGp.out _).mono ?_; rintro e wA ⟨rfl, bA⟩; refine ⟨_, rfl, ?_⟩; have HXA := hid_of (And.intro (HX7.out.1.step bA) (HX7.out.2.below bA)); have g2 := HXA.out.2.cells.c2; have g3 := HXA.out.2.cells.c3; dsimp only at g2 g3; have hsA := HXA.out.1.c.size)
            | (refine step_append_str (by rfl) _ _ 39 9 (by rfl) wB.heap.size 5 i0 Tryd.underlying39 Tryd.underlying9 hinf hz0 hz1 hz2 _ _ _ (by rfl) HXB.out.1.o (s.extract b0 en) (by rfl) (by unfold maxLen; omega) (by omega) hsBB ?_; intro v4 w8 hown4 hgrow4; have HXC := hid_of (And.intro (HXB.out.1.grow hwB (x := s.extract b0 en) hown4 hgrow4) (tx_grown HXB.out.2 HXB.out.1.o hgrow4)); have k3 := HXC.out.2.cells.c3; dsimp only at k3)
            | (refine step_append_str (by rfl) _ _ 39 9 (by rfl) wB.heap.size 5 i0 Tryd.underlying39 Tryd.underlying9 hinf hz0 hz1 hz2 _ _ _ (by rfl) HXA.out.1.o GT (by rfl) (by unfold maxLen; omega) (by omega) hsA ?_; intro v3 w7 hown3 hgrow3; have HXB := hid_of (And.intro (HXA.out.1.grow hwB (x := GT) hown3 hgrow3) (tx_grown HXA.out.2 HXA.out.1.o hgrow3)); have i2 := HXB.out.2.cells.c2; have i3 := HXB.out.2.cells.c3; dsimp only at i2 i3; have hsBB := HXB.out.1.c.size))
          all_goals (try clear c2 c3 e2 e3 g2 g3 i2 i3 hown3 hgrow3 hown4 hgrow4 HXA HXB HX7 HX6 HGp bA hq1 hq2)
          all_goals (try go_wp2_with fail)
          all_goals (refine ⟨⟨k1 + 1 + 1, en, _, by omega, by omega, HQ3.out, by go_num, by go_num, HXC.out.1, HD2.out, HP3.out, HV2.out⟩, ?_⟩; simp [intOf]; omega)
    · obtain rfl : k = l.length := by omega
      have z1 : ¬ (l.length : Int) < (l.length : Int) := by omega
      rw [List.drop_length] at HP
      have y3 : (0 : Int) ≤ (i : Int) := by omega
      have y4 : (i : Int) ≤ (s.size : Int) := by omega
      have hsB2 := HW.out.c.size
      have hx1 : (s.extract i s.size).size ≤ 8000 := by rw [ByteArray.size_extract]; omega
      have hq1 : (out ++ Q.byl (s.extract i s.size)).length ≤ 30000 := by rw [List.length_append, Q.byl_len]; omega
      have HCC := (show Hid (Chn s 0 l) from HC.out)
      clear HC HD HV
      go_wp2_with (at_builtin; (refine Lib.wpList_append_own_string _ rfl _ _ 39 9 rfl wB.heap.size 5 i0 Tryd.underlying39 Tryd.underlying9 hinf hz0 hz1 hz2 _ _ _ rfl HW.out.o (s.extract i s.size) rfl ?x3 ?x4 ?x5 ?_))
      case x3 => unfold maxLen; first | omega | (simp; omega)
      case x4 => first | omega | (simp; omega)
      intro v5 w5 hown5 hgrow5 hxx
      clear hxx
      have HX5 := (show Hid (AtGp w wB w5 v5 (out ++ Q.byl (s.extract i s.size))) from HW.out.grow hwB (x := s.extract i s.size) (by rw [show (s.extract i s.size).size = s.size - i by rw [ByteArray.size_extract]; omega]; exact hown5) hgrow5)
      have hsB5 := HX5.out.c.size
      clear hown5 hgrow5 HW hsB2
      go_wp2_with (at_builtin; (refine Lib.wpList_append_own_string _ rfl _ _ 39 9 rfl wB.heap.size 5 i0 Tryd.underlying39 Tryd.underlying9 hinf hz0 hz1 hz2 _ _ _ rfl HX5.out.o ⟨#[10, 32, 45, 45, 32, 101, 110, 100]⟩ rfl ?y3 ?y4 ?y5 ?_))
      case y3 => unfold maxLen; show _ + 8 ≤ _; omega
      case y4 => show _ + 8 ≤ _; omega
      case y5 => exact hsB5
      intro v6 w6 hown6 hgrow6 hxx
      clear hxx
      have HX6 := (show Hid (AtGp w wB w6 v6 (out ++ Q.byl (s.extract i s.size) ++ tailB)) from HX5.out.grow hwB (x := ⟨#[10, 32, 45, 45, 32, 101, 110, 100]⟩) (by rw [List.length_append, List.map_append, List.append_assoc]; exact hown6) hgrow6)
      have hq6 : (out ++ Q.byl (s.extract i s.size) ++ tailB).length ≤ 65536 := by rw [List.length_append]; show _ + 8 ≤ _; omega
      obtain ⟨L, hL⟩ : ∃ L, L = out ++ Q.byl (s.extract i s.size) ++ tailB := ⟨_, rfl⟩
      rw [← hL] at HX6 hq6
      have hLg : L = [] ++ gpB s (kfN ks) l 0 0 := by rw [HP.out, hL, gpB, List.append_assoc]; rfl
      have hBL : BL L := by rw [hLg]; exact gpB_bl s _ l 0 0
      obtain ⟨l2, hc2, hm2⟩ := chn_gap s (kfN ks) L hBL l 0 0 [] hLg (by omega) HCC.out
      have hl2 : l2.length = l.length := by have := congrArg List.length hm2; simpa using this
      have hsz : (asText L).size = L.length := asText_size L
      have HLx : Hid (∀ w, SG w → Calls Tryd.prog 7 #[.string (asText L)] w fun e' w' => (∃ v, e' = .returned (.tuple #[v, .agg #[.int .i64 0, .int .i64 0]]) ∧ w'.ownsRow w.heap.size 36 9 v l2.length (tkc l2)) ∧ Below w.heap.size w w') := fun w g => by
        have h1 := lexP_any (asText L) w g
        rw [lex_of_chn (by omega) hc2] at h1
        exact h1
      have hcv := text_own HX6.out.o
      have HG6 := (show Hid (SG w6) from HG.out.below HX6.out.b HG.out.lt)
      clear hown6 hgrow6 HX5 hsB5 HP hL hLg hBL hc2 hsz hq6 hq1 hx1 HCC
      go_wp2_with fail
      refine (HLx.out _ HG6.out).mono ?_
      rintro e w7 ⟨⟨v7, rfl, ho7⟩, b7⟩
      obtain ⟨A7, cp7, rfl, hr7⟩ := own_rdt ho7 rfl
      have HX7 := (show Hid (AtGp w wB w7 v6 L) from HX6.out.step b7)
      have HF7 := (show Hid (FX w7 w2.heap.size 0 0) from HF2.out.below HX7.out.c)
      have s1 : w7.setCell ⟨w2.heap.size, 0, none⟩ (.int .i64 0) = w7 := set_same HF7.out.heap rfl
      have s2 : w7.setCell ⟨w2.heap.size, 1, none⟩ (.int .i64 0) = w7 := set_same HF7.out.heap rfl
      have k0 := HF7.out.c0
      have k1 := HF7.out.c1
      have k2 := HF7.out.f0
      have k3 := HF7.out.f1
      have HR7 := (show Hid (RdT w7 A7 l2) from hr7)
      have HAl : Hid (∀ wx, Below w7.heap.size w7 wx → Calls Tryd.prog 12 #[.slice A7 l2.length cp7, .slice A1 l.length cp] wx fun e w' => e = .returned (.bool true) ∧ Below wx.heap.size wx w') := fun wx bx => alike_any A7 A1 cp7 cp l2 l hm2 (by omega) wx (HR7.out.later bx) ((HR2.out.later HX7.out.c).later bx)
      clear hcv ho7 b7 hr7 HX6 HLx HG6 hm2 hl2 HR7 HR2 HF2 HG
      go_wp2_with fail
      refine (HAl.out _ (Below.refl _ _)).mono ?_
      rintro e w8 ⟨rfl, b8⟩
      have HX8 := (show Hid (AtGp w wB w8 v6 L) from HX7.out.step b8)
      clear HAl b8 HX7 HF7 s1 s2 k0 k1 k2 k3
      go_wp2_with fail
      go_ret
      exact ⟨rfl, HX8.out.b⟩
end Go.Proofs.YthffklhojdldkaaDoor

namespace Go.Proofs.YthffklhojdldkaaDoor
open Go.RowKit
set_option maxRecDepth 100000 in
set_option maxHeartbeats 4000000 in
theorem gaps_err (s : ByteArray) (q : Nat × Int) (A : Option Addr) (n c : Nat) (h : lexR (oneP s) s = .inr q) (w : World) (hg : SG w) : Calls Tryd.prog 5 #[.string s, .slice A n c] w fun e w' => e = .returned (.bool true) ∧ Below w.heap.size w w' := by
  have HWk : Hid (∀ w, SG w → Calls Tryd.prog 10 #[] w fun e w' => e = .returned (.bool true) ∧ Below w.heap.size w w') := fun w g => works_any w g
  have HG := (show Hid (SG w) from hg)
  have HL : Hid (∀ w, SG w → Calls Tryd.prog 7 #[.string s] w fun e' w' => e' = .returned (.tuple #[.slice none 0 0, .agg #[.int .i64 q.1, .int .i64 q.2]]) ∧ Below w.heap.size w w') := fun w g => by
    have h1 := lexP_any s w g
    rw [h] at h1
    exact h1
  have hne := lexR_no h
  have e1 := eq26 q.1 q.2 0 0
  have v1 : ((q.1 : Int) == 0 && q.2 == 0) = false := by rw [beq_eq_false_iff_ne.2 hne, Bool.and_false]
  rw [v1] at e1
  clear hg h hne v1
  go_enter Tryd.func5, Tryd.ntmps5
  go_wp2_with fail
  refine (HWk.out _ HG.out).mono ?_
  rintro e w1 ⟨rfl, b1⟩
  have HG1 := (show Hid (SG w1) from HG.out.later b1)
  have HB1 := (show Hid (Below w.heap.size w w1) from b1)
  clear b1 HWk HG
  go_wp2_with fail
  refine (HL.out _ HG1.out).mono ?_
  rintro e w2 ⟨rfl, b2⟩
  have HB2 := (show Hid (Below w.heap.size w w2) from HB1.out.trans (b2.mono HB1.out.size))
  clear b2 HB1 HG1 HL
  go_wp2_with fail
  go_ret
  exact ⟨rfl, HB2.out.alloc HB2.out.size _⟩
set_option maxRecDepth 100000 in
set_option maxHeartbeats 4000000 in
theorem gaps_much (s : ByteArray) (l : List Tk) (A : Option Addr) (n c : Nat) (h : lexR (oneP s) s = .inl l) (hm : ¬ l.length ≤ 400 ∨ ¬ s.size ≤ 8000) (w : World) (hg : SG w) : Calls Tryd.prog 5 #[.string s, .slice A n c] w fun e w' => e = .returned (.bool true) ∧ Below w.heap.size w w' := by
  have HWk : Hid (∀ w, SG w → Calls Tryd.prog 10 #[] w fun e w' => e = .returned (.bool true) ∧ Below w.heap.size w w') := fun w g => works_any w g
  have HG := (show Hid (SG w) from hg)
  have HL : Hid (∀ w, SG w → Calls Tryd.prog 7 #[.string s] w fun e' w' => (∃ v, e' = .returned (.tuple #[v, .agg #[.int .i64 0, .int .i64 0]]) ∧ w'.ownsRow w.heap.size 36 9 v l.length (tkc l)) ∧ Below w.heap.size w w') := fun w g => by
    have h1 := lexP_any s w g
    rw [h] at h1
    exact h1
  have e1 := eq26 0 0 0 0
  have HM := (show Hid (¬ l.length ≤ 400 ∨ ¬ s.size ≤ 8000) from hm)
  clear hg h hm
  go_enter Tryd.func5, Tryd.ntmps5
  go_wp2_with fail
  refine (HWk.out _ HG.out).mono ?_
  rintro e w1 ⟨rfl, b1⟩
  have HG1 := (show Hid (SG w1) from HG.out.later b1)
  have HB1 := (show Hid (Below w.heap.size w w1) from b1)
  clear b1 HWk HG
  go_wp2_with fail
  refine (HL.out _ HG1.out).mono ?_
  rintro e w2 ⟨⟨v, rfl, ho⟩, b2⟩
  obtain ⟨A1, cp, rfl, hr⟩ := own_rdt ho rfl
  have HB2 := (show Hid (Below w.heap.size w w2) from HB1.out.trans (b2.mono HB1.out.size))
  clear b2 HB1 HG1 HL ho hr
  by_cases h4 : (400 : Int) < (l.length : Int)
  · clear HM
    go_wp2_with fail
    go_ret
    exact ⟨rfl, HB2.out.alloc HB2.out.size _⟩
  · have h8 : (8000 : Int) < (s.size : Int) := by have := HM.out; omega
    clear HM
    go_wp2_with fail
    go_ret
    exact ⟨rfl, HB2.out.alloc HB2.out.size _⟩
end Go.Proofs.YthffklhojdldkaaDoor

namespace Go.Proofs.YthffklhojdldkaaDoor
open Go.ChangeShapes Go.WideShapes Go.ChangeAt Go.RowKit
theorem gaps_any (s : ByteArray) (A : Option Addr) (c : Nat) (ks : List Int) (w : World) (hk : RdK w A ks) (hg : SG w) : Calls Tryd.prog 5 #[.string s, .slice A ks.length c] w fun e w' => e = .returned (.bool true) ∧ Below w.heap.size w w' := by
  cases h : lexR (oneP s) s with
  | inr q => exact gaps_err s q A ks.length c h w hg
  | inl l =>
    by_cases h4 : l.length ≤ 400
    · by_cases h8 : s.size ≤ 8000
      · by_cases hn : ks = []
        · exact gaps_ok0 s l A c ks hn h h4 h8 w hg hk
        · exact gaps_ok1 s l A c ks hn h h4 h8 w hg hk
      · exact gaps_much s l A ks.length c h (.inr h8) w hg
    · exact gaps_much s l A ks.length c h (.inl h4) w hg
theorem Tryd.cells3 : Tryd.prog.cellsOf 3 = 1 := by kernel_rfl
theorem open_list {H : Type} {enc : TypeId × Value → H} {W : World} {b0 : Nat} {r : Reach} {held : Bool} {v : Value} {d : DataW H} {p : List MemPlace} (hv : Value.okWide Tryd.prog W r b0 38 v) (h : DataW.Trod enc Tryd.prog W 0 (fun _ => true) held 38 v d p) :
    ∃ A c l, v = .slice A l.length c ∧ RdK W A l ∧ (l = [] ∨ ∃ es sp, d = .slice es sp ∧ es.length = l.length) := by
  obtain ⟨fuel, hf⟩ := h
  obtain ⟨a0, len0, cap0, rfl⟩ := okWide_slice Tryd.underlying38 hv
  rcases Go.ChangeShapes.open_ints Tryd.underlying38 Tryd.underlying3 Tryd.cells3 hf with ⟨hc, hx⟩ | ⟨a, len, cap, zs, hc, _, hl, hm, hz, hx, hall, _⟩
  · have hc : [Value.slice a0 len0 cap0] = [.slice none 0 0] := hc
    cases hc
    exact ⟨none, 0, [], rfl, ⟨fun q => absurd rfl q⟩, .inl rfl⟩
  · have hc : [Value.slice a0 len0 cap0] = [.slice (some a) len cap] := hc
    cases hc
    simp only [if_true] at hz
    have hlen : (zs.take len0).length = len0 := by rw [List.length_take]; omega
    have hcell : ∀ (j : Nat) x, (zs.take len0)[j]? = some x → W.cell? (a.add j) = some (.int .i64 x) := fun j x hj => by
      have hj2 : j < len0 := by
        by_cases q : j < len0
        · exact q
        · rw [List.getElem?_eq_none (by omega)] at hj; cases hj
      have hz2 : j < zs.length := by omega
      rw [List.getElem?_take, if_pos hj2, List.getElem?_eq_getElem hz2] at hj
      have h1 := hall j hz2
      rw [List.getD_eq_getElem?_getD, List.getElem?_eq_getElem hz2] at h1
      cases hj
      exact h1
    refine ⟨some a, cap0, zs.take len0, by rw [hlen], ⟨fun hne => ?_⟩, .inr ⟨_, _, congrArg Prod.fst hx, by simp [lits]⟩⟩
    obtain ⟨g, off, spot⟩ := a
    have h0 : 0 < (zs.take len0).length := List.length_pos_iff.2 hne
    have c0 := hcell 0 _ (List.getElem?_eq_getElem h0)
    have hs : spot = none := by simpa [Addr.add] using World.cell?_spot c0
    subst hs
    refine ⟨g, off, rfl, World.block_lt_of_cell? W _ c0, fun k x hk => ?_⟩
    have := hcell k x hk
    rwa [Addr.add_lit] at this
end Go.Proofs.YthffklhojdldkaaDoor

namespace Go.Proofs.YthffklhojdldkaaDoor
open Go.ChangeShapes Go.WideShapes Go.ChangeAt Go.RowKit
open Go.ChangeMaps (open_string shut_string)
set_option maxRecDepth 100000 in
theorem tokenGaps_contract (H : Type) (enc : TypeId × Value → H) (W : World) (base : Nat) (args : Array Value) (ds gs : List (DataW H)) (before : List MemPlace)
    (hval0 : ∀ (j : Nat) t v, Tryd.f5.params[j]? = some t → args[j]? = some v → Value.okWide Tryd.prog W .any base t v)
    (hW : DataW.Whole enc Tryd.prog Tryd.f5.params.toList Rows.tokenGapsSpec.vars false W args.toList ds gs before) (hvb : SG W)
    (hsz : (DataW.weightsEach Tryd.prog (Tryd.f5.params.toList ++ (OpenSpec.ofChange Rows.tokenGapsSpec).bare.plain.varTypes Tryd.prog) (ds ++ gs)).all (· ≤ reachBytes) = true) :
    Calls Tryd.prog 5 args W fun e W' => ∃ v, e = .returned v ∧ Rows.tokenGapsSpec.post enc Tryd.prog Tryd.f5 false true false false W args v W' := by
  have hval : ∀ (j : Nat) t v, Tryd.f5.params[j]? = some t → args[j]? = some v → Value.okWide Tryd.prog W .any base t v := hval0
  have hW' := hW
  obtain ⟨p, q, hA0, hV, rfl, hfz, hnd⟩ := hW
  have hA : DataW.TrodAll enc Tryd.prog W 0 (fun _ => true) true Tryd.f5.params.toList args.toList ds p := hA0
  rw [Tryd.params5] at hA hval hsz
  obtain ⟨v1, v2, d1, d2, p1, p2, rfl, rfl, rfl, h1, h2⟩ := trodAll_two hA
  obtain ⟨rfl, rfl⟩ := trodVars_none hV
  obtain ⟨s1, rfl, rfl, rfl, hs1⟩ := open_string Tryd.underlying9 (hval 0 9 v1 rfl rfl) h1
  have lt2 : ∀ x ∈ p2, x.block < W.heap.size := by obtain ⟨m, hm⟩ := h2; exact DataW.trod_lt m _ _ _ hm
  obtain ⟨A2, cp2, l2, rfl, hl2, hd2⟩ := open_list (hval 1 38 v2 rfl rfl) h2
  clear hA0 hval0
  refine (gaps_any s1 A2 cp2 l2 W hl2 hvb).mono fun e W' ⟨he, bel⟩ => ?_
  subst he
  exact ⟨_, rfl, _, _, _, [], _, [], hW', trodAll_mk1 (shut_bool Tryd.underlying4 _), (trodAll_cons_mk (shut_string Tryd.underlying9 hs1) (trodAll_cons_mk (Below.trod laidOut (by kernel_rfl) (of_decide_eq_true (by kernel_rfl)) h2 bel lt2) trodAll_mk0)), rfl, bel.frame _, fun h => by cases h⟩

theorem tokenGaps_met (os : Os) : laidMet Tryd.prog Rows.tokenGapsRow.laid ((layTab (World.holding Tryd.prog os ⟨#[], #[], []⟩)).forCall (fun _ _ => 0) ⟨#[], #[.string ByteArray.empty, .slice none 0 0], []⟩).memory :=
  laidMet_of_run' 8 (by kernel_rfl) (by kernel_rfl)
theorem tokenGaps_reads (os : Os) {H : Type} (enc : TypeId × Value → H) : ∃ places, DataW.whole enc Tryd.prog ((layTab (World.holding Tryd.prog os ⟨#[], #[], []⟩)).forCall (fun _ _ => 0) ⟨#[], #[.string ByteArray.empty, .slice none 0 0], []⟩).memory Tryd.f5.params.toList Rows.tokenGapsSpec.vars false (#[.string ByteArray.empty, .slice none 0 0] : Array Value).toList 8 = some ([.lit (.string []), .nil], [], places) :=
  ⟨[], by kernel_rfl⟩

set_option maxRecDepth 100000 in
theorem tokenGaps_lifted (os : Os) (started : os.Started) (H : Type) (enc : TypeId × Value → H) (F : Stop.Interp) :
    ReturnsInHanded {} Tryd.checked os 5 .any ((OpenSpec.ofChange Rows.tokenGapsSpec).preRow enc Tryd.prog Tryd.f5 Rows.tokenGapsRow.domain false Rows.tokenGapsRow.laid) (((OpenSpec.ofChange Rows.tokenGapsSpec).at F).post enc Tryd.prog Tryd.f5 false true false false) := by
  obtain ⟨places, hx⟩ := tokenGaps_reads os enc
  refine returnsInHanded_of_row (C := Tryd.checked) (s := OpenSpec.ofChange Rows.tokenGapsSpec) own started (by kernel_rfl) Tryd.func5
    (witness_row_at (enc := enc) (C := Tryd.checked) false (layTab (World.holding Tryd.prog os ⟨#[], #[], []⟩)) #[.string ByteArray.empty, .slice none 0 0] rfl (by kernel_rfl) (by kernel_rfl) (by kernel_rfl)
      (OpenSpec.preRow_of_cond 8 hx (by kernel_rfl) (fun k hk => by cases hk) (by kernel_rfl) (tokenGaps_met os))) ?_
  intro W base args ds gs before hval hW _ hcond hsz hL _ _
  exact tokenGaps_contract H enc W base args ds gs before hval hW (sg_of_laid hL) hsz

theorem tokenGaps_row : Rows.TokenGapsSaid :=
  OpenClaim.holds_of_cond 5 Tryd.f5 rfl rfl rfl rfl rfl rfl rfl ⟨rfl, rfl, rfl, rfl, rfl⟩ rfl rfl rfl rfl rfl (by kernel_rfl) Tryd.func5 (by kernel_rfl)
    (of_decide_eq_true (by kernel_rfl)) (by unfold Func.isWrapper; first | (rw [if_pos (by decide +kernel)]; kernel_rfl) | (rw [if_neg (by decide +kernel)]; exact ⟨rfl, rfl⟩))
    (fun os started H enc _ F => by rw [OpenClaim.pre_eq_preRow]; exact tokenGaps_lifted os started H enc F)
theorem tokenGaps_plain (f : FuncId) (fn : Func) (hf : Tryd.pinned.checked.prog.funcNamed "harrow/harrowlaw05.TokenGaps" = some f) (hfn : Tryd.pinned.checked.prog.funcs[f]? = some fn) :
    false = Tryd.pinned.checked.prog.looks [] ∧ ∀ (j : Nat) t, fn.params[j]? = some t → Tryd.pinned.checked.prog.wantsStandIn t = false := by
  obtain rfl : f = 5 := Option.some.inj ((show Tryd.prog.funcNamed "harrow/harrowlaw05.TokenGaps" = some 5 by kernel_rfl).symm.trans hf) |>.symm
  obtain rfl : fn = Tryd.f5 := (Option.some.inj (Tryd.func5.symm.trans hfn)).symm
  refine ⟨by kernel_rfl, fun j t ht => ?_⟩
  rw [Tryd.params5] at ht
  have hm : t ∈ [9, 38] := by simpa using Array.mem_of_getElem? ht
  have hall : ([9, 38].all fun u => !Tryd.prog.wantsStandIn u) = true := by kernel_rfl
  exact (show Tryd.prog.wantsStandIn t = false by simpa using List.all_eq_true.1 hall t hm)
theorem tokenGaps_holds : Rows.TokenGapsCardSaid :=
  Claim7.holds_tied_plain_at .later [] _ _ _ _ tokenGaps_row (fun _ h => by cases h) (by kernel_rfl) (fun _ h => by cases h) tokenGaps_row_tie rfl ⟨rfl, rfl⟩ (by kernel_rfl) rfl tokenGaps_plain (by kernel_rfl)
end Go.Proofs.YthffklhojdldkaaDoor
