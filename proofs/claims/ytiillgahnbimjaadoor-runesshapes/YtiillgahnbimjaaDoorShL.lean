/- DERIVED. Walks: the law of the shapes. -/
import Derived.Test.YtiillgahnbimjaaDoorShA
import Derived.Deep.AppendLies
import Derived.Deep.RegionHeld3
namespace Go.Proofs.YtiillgahnbimjaaDoor
open Go.RowKit

set_option maxRecDepth 100000 in
set_option maxHeartbeats 16000000 in
theorem shapes_gen (lo hi : Int) (ss : List Shape) (cd : Int) (L : List Nd) (hl : ss.length ≤ 1114112) (h4 : ∀ s ∈ ss, s.length ≤ 4) (hL : L.length ≤ 20000000) (w : World) (hv : VB w)
    (h1 : ∀ w, VB w → Calls Tryd.prog 22 #[.int .i64 lo, .int .i64 hi] w fun e w' => (∃ v xs, e = .returned (.tuple #[v, .int .i64 cd]) ∧ RR w' w.heap.size v ss xs) ∧ Below w.heap.size w w')
    (h2 : ∀ w, Calls Tryd.prog 23 #[.int .i64 lo, .int .i64 hi] w fun e w' => (∃ v xs, e = .returned (.tuple #[v, .int .i64 cd]) ∧ RR w' w.heap.size v ss xs) ∧ Below w.heap.size w w')
    (h3 : ∀ w, VB w → Calls Tryd.prog 24 #[.int .i64 lo, .int .i64 hi] w fun e w' => (∃ v, e = .returned (.tuple #[v, .int .i64 cd]) ∧ w'.ownsRow w.heap.size 80 7 v L.length (ndc L)) ∧ Below w.heap.size w w')
    (h5 : ∀ w, Calls Tryd.prog 25 #[.int .i64 lo, .int .i64 hi] w fun e w' => (∃ v, e = .returned (.tuple #[v, .int .i64 cd]) ∧ w'.ownsRow w.heap.size 80 7 v L.length (ndc L)) ∧ Below w.heap.size w w') :
    Calls Tryd.prog 5 #[.int .i64 lo, .int .i64 hi] w fun e w' => e = .returned (.bool true) ∧ Below w.heap.size w w' := by
  obtain ⟨i0, hinf, hz0, hz1, hz2⟩ := info_parts Tryd.info56
  have H1 := (show Hid _ from h1)
  have H2 := (show Hid _ from h2)
  have H3 := (show Hid _ from h3)
  have H5 := (show Hid _ from h5)
  have HV := (show Hid _ from hv)
  have H4 := (show Hid _ from h4)
  have HLt := (show Hid _ from hv.lt)
  clear h1 h2 h3 h5 hv h4
  go_enter Tryd.func5, Tryd.ntmps5
  go_wp2_with fail
  refine (H1.out _ HV.out).mono ?_
  rintro e w1 ⟨⟨vx, xx, rfl, hRx⟩, hb1⟩
  have B1 := (show Hid _ from hb1)
  have RX := (show Hid _ from hRx)
  obtain ⟨Ax, cx, rfl⟩ := hRx.val
  have V1 := (show Hid (VB w1) from HV.out.below B1.out HLt.out)
  clear hb1 hRx
  go_wp2_with fail
  refine (H1.out _ V1.out).mono ?_
  rintro e w2 ⟨⟨va, xa, rfl, hRa⟩, hb2⟩
  have B2 := (show Hid _ from hb2)
  have RA := (show Hid _ from hRa)
  obtain ⟨Aa, ca, rfl⟩ := hRa.val
  have V2 := (show Hid (VB w2) from V1.out.below B2.out V1.out.lt)
  clear hb2 hRa V1
  go_wp2_with fail
  refine (H2.out _).mono ?_
  rintro e w3 ⟨⟨vy, xy, rfl, hRy⟩, hb3⟩
  have B3 := (show Hid _ from hb3)
  have RY := (show Hid _ from hRy)
  obtain ⟨Ay, cy, rfl⟩ := hRy.val
  have V3 := (show Hid (VB w3) from V2.out.below B3.out V2.out.lt)
  clear hb3 hRy V2 H1 H2
  go_wp2_with fail
  refine (H3.out _ V3.out).mono ?_
  rintro e w4 ⟨⟨vp, rfl, hOp⟩, hb4⟩
  have B4 := (show Hid _ from hb4)
  obtain ⟨Ap, cp, rfl, _⟩ := own_rdn hOp rfl
  have OP := (show Hid _ from hOp)
  have V4 := (show Hid (VB w4) from V3.out.below B4.out V3.out.lt)
  clear hb4 hOp V3
  go_wp2_with fail
  refine (H3.out _ V4.out).mono ?_
  rintro e w5 ⟨⟨vo, rfl, hOo⟩, hb5⟩
  have B5 := (show Hid _ from hb5)
  obtain ⟨Ao, co, rfl, _⟩ := own_rdn hOo rfl
  have OO := (show Hid _ from hOo)
  clear hb5 hOo V4 H3
  go_wp2_with fail
  refine (H5.out _).mono ?_
  rintro e w6 ⟨⟨vq, rfl, hOq⟩, hb6⟩
  have B6 := (show Hid _ from hb6)
  obtain ⟨Aq, cq, rfl, _⟩ := own_rdn hOq rfl
  have OQ := (show Hid _ from hOq)
  clear hb6 hOq H5
  have HSm := (show Hid (∀ s ∈ ss, s.length ≤ 1000000) from fun s hs => by have := H4.out s hs; omega)
  have C26 := (show Hid (Below w2.heap.size w2 w6) from B3.out.trans ((B4.out.trans ((B5.out.trans (B6.out.mono B5.out.size)).mono B4.out.size)).mono B3.out.size))
  have C36 := (show Hid (Below w3.heap.size w3 w6) from B4.out.trans ((B5.out.trans (B6.out.mono B5.out.size)).mono B4.out.size))
  have C46 := (show Hid (Below w4.heap.size w4 w6) from B5.out.trans (B6.out.mono B5.out.size))
  have C16 := (show Hid (Below w1.heap.size w1 w6) from B2.out.trans (C26.out.mono B2.out.size))
  go_wp2_with fail
  refine (same_any Ax Ay cx cy w.heap.size w2.heap.size ss xx xy (by omega) HSm.out w6 (RX.out.below C16.out) (RY.out.below C36.out)).mono ?_
  rintro e w7 ⟨rfl, hb7⟩
  have B7 := (show Hid _ from hb7)
  clear hb7
  go_wp2_with fail
  refine (samePattern_any Ap Aq cp cq L hL w7 (own_rdn' (own_below (own_below OP.out C46.out) B7.out)) (own_rdn' (own_below OQ.out B7.out))).mono ?_
  rintro e w8 ⟨rfl, hb8⟩
  have B68 := (show Hid (Below w6.heap.size w6 w8) from B7.out.trans (hb8.mono B7.out.size))
  clear hb8 B7
  have C68 := B68
  have C58 := (show Hid (Below w5.heap.size w5 w8) from B6.out.trans (B68.out.mono B6.out.size))
  have C48 := (show Hid (Below w4.heap.size w4 w8) from C46.out.trans (B68.out.mono C46.out.size))
  have C38 := (show Hid (Below w3.heap.size w3 w8) from C36.out.trans (B68.out.mono C36.out.size))
  have C28 := (show Hid (Below w2.heap.size w2 w8) from C26.out.trans (B68.out.mono C26.out.size))
  have C18 := (show Hid (Below w1.heap.size w1 w8) from C16.out.trans (B68.out.mono C16.out.size))
  have R8 := (show Hid (RR w8 w.heap.size (.slice Ax ss.length cx) ss xx) from RX.out.below C18.out)
  have U8 := (show Hid (Under w1.heap.size (.slice Ax ss.length cx) xx) from RX.out.under)
  clear B68 C16 C26 C36 C46 RX
  have HG := (show Hid (∀ k, k < ss.length → ∃ r, ss[k]? = some r ∧ r.length ≤ 4) from fun k hk => ⟨_, List.getElem?_eq_getElem hk, H4.out _ (List.getElem_mem hk)⟩)
  have hsz8 := C18.out.size
  have hsz1 := B1.out.size
  go_wp2_with fail
  go_loopw [17] (fun t wr => ∃ (k : Nat) (xk : List Value), k ≤ ss.length ∧ t = .int .i64 k ∧ Hid (RR wr w.heap.size (.slice Ax ss.length cx) (spo ss k) xk) ∧ Hid (∀ (i : Nat) y b, xk[i]? = some y → y.ownBlock = some b → b < w1.heap.size ∨ w8.heap.size ≤ b) ∧ Hid (Fr w.heap.size w1.heap.size w8 wr)) (fun t _ => ss.length - (intOf t).toNat)
  case atStart => exact ⟨0, xx, by omega, by go_num, R8.out, fun i y b h1 h2 => .inl (U8.out.x i y b h1 h2), Fr.refl _ _ _⟩
  case round =>
    obtain ⟨k, xk, hk, rfl, HR, HF, HW⟩ := hrel
    by_cases hlt : k < ss.length
    · obtain ⟨s, hs, hs4⟩ := HG.out k hlt
      have hsk : (spo ss k)[k]? = some s := by rw [spo_get, if_neg (by omega)]; exact hs
      obtain ⟨g, cap, gx, cx2, hA, hg, hx, hcell, hgx, _⟩ := HR.out.get hsk
      rw [spo_len] at hA
      cases hA
      have hO := (HR.out.each k _ s hx hsk).1
      have hne := (HR.out.each k _ s hx hsk).2.2
      have HX := (show Hid _ from hx)
      have HSK := (show Hid _ from hsk)
      have z0 : (0 : Int) ≤ (k : Int) := by omega
      have z1 : (k : Int) < (ss.length : Int) := by omega
      have HCl := (show Hid (∀ (ob : Obj) (w3 : World), (wr.alloc ob).grownBy w3 (some gx) → w3.cell? ⟨g, k, none⟩ = some (.slice (some ⟨gx, 0, none⟩) s.length cx2)) from fun ob w3 hgr => by
        have e1 : w3.cell? ⟨g, k, none⟩ = (wr.alloc ob).cell? ⟨g, k, none⟩ := World.cell?_of_block (hgr.block g (by simp; omega) (fun e => hne e.symm))
        have e2 : (wr.alloc ob).cell? ⟨g, k, none⟩ = wr.cell? ⟨g, k, none⟩ := ((Below.refl _ wr).alloc (Nat.le_refl _) ob).cell (p := ⟨g, k, none⟩) hg
        rw [e1, e2]; exact hcell)
      clear hs hsk hx HG hne
      go_wp2_with (at_builtin; refine wpList_append_lies _ rfl _ _ 54 rfl w.heap.size 56 i0 _ 2 16 Tryd.underlying54 hinf hz0 hz1 hz2 rfl (by decide) _ _ (spc s) rfl (hO.alloc _) ⟨wr.heap.size, 0, none⟩ 1 1 [.int .i64 (-7 - (k : Int)), .int .i64 0] rfl rfl (World.news_of_block (cs := #[.int .i64 (-7 - (k : Int)), .int .i64 0]) (t := 56) (fr := (0, 0)) (heap_alloc_new wr _)) ?c2 (by decide) ?c3 ?c4 ?c5 (wr.heap.size + 1) (by simp) ?_)
      case c2 => simp [Value.oneCell']
      case c3 => unfold maxLen; omega
      case c4 => omega
      case c5 => have := HW.out.size; simp; omega
      intro g3 cap3 w3 hown hgrow hat hlt3
      have hc3 := HCl.out _ _ hgrow
      have hxl : xk.length = ss.length := by rw [HR.out.len, spo_len]
      have hgn : some g ≠ some gx := fun e => (HR.out.each k _ s HX.out HSK.out).2.2 e.symm
      have hOr := HR.out.o
      rw [hxl] at hOr
      have hOx := ((hOr.alloc (.cells #[.int .i64 (-7 - (k : Int)), .int .i64 0] 56)).kept hgrow (.inr hgn)).stored k (.slice (some ⟨g3, 0, none⟩) (s.length + 1) cap3)
      have hfz := ((hOr.alloc (.cells #[.int .i64 (-7 - (k : Int)), .int .i64 0] 56)).kept hgrow (.inr hgn)).frozenAt k
      have HR2 := (show Hid (RR (w3.setCell ⟨g, k, none⟩ (.slice (some ⟨g3, 0, none⟩) (s.length + 1) cap3)) w.heap.size (.slice (some ⟨g, 0, none⟩) ss.length cx) (spo ss (k + 1)) (xk.set k (.slice (some ⟨g3, 0, none⟩) (s.length + 1) cap3))) from (by
        have hh := HR.out
        rw [← hxl] at hh ⊢
        rw [spo, HSK.out]
        exact hh.spoil HX.out HSK.out hown hgrow hat))
      obtain ⟨gx', hgx', hgx1, hgx2⟩ := HR.out.lt HX.out
      cases hgx'
      have hfx := HF.out k _ gx HX.out rfl
      have HF2 := (show Hid (∀ (i : Nat) y b, (xk.set k (.slice (some ⟨g3, 0, none⟩) (s.length + 1) cap3))[i]? = some y → y.ownBlock = some b → b < w1.heap.size ∨ w8.heap.size ≤ b) from fun i y b hy hb => by
        by_cases q : i = k
        · subst q
          rw [List.getElem?_set_self (by omega)] at hy
          cases hy
          cases hb
          rcases hat with q2 | q2
          · cases q2; exact hfx
          · have := HW.out.size; right; show _ ≤ g3; omega
        · rw [List.getElem?_set_ne (Ne.symm q)] at hy
          exact HF.out i y b hy hb)
      have HW2 := (show Hid (Fr w.heap.size w1.heap.size w8 (w3.setCell ⟨g, k, none⟩ (.slice (some ⟨g3, 0, none⟩) (s.length + 1) cap3))) from
        (HW.out.grown ((World.grownBy_alloc wr _ _).trans hgrow) (fun j e => by cases e; rcases hfx with q | q
                                                                                · exact .inl ⟨hgx1, q⟩
                                                                                · exact .inr q)).grown hOx.2 (fun j e => by cases e; exact .inl ⟨(HR.out.o.lt g rfl).1, U8.out.v g rfl⟩))
      clear hOr hOx hown hgrow hat hlt3 hO HX HSK HCl HR HF HW hcell hfx hgx1 hgx2 hxl
      go_wp2
      go_roundw
      case rel => exact ⟨k + 1, _, by omega, by go_num, HR2, HF2, HW2⟩
      case measure => simp [intOf]; omega
    · obtain rfl : k = ss.length := by omega
      clear U8 R8 HF
      obtain ⟨wL, rfl⟩ : ∃ W, W = wr := ⟨wr, rfl⟩
      have hsw := HW.out.size
      have HY := (show Hid (∀ W, Below wL.heap.size wL W → RR W w2.heap.size (.slice Ay ss.length cy) ss xy) from fun W hb => RY.out.keepF (fun j q1 q2 => ((hb.block j (by have := C38.out.size; omega)).trans (HW.out.block j (by have := C38.out.size; omega) (.inr (by have := B2.out.size; omega)))).trans (C38.out.block j q2)))
      go_wp2_with fail
      go_loopw [18] (fun t wr => ∃ (k : Nat), k ≤ ss.length ∧ t = .int .i64 k ∧ Hid (Below wL.heap.size wL wr)) (fun t _ => ss.length - (intOf t).toNat)
      case atStart => exact ⟨0, by omega, by go_num, Below.refl _ _⟩
      case round =>
        obtain ⟨k, hk2, rfl, HT⟩ := hrel
        by_cases hlt2 : k < ss.length
        · obtain ⟨s, hs, hs4⟩ := HG.out k hlt2
          have hsk : (spo ss ss.length)[k]? = some (s ++ [(-7 - (k : Int), 0)]) := by rw [spo_get, if_pos hlt2, hs]; rfl
          obtain ⟨g1, cap1, gx1, cx1, hA1, hl1, hx1', hc1, hx1, hp1⟩ := (HR.out.below HT.out).get hsk
          have hcap := HR.out.cap hx1' hsk
          rw [spo_len] at hA1
          cases hA1
          obtain ⟨g2, cap2, gx2, cx2, hA2, hl2, _, hc2, hx2, hp2⟩ := (HY.out wr HT.out).get hs
          cases hA2
          rw [List.length_append] at hc1 hcap
          replace hc1 : wr.cell? ⟨g1, k, none⟩ = some (.slice (some ⟨gx1, 0, none⟩) (s.length + 1) cx1) := hc1
          replace hcap : s.length + 1 ≤ cx1 := hcap
          have hpp : SpL wr gx1 0 s := fun j p hj => hp1 j p (by rw [List.getElem?_append_left (by
            by_cases q : j < s.length
            · exact q
            · rw [List.getElem?_eq_none (by omega)] at hj; cases hj)]; exact hj)
          have hend := (hp1 s.length (-7 - (k : Int), 0) (by rw [List.getElem?_append_right (Nat.le_refl _), Nat.sub_self]; rfl)).1
          rw [Nat.zero_add] at hend
          dsimp only at hend
          have HS : Hid (∀ W, Below wr.heap.size wr W → Calls Tryd.prog 28 #[.slice (some ⟨gx1, 0, none⟩) s.length cx1, .slice (some ⟨gx2, 0, none⟩) s.length cx2] W fun e w' => e = .returned (.bool true) ∧ Below W.heap.size W w') := fun W hb => sameSpans_any gx1 gx2 cx1 cx2 s (by omega) W (Nat.lt_of_lt_of_le hx1 hb.size) (Nat.lt_of_lt_of_le hx2 hb.size) (spl_below hpp hb hx1) (spl_below hp2 hb hx2)
          have HK := (show Hid (∀ W, Below wr.heap.size wr W → W.cell? ⟨g1, k, none⟩ = some (.slice (some ⟨gx1, 0, none⟩) (s.length + 1) cx1) ∧ W.cell? ⟨g2, k, none⟩ = some (.slice (some ⟨gx2, 0, none⟩) s.length cx2) ∧ W.cell? ⟨gx1, s.length * 2, none⟩ = some (.int .i64 (-7 - (k : Int)))) from fun W hb => ⟨(hb.cell (p := ⟨g1, k, none⟩) hl1).trans hc1, (hb.cell (p := ⟨g2, k, none⟩) hl2).trans hc2, (hb.cell (p := ⟨gx1, s.length * 2, none⟩) hx1).trans hend⟩)
          have z0 : (0 : Int) ≤ (k : Int) := by omega
          have z1 : (k : Int) < (ss.length : Int) := by omega
          have z2 : (k : Int) ≤ 1114112 := by omega
          have qw : IntKind.i64.wrap (-7 - (k : Int)) = -7 - (k : Int) := by rw [IntKind.wrap_i64]; omega
          have z3 : (0 : Int) ≤ (s.length : Int) := by omega
          have z4 : (s.length : Int) ≤ (cx1 : Int) := by omega
          have z5 : (s.length : Int) < ((s.length + 1 : Nat) : Int) := by omega
          have z6 : (s.length : Int) < (s.length : Int) + 1 := by omega
          clear hs hsk HG HR HY hp1 hp2 hpp hx1'
          generalize ss.length = n at *
          generalize s.length = m at *
          go_wp2_with fail
          go_region_held3 (fun W => W.cell? ⟨g1, k, none⟩ = some (.slice (some ⟨gx1, 0, none⟩) (m + 1) cx1) ∧ W.cell? ⟨g2, k, none⟩ = some (.slice (some ⟨gx2, 0, none⟩) m cx2) ∧ W.cell? ⟨gx1, m * 2, none⟩ = some (.int .i64 (-7 - (k : Int))))
            (first | go_keep | exact HK.out _ (drew_in hbA))
            ((go_at_call 28; with_reducible refine (HS.out _ ((Below.refl _ _).drew)).mono ?_; rintro e wA ⟨rfl, hbA⟩))
          all_goals
            have HT2 := (show Hid (Below wL.heap.size wL wA) from HT.out.trans ((drew_in hbA).mono HT.out.size))
            clear hbA HT HK HS hc1 hc2 hend
            go_wp2
            go_roundw
            case rel => exact ⟨k + 1, by omega, by go_num, HT2⟩
            case measure => simp [intOf]; omega
        · obtain rfl : k = ss.length := by omega
          have FW := (show Hid (Fr w.heap.size w1.heap.size w8 wr) from HW.out.below HT.out)
          clear HR HG HY HW HT
          have s1 := B1.out.size
          have s2 := B2.out.size
          have s3 := B3.out.size
          have s4 := B4.out.size
          have s5 := B5.out.size
          have s6 := B6.out.size
          have s8 := C68.out.size
          have s9 := FW.out.size
          have OP9 := (show Hid (wr.ownsRow w3.heap.size 80 7 (.slice Ap L.length cp) L.length (ndc L)) from own_keepF OP.out (fun j q1 q2 => (FW.out.block j (by omega) (.inr (by omega))).trans (C48.out.block j q2)))
          have PB := (show Hid (∀ j, (Value.slice Ap L.length cp).ownBlock = some j → w3.heap.size ≤ j ∧ j < w4.heap.size) from fun j e => World.ownsRow.lt OP.out j e)
          have HP : Hid (Calls Tryd.prog 29 #[.slice Ap L.length cp, .int .i64 (-7)] wr fun e w' => (∃ u, e = .returned u) ∧ wr.grownBy w' (Value.slice Ap L.length cp).ownBlock) := (show Hid _ from spoilPattern_any (.slice Ap L.length cp) L.length w3.heap.size (ndc L) wr OP9.out (by omega) hL)
          have BW := (show Hid (Below w.heap.size w wr) from ⟨(FW.out.os.trans C18.out.os).trans B1.out.os, (FW.out.tape.trans C18.out.tape).trans B1.out.tape, (FW.out.output.trans C18.out.output).trans B1.out.output, by omega, fun j q => ((FW.out.block j (by omega) (.inl q)).trans (C18.out.block j (by omega))).trans (B1.out.block j q)⟩)
          have KA := (show Hid (∀ j, w1.heap.size ≤ j → j < w2.heap.size → wr.heap[j]? = w2.heap[j]?) from fun j q1 q2 => (FW.out.block j (by omega) (.inr q1)).trans (C28.out.block j q2))
          have KY := (show Hid (∀ j, w2.heap.size ≤ j → j < w3.heap.size → wr.heap[j]? = w3.heap[j]?) from fun j q1 q2 => (FW.out.block j (by omega) (.inr (by omega))).trans (C38.out.block j q2))
          have KO := (show Hid (∀ j, w4.heap.size ≤ j → j < w5.heap.size → wr.heap[j]? = w5.heap[j]?) from fun j q1 q2 => (FW.out.block j (by omega) (.inr (by omega))).trans (C58.out.block j q2))
          have KQ := (show Hid (∀ j, w5.heap.size ≤ j → j < w6.heap.size → wr.heap[j]? = w6.heap[j]?) from fun j q1 q2 => (FW.out.block j (by omega) (.inr (by omega))).trans (C68.out.block j q2))
          clear OP9 OP FW C18 C28 C38 C48 C58 C68
          go_wp2_with fail
          refine HP.out.mono ?_
          rintro e w9 ⟨⟨u, rfl⟩, hg9⟩
          have BW9 := (show Hid (Below w.heap.size w w9) from BW.out.grown hg9 (by omega) (fun j e => by have := PB.out j e; omega))
          have KA9 := (show Hid (RR w9 w1.heap.size (.slice Aa ss.length ca) ss xa) from RA.out.keepF (fun j q1 q2 => (hg9.block j (by omega) (fun e => by have := PB.out j e.symm; omega)).trans (KA.out j q1 q2)))
          have KY9 := (show Hid (RR w9 w2.heap.size (.slice Ay ss.length cy) ss xy) from RY.out.keepF (fun j q1 q2 => (hg9.block j (by omega) (fun e => by have := PB.out j e.symm; omega)).trans (KY.out j q1 q2)))
          have KO9 := (show Hid (w9.ownsRow w4.heap.size 80 7 (.slice Ao L.length co) L.length (ndc L)) from own_keepF OO.out (fun j q1 q2 => (hg9.block j (by omega) (fun e => by have := PB.out j e.symm; omega)).trans (KO.out j q1 q2)))
          have KQ9 := (show Hid (w9.ownsRow w5.heap.size 80 7 (.slice Aq L.length cq) L.length (ndc L)) from own_keepF OQ.out (fun j q1 q2 => (hg9.block j (by omega) (fun e => by have := PB.out j e.symm; omega)).trans (KQ.out j q1 q2)))
          have V9 := (show Hid (VB w9) from HV.out.below BW9.out HLt.out)
          clear hg9 KA KY KO KQ BW PB HP
          go_wp2_with fail
          refine (same_any Aa Ay ca cy w1.heap.size w2.heap.size ss xa xy (by omega) HSm.out w9 KA9.out KY9.out).mono ?_
          rintro e w10 ⟨rfl, hb10⟩
          have B10 := (show Hid _ from hb10)
          clear hb10 KA9 KY9
          go_wp2_with fail
          refine (samePattern_any Ao Aq co cq L hL w10 (own_rdn' (own_below KO9.out B10.out)) (own_rdn' (own_below KQ9.out B10.out))).mono ?_
          rintro e w11 ⟨rfl, hb11⟩
          have B11 := (show Hid (Below w9.heap.size w9 w11) from B10.out.trans (hb11.mono B10.out.size))
          have V11 := (show Hid (VB w11) from V9.out.below B11.out V9.out.lt)
          clear hb11 B10 V9 KO9 KQ9
          go_wp2_with fail
          refine (works_any w11 V11.out).mono ?_
          rintro e w12 ⟨rfl, hb12⟩
          have B12 := (show Hid (Below w.heap.size w w12) from BW9.out.trans ((B11.out.trans (hb12.mono B11.out.size)).mono BW9.out.size))
          clear hb12 B11 BW9 V11
          go_wp2
          go_ret
          exact ⟨rfl, B12.out⟩

theorem shapes_law (lo hi : Int) (w : World) (hv : VB w) : Calls Tryd.prog 5 #[.int .i64 lo, .int .i64 hi] w fun e w' => e = .returned (.bool true) ∧ Below w.heap.size w w' := by
  obtain ⟨ss, cd, L, h1, h2, h3, h4, h5⟩ := sh_uni lo hi
  exact shapes_gen lo hi ss cd L h1 h2 h3 w hv (fun w hv => (shapes_any lo hi w hv).mono fun e w' ⟨a, b⟩ => ⟨h4 _ _ _ a, b⟩) (fun w => (shapesR_any lo hi w).mono fun e w' ⟨a, b⟩ => ⟨h4 _ _ _ a, b⟩)
    (fun w hv => (pattern_any lo hi w hv).mono fun e w' ⟨a, b⟩ => ⟨h5 _ _ _ a, b⟩) (fun w => (patternR_any lo hi w).mono fun e w' ⟨a, b⟩ => ⟨h5 _ _ _ a, b⟩)
end Go.Proofs.YtiillgahnbimjaaDoor
