/- DERIVED. Walks: Pattern, by the document. -/
import Derived.Test.YtiillgahnbimjaaDoorPnB
import Derived.Test.YtiillgahnbimjaaDoorRsA
namespace Go.Proofs.YtiillgahnbimjaaDoor
open Go.RowKit

theorem ch1 {w1 wr wA : World} (h : Below w1.heap.size w1 wr) (hb : Below wr.drew.heap.size wr.drew wA) : Below w1.heap.size w1 wA := h.trans ((drew_in hb).mono h.size)
theorem ch2 {w1 wr wA : World} (h : Below w1.heap.size w1 wr) (hb : Below wr.drew.heap.size wr.drew wA) (o : Obj) : Below w1.heap.size w1 (wA.alloc o) := (ch1 h hb).alloc (ch1 h hb).size o
theorem ch3 {w1 wr wA w3 : World} {row : Option Nat} {o : Obj} (h : Below w1.heap.size w1 wr) (hb : Below wr.drew.heap.size wr.drew wA) (hg : (wA.alloc o).grownBy w3 row) (hr : ∀ j, row = some j → w1.heap.size ≤ j) : Below w1.heap.size w1 w3 := (ch2 h hb o).grown hg (ch2 h hb o).size hr
theorem AtN.far {w1 wr : World} {v' : Value} {L : List Nd} (h : AtN w1 wr w1.heap.size (.slice none 0 0) v' L) : ∀ j, v'.ownBlock = some j → w1.heap.size ≤ j := fun j e => by
  rcases h.k j e with q | q
  · cases q
  · exact q

set_option maxRecDepth 100000 in
set_option maxHeartbeats 8000000 in
theorem patternR_any (lo hi : Int) (w : World) : Calls Tryd.prog 25 #[.int .i64 lo, .int .i64 hi] w fun e w' => PnV w w' lo hi e ∧ Below w.heap.size w w' := by
  obtain ⟨i0, hinf, hz0, hz1, hz2⟩ := info_parts Tryd.info80
  have HS : Hid (Calls Tryd.prog 23 #[.int .i64 lo, .int .i64 hi] w fun e w' => ShV w w' lo hi e ∧ Below w.heap.size w w') := shapesR_any lo hi w
  have HO := (show Hid _ from shAll_ord lo hi)
  have HLn := (show Hid _ from shTo_len lo hi 5)
  rw [shTo_all] at HLn
  go_enter Tryd.func25, Tryd.ntmps25
  go_wp2_with fail
  refine HS.out.mono ?_
  rintro e w1 ⟨hsh, hb1⟩
  have HB1 := (show Hid _ from hb1)
  clear hb1 HS
  rcases hsh.err with ⟨c, rfl, hc, hP⟩ | ⟨⟨sv', xs, rfl, hR⟩, hP⟩
  · have HP := (show Hid _ from hP)
    have ec : (c != 0) = true := bne_iff_ne.2 hc
    clear hsh hP hc
    go_wp2
    go_ret2
    exact ⟨HP.out _ _ _ rfl, HB1.out⟩
  · have HP := (show Hid _ from hP)
    have HR := (show Hid _ from hR)
    clear hsh hP
    generalize shAll lo hi = ss at *
    have hlx := hR.len
    obtain ⟨A, cs, rfl⟩ : ∃ A cs, sv' = .slice A ss.length cs := by
      rcases hR.o.2 with ⟨rfl, h0⟩ | ⟨g, cap, cur, rfl, _⟩
      · exact ⟨none, 0, by rw [← hlx, h0]⟩
      · exact ⟨_, _, by rw [hlx]⟩
    clear hR hlx
    by_cases hn : ss.length = 0
    · have HE := (show Hid (patN ss = [(2, 0#256)]) from (by show _ = _; unfold patN; rw [if_pos hn]))
      have e0 : ((ss.length : Int) == 0) = true := by rw [hn]; rfl
      have HN := (show Hid _ from own_node w1 2)
      have HB2 := (show Hid (Below w.heap.size w (w1.alloc (.cells (ndZ 2) 80))) from HB1.out.alloc HB1.out.size _)
      have hz1' := HB1.out.size
      clear HO HR HLn hn
      generalize ss.length = m at *
      go_wp2
      go_ret2
      exact ⟨HP.out _ _ _ ⟨_, rfl, by rw [HE.out]; exact own_base HN.out hz1'⟩, HB2.out⟩
    · have HE := (show Hid (patN ss = ptTo ss ss.length) from (by show _ = _; unfold patN; rw [if_neg hn]))
      have e0 : ((ss.length : Int) == 0) = false := beq_eq_false_iff_ne.2 (by omega)
      have HG := (show Hid (∀ k, k < ss.length → ∃ s, ss[k]? = some s) from fun k hk => ⟨_, List.getElem?_eq_getElem hk⟩)
      have HPl := (show Hid (∀ k, (ptTo ss k).length ≤ 9 * k) from fun k => ptTo_len ss k fun s hs => (HO.out s hs).2.2)
      clear hn
      go_wp2_with fail
      go_loopw [8, 9] (fun u t wr => ∃ k : Nat, k ≤ ss.length ∧ t = .int .i64 k ∧ Hid (AtN w1 wr w1.heap.size (.slice none 0 0) u (ptTo ss k))) (fun _ t _ => ss.length - (intOf t).toNat)
      case atStart => exact ⟨0, by omega, by go_num, ⟨World.ownsRow_nil _ _ _ _, World.grownBy.refl _ _, fun k e => .inl e⟩⟩
      case round =>
        obtain ⟨i, hi', rfl, HW⟩ := hrel
        by_cases hlt : i < ss.length
        · obtain ⟨s, hs⟩ := HG.out i hlt
          obtain ⟨g, cap, gx, cx, hA, hgl, _, hcell, hgx, hspl⟩ := HR.out.get hs
          cases hA
          have HI := (show Hid (ptTo ss (i + 1) = (ptTo ss i ++ ndTo s s.length) ++ (if 0 < i then [(8, 0#256)] else [])) from (by show _ = _; rw [ptTo_succ]; unfold ptI; rw [hs, List.append_assoc]))
          obtain ⟨ho1, ho2, ho3⟩ := HO.out s (List.mem_of_getElem? hs)
          have hplk := HPl.out i
          have hln := HLn.out
          have z0 : (0 : Int) ≤ (i : Int) := by omega
          have z1 : (i : Int) < (ss.length : Int) := by omega
          have z9 : (ss.length : Int) ≤ 1114112 := by omega
          have HC0 := (show Hid (∀ W, Below w1.heap.size w1 W → W.cell? ⟨g, i, none⟩ = some (.slice (some ⟨gx, 0, none⟩) s.length cx)) from fun W hb => (hb.cell (p := ⟨g, i, none⟩) hgl).trans hcell)
          have HC1 := (show Hid (∀ W, Below w1.heap.size w1 W → SpL W gx 0 s) from fun W hb j p hp => ⟨(hb.cell (p := ⟨gx, 0 + j * 2, none⟩) hgx).trans (hspl j p hp).1, (hb.cell (p := ⟨gx, 0 + j * 2 + 1, none⟩) hgx).trans (hspl j p hp).2⟩)
          have HGs := (show Hid (∀ k, k < s.length → ∃ p, s[k]? = some p ∧ 0 ≤ p.1 ∧ p.1 ≤ p.2 ∧ p.2 ≤ 255) from fun k hk => ⟨_, List.getElem?_eq_getElem hk, ho1 _ (List.getElem_mem hk)⟩)
          have HN := (show Hid (∀ k p, s[k]? = some p → ndTo s (k + 1) = ndTo s k ++ ((5, spn p.1 p.2) :: (if 0 < k then [(7, 0#256)] else []))) from fun k p hp => by rw [ndTo_succ]; unfold ndI; rw [hp])
          have HNl := (show Hid (∀ k, (ndTo s k).length ≤ 2 * k) from fun k => ndTo_len s k)
          clear hcell hspl ho1 ho2 hs
          generalize hP0 : ptTo ss i = P0 at *
          have hP0l : P0.length ≤ 10027008 := by omega
          clear hP0 hplk hln
          have e00 : P0 ++ ndTo s 0 = P0 := (by unfold ndTo; simp)
          have HW0 := (show Hid (AtN w1 wr w1.heap.size (.slice none 0 0) u8 (P0 ++ ndTo s 0)) from (by rw [e00]; exact HW))
          clear e00
          clear HW
          go_wp2_with fail
          go_loopw [8, 10] (fun u t wr2 => ∃ k : Nat, k ≤ s.length ∧ t = .int .i64 k ∧ Hid (AtN w1 wr2 w1.heap.size (.slice none 0 0) u (P0 ++ ndTo s k))) (fun _ t _ => s.length - (intOf t).toNat)
          case atStart => exact ⟨0, by omega, by go_num, HW0⟩
          case round =>
            obtain ⟨k, hk, rfl, HW⟩ := hrel
            clear HW0
            have HBw := (show Hid (Below w1.heap.size w1 wr) from grown_below HW.out.g)
            have c0 := HC0.out wr HBw.out
            by_cases hltk : k < s.length
            · obtain ⟨⟨p1, p2⟩, hp, b0, b1, b2⟩ := HGs.out k hltk
              dsimp only at b0 b1 b2
              obtain ⟨c1, c2⟩ := HC1.out wr HBw.out k _ hp
              dsimp only at c1 c2
              rw [Nat.zero_add] at c1 c2
              have HN1 := (show Hid _ from HN.out k _ hp)
              have HF : Hid (∀ w, Calls Tryd.prog 42 #[.int .i64 p1, .int .i64 p2] w fun e w' => e = .returned (sv (spn p1 p2)) ∧ Below w.heap.size w w') := fun w => fromTo_any p1 p2 w b0 b1 b2
              have HSK := (show Hid (∀ W, Below w1.heap.size w1 W → W.cell? ⟨g, i, none⟩ = some (.slice (some ⟨gx, 0, none⟩) s.length cx) ∧ W.cell? ⟨gx, k * 2, none⟩ = some (.int .i64 p1) ∧ W.cell? ⟨gx, k * 2 + 1, none⟩ = some (.int .i64 p2)) from fun W hb => by
                have e := HC1.out W hb k _ hp
                rw [Nat.zero_add] at e
                exact ⟨HC0.out W hb, e.1, e.2⟩)
              have hnl := HNl.out k
              have y0 : (0 : Int) ≤ (k : Int) := by omega
              have y1 : (k : Int) < (s.length : Int) := by omega
              have y9 : (s.length : Int) ≤ 4 := by omega
              dsimp only at HN1
              have hMl : (P0 ++ ndTo s k).length ≤ 20000000 := by rw [List.length_append]; omega
              generalize hM : P0 ++ ndTo s k = M at *
              have HM := (show Hid _ from hM)
              have HFar := (show Hid _ from HW.out.far)
              have hO := HW.out.o
              have hszw := HBw.out.size
              clear hM hp hnl
              generalize spn p1 p2 = x at *
              go_wp2_with fail
              go_region_held3 (fun w' => w'.cell? ⟨g, i, none⟩ = some (.slice (some ⟨gx, 0, none⟩) s.length cx) ∧ w'.cell? ⟨gx, k * 2, none⟩ = some (.int .i64 p1) ∧ w'.cell? ⟨gx, k * 2 + 1, none⟩ = some (.int .i64 p2))
                (first | go_keep | exact HSK.out _ (ch1 HBw.out hbA) | exact HSK.out _ (ch2 HBw.out hbA _) | exact HSK.out _ (ch3 HBw.out hbA hgrow HFar.out))
                (first | (go_at_call 42; with_reducible refine (HF.out _).mono ?_; rintro e wA ⟨rfl, hbA⟩) | (refine step_append_lies _ (by rfl) _ _ _ (by rfl) w1.heap.size 80 i0 _ 7 64 Tryd.underlying47 hinf hz0 hz1 hz2 rfl (by omega) _ M.length (ndc M) (by rfl) ((own_below hO (drew_in hbA)).alloc _) ⟨wA.heap.size, 0, none⟩ 1 1 (ndV (5, x)) (by rfl) (by rfl) (news_one wA (ndA 5 x)) (nd_one _) (by omega) (by unfold maxLen; omega) (by omega) (by simp; exact Nat.le_succ_of_le (ch1 HBw.out hbA).size) (wA.heap.size + 1) (by simp) ?_; intro g3 cap3 w3 hown hgrow hat hlt3))
              all_goals
                have HW3 := (show Hid (AtN w1 w3 w1.heap.size (.slice none 0 0) (.slice (some ⟨g3, 0, none⟩) (M.length + 1) cap3) (M ++ [(5, x)])) from (HW.out.below (drew_in hbA)).push hown hgrow hat)
                have hsz3 : w1.heap.size ≤ w3.heap.size := (grown_below HW3.out.g).size
                clear hown hgrow hat hO HW hbA HBw HFar HSK c0 c1 c2
                by_cases hk0 : 0 < k
                · have z2 : (0 : Int) < (k : Int) := by omega
                  have hO3 := HW3.out.o
                  have HN2 := (show Hid (P0 ++ ndTo s (k + 1) = (M ++ [(5, x)]) ++ [(7, 0#256)]) from (by show _ = _; rw [HN1.out, if_pos hk0, ← HM.out]; simp))
                  go_wp2_with (at_builtin; refine wpList_append_lies _ rfl _ _ 47 rfl w1.heap.size 80 i0 (.agg #[.int .i64 0, .int .i64 0, .string ⟨#[]⟩, .int .u64 0, .int .u64 0, .int .u64 0, .int .u64 0]) 7 64 Tryd.underlying47 hinf hz0 hz1 hz2 rfl (by decide) _ _ _ rfl (hO3.alloc _) ⟨w3.heap.size, 0, none⟩ 1 1 (ndZ 7).toList rfl rfl (news_one w3 (ndZ 7)) (by rw [ndZ_eq]; exact nd_one _) (by decide) ?c3 ?c4 ?c5 (w3.heap.size + 1) (by simp) ?_)
                  case c3 => first | (unfold maxLen; omega) | (simp; unfold maxLen; omega)
                  case c4 => first | omega | (simp; omega)
                  case c5 => simp; omega
                  intro g4 cap4 w4 hown hgrow hat hlt4
                  have HW4 := (show Hid (AtN w1 w4 w1.heap.size (.slice none 0 0) (.slice (some ⟨g4, 0, none⟩) (M.length + 1 + 1) cap4) (P0 ++ ndTo s (k + 1))) from (by
                    have e : (M ++ [(5, x)]).length = M.length + 1 := by simp
                    rw [HN2.out]
                    have hp := HW3.out.push (g := g4) (cap := cap4) (n := (7, 0#256)) (by rw [e, ← ndZ_eq]; exact hown) hgrow hat
                    rwa [e] at hp))
                  clear hown hgrow hat hO3 HW3
                  go_wp2
                  go_roundw
                  case rel => exact ⟨k + 1, by omega, by go_num, HW4⟩
                  case measure => simp [intOf]; omega
                · have hk00 : k = 0 := by omega
                  have HN2 := (show Hid (P0 ++ ndTo s (k + 1) = M ++ [(5, x)]) from (by show _ = _; rw [HN1.out, if_neg hk0, ← HM.out]; simp))
                  rw [← HN2.out] at HW3
                  subst hk00
                  go_wp2
                  go_roundw
                  case rel => exact ⟨0 + 1, by omega, by go_num, HW3⟩
                  case measure => simp [intOf]; omega
            · obtain rfl : k = s.length := by omega
              have hnl := HNl.out s.length
              have hMl : (P0 ++ ndTo s s.length).length ≤ 20000000 := by rw [List.length_append]; omega
              have hszw := HBw.out.size
              clear HGs HN HNl HC0 HC1 HBw hnl
              generalize hM : P0 ++ ndTo s s.length = M at *
              clear hM
              by_cases hi0 : 0 < i
              · have z2 : (0 : Int) < (i : Int) := by omega
                have hO3 := HW.out.o
                have HI2 := (show Hid (ptTo ss (i + 1) = M ++ [(8, 0#256)]) from (by show _ = _; rw [HI.out, if_pos hi0]))
                go_wp2_with (at_builtin; refine wpList_append_lies _ rfl _ _ 47 rfl w1.heap.size 80 i0 (.agg #[.int .i64 0, .int .i64 0, .string ⟨#[]⟩, .int .u64 0, .int .u64 0, .int .u64 0, .int .u64 0]) 7 64 Tryd.underlying47 hinf hz0 hz1 hz2 rfl (by decide) _ _ _ rfl (hO3.alloc _) ⟨wr.heap.size, 0, none⟩ 1 1 (ndZ 8).toList rfl rfl (news_one wr (ndZ 8)) (by rw [ndZ_eq]; exact nd_one _) (by decide) ?c3 ?c4 ?c5 (wr.heap.size + 1) (by simp) ?_)
                case c3 => first | (unfold maxLen; omega) | (simp; unfold maxLen; omega)
                case c4 => first | omega | (simp; omega)
                case c5 => simp; omega
                intro g4 cap4 w4 hown hgrow hat hlt4
                have HW4 := (show Hid (AtN w1 w4 w1.heap.size (.slice none 0 0) (.slice (some ⟨g4, 0, none⟩) (M.length + 1) cap4) (ptTo ss (i + 1))) from (by
                  rw [HI2.out]
                  exact HW.out.push (n := (8, 0#256)) (by rw [← ndZ_eq]; exact hown) hgrow hat))
                clear hown hgrow hat hO3 HW
                go_wp2
                go_roundw
                case rel => exact ⟨i + 1, by omega, by go_num, HW4⟩
                case measure => simp [intOf]; omega
              · have hi00 : i = 0 := by omega
                have HI2 := (show Hid (ptTo ss (i + 1) = M) from (by show _ = _; rw [HI.out, if_neg hi0, List.append_nil]))
                rw [← HI2.out] at HW
                subst hi00
                go_wp2
                go_roundw
                case rel => exact ⟨0 + 1, by omega, by go_num, HW⟩
                case measure => simp [intOf]; omega
        · obtain rfl : i = ss.length := by omega
          have HB3 := (show Hid (Below w.heap.size w wr) from HB1.out.trans ((grown_below HW.out.g).mono HB1.out.size))
          have hz := HB1.out.size
          rw [← HE.out] at HW
          clear HG HR HO HPl HE
          go_wp2
          go_ret2
          exact ⟨HP.out _ _ _ ⟨_, rfl, own_base HW.out.o hz⟩, HB3.out⟩
end Go.Proofs.YtiillgahnbimjaaDoor
