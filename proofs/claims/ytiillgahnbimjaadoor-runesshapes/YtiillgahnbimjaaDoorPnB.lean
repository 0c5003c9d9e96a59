/- DERIVED. Walks: Pattern, by the program. -/
import Derived.Test.YtiillgahnbimjaaDoorPnA
import Derived.Test.YtiillgahnbimjaaDoorPlI
namespace Go.Proofs.YtiillgahnbimjaaDoor
open Go.RowKit

/-- The pattern of a list of shapes. -/
def patN (ss : List Shape) : List Nd := if ss.length = 0 then [(2, 0#256)] else ptTo ss ss.length
/-- What Pattern answers. -/
def PnV (w w' : World) (lo hi : Int) (e : Ending) : Prop :=
  if bdB lo = true ∧ bdB hi = true then
    (if lo ≤ hi then ∃ v, e = .returned (.tuple #[v, .int .i64 0]) ∧ w'.ownsRow w.heap.size 80 7 v (patN (shAll lo hi)).length (ndc (patN (shAll lo hi))) else e = .returned (.tuple #[.slice none 0 0, .int .i64 1]))
  else e = .returned (.tuple #[.slice none 0 0, .int .i64 30])
theorem grown_below {w w' : World} (h : w.grownBy w' none) : Below w.heap.size w w' := ⟨h.os, h.tape, h.output, h.size, fun k hk => h.block k hk (by simp)⟩
theorem own_node (w : World) (op : Int) : (w.alloc (.cells (ndZ op) 80)).ownsRow w.heap.size 80 7 (.slice (some ⟨w.heap.size, 0, none⟩) 1 1) 1 (ndc [(op, 0#256)]) := by
  rw [ndc_one, ← ndZ_eq]
  exact ⟨rfl, .inr ⟨w.heap.size, 1, ndZ op, rfl, Nat.le_refl _, heap_alloc_new w _, Nat.le_refl _, by unfold maxLen; omega, rfl, rfl⟩⟩
theorem ShV.err {w w' : World} {lo hi : Int} {e : Ending} (h : ShV w w' lo hi e) : (∃ c, e = .returned (.tuple #[.slice none 0 0, .int .i64 c]) ∧ c ≠ 0 ∧ ∀ w2 w3 e2, e2 = .returned (.tuple #[.slice none 0 0, .int .i64 c]) → PnV w2 w3 lo hi e2) ∨
    ((∃ v xs, e = .returned (.tuple #[v, .int .i64 0]) ∧ RR w' w.heap.size v (shAll lo hi) xs) ∧ ∀ w2 w3 e2, (∃ v, e2 = .returned (.tuple #[v, .int .i64 0]) ∧ w3.ownsRow w2.heap.size 80 7 v (patN (shAll lo hi)).length (ndc (patN (shAll lo hi)))) → PnV w2 w3 lo hi e2) := by
  unfold ShV at h
  split at h
  · next q =>
    split at h
    · next q2 => exact .inr ⟨h, fun _ _ _ h2 => by unfold PnV; rw [if_pos q, if_pos q2]; exact h2⟩
    · next q2 => exact .inl ⟨1, h, by omega, fun _ _ _ h2 => by unfold PnV; rw [if_pos q, if_neg q2]; exact h2⟩
  · next q => exact .inl ⟨30, h, by omega, fun _ _ _ h2 => by unfold PnV; rw [if_neg q]; exact h2⟩

set_option maxRecDepth 100000 in
set_option maxHeartbeats 8000000 in
theorem pattern_any (lo hi : Int) (w : World) (hv : VB w) : Calls Tryd.prog 24 #[.int .i64 lo, .int .i64 hi] w fun e w' => PnV w w' lo hi e ∧ Below w.heap.size w w' := by
  obtain ⟨i0, hinf, hz0, hz1, hz2⟩ := info_parts Tryd.info80
  have HS : Hid (Calls Tryd.prog 22 #[.int .i64 lo, .int .i64 hi] w fun e w' => ShV w w' lo hi e ∧ Below w.heap.size w w') := shapes_any lo hi w hv
  have HO := (show Hid _ from shAll_ord lo hi)
  have HLn := (show Hid _ from shTo_len lo hi 5)
  rw [shTo_all] at HLn
  clear hv
  go_enter Tryd.func24, Tryd.ntmps24
  go_wp2_with fail
  refine HS.out.mono ?_
  rintro e w1 ⟨hsh, hb1⟩
  have HB1 := (show Hid _ from hb1)
  clear hb1 HS
  rcases hsh.err with ⟨c, rfl, hc, hP⟩ | ⟨⟨sv, xs, rfl, hR⟩, hP⟩
  · have HP := (show Hid _ from hP)
    have ec : (c != 0) = true := bne_iff_ne.2 hc
    clear hsh hP hc
    go_wp2
    go_ret2
    exact ⟨HP.out _ _ _ rfl, HB1.out⟩
  · have HP := (show Hid _ from hP)
    have HR := (show Hid _ from hR)
    clear hsh hP
    generalize shAll lo hi = ss at *
    have hlx := hR.len
    obtain ⟨A, cs, rfl⟩ : ∃ A cs, sv = .slice A ss.length cs := by
      rcases hR.o.2 with ⟨rfl, h0⟩ | ⟨g, cap, cur, rfl, _⟩
      · exact ⟨none, 0, by rw [← hlx, h0]⟩
      · exact ⟨_, _, by rw [hlx]⟩
    clear hR hlx
    by_cases hn : ss.length = 0
    · have HE := (show Hid (patN ss = [(2, 0#256)]) from (by show _ = _; unfold patN; rw [if_pos hn]))
      have e0 : ((ss.length : Int) == 0) = true := by rw [hn]; rfl
      have HN := (show Hid _ from own_node w1 2)
      have HB2 := (show Hid (Below w.heap.size w (w1.alloc (.cells (ndZ 2) 80))) from HB1.out.alloc HB1.out.size _)
      have hz1' := HB1.out.size
      clear HO HR HLn hn
      generalize ss.length = m at *
      go_wp2
      go_ret2
      exact ⟨HP.out _ _ _ ⟨_, rfl, by rw [HE.out]; exact own_base HN.out hz1'⟩, HB2.out⟩
    · have HE := (show Hid (patN ss = ptTo ss ss.length) from (by show _ = _; unfold patN; rw [if_neg hn]))
      have e0 : ((ss.length : Int) == 0) = false := beq_eq_false_iff_ne.2 (by omega)
      have HG := (show Hid (∀ k, k < ss.length → ∃ s, ss[k]? = some s) from fun k hk => ⟨_, List.getElem?_eq_getElem hk⟩)
      have HPl := (show Hid (∀ k, (ptTo ss k).length ≤ 9 * k) from fun k => ptTo_len ss k fun s hs => (HO.out s hs).2.2)
      clear hn
      go_wp2_with fail
      go_loopw [8, 27] (fun u t wr => ∃ k : Nat, k ≤ ss.length ∧ t = .int .i64 k ∧ Hid (AtN w1 wr w1.heap.size (.slice none 0 0) u (ptTo ss k))) (fun _ t _ => ss.length - (intOf t).toNat)
      case atStart => exact ⟨0, by omega, by go_num, ⟨World.ownsRow_nil _ _ _ _, World.grownBy.refl _ _, fun k e => .inl e⟩⟩
      case round =>
        obtain ⟨k, hk, rfl, HW⟩ := hrel
        by_cases hlt : k < ss.length
        · obtain ⟨s, hs⟩ := HG.out k hlt
          have HBw := (show Hid (Below w1.heap.size w1 wr) from grown_below HW.out.g)
          obtain ⟨g, cap, gx, cx, hA, hgl, _, hcell, hgx, hspl⟩ := (HR.out.below HBw.out).get hs
          cases hA
          have HI := (show Hid (ptTo ss (k + 1) = (ptTo ss k ++ ndTo s s.length) ++ (if 0 < k then [(8, 0#256)] else [])) from (by show _ = _; rw [ptTo_succ]; unfold ptI; rw [hs, List.append_assoc]))
          obtain ⟨ho1, _, ho3⟩ := HO.out s (List.mem_of_getElem? hs)
          have hplk := HPl.out k
          have hln := HLn.out
          obtain ⟨gx0, hgx0⟩ : ∃ q : Nat, gx < w1.heap.size := ⟨0, by
            obtain ⟨g', cap', gx', cx', hA', _, _, hc', hgx', _⟩ := HR.out.get hs
            cases hA'
            have e1 := HBw.out.cell (p := ⟨g, k, none⟩) (World.block_lt_of_cell? w1 _ hc')
            rw [hcell] at e1
            rw [hc'] at e1
            cases e1
            exact hgx'⟩
          have HAS : Hid (Calls Tryd.prog 41 #[u8, .slice (some ⟨gx, 0, none⟩) s.length cx] wr fun e w' => ∃ v', e = .returned v' ∧ AtN wr w' w1.heap.size u8 v' (ptTo ss k ++ ndTo s s.length)) := appendShape_any u8 (ptTo ss k) w1.heap.size gx cx s ho1 ho3 (by omega) wr HW.out.o HBw.out.size hspl hgx (fun e => by
            rcases HW.out.k gx e with q | q
            · cases q
            · omega)
          have z0 : (0 : Int) ≤ (k : Int) := by omega
          have z1 : (k : Int) < (ss.length : Int) := by omega
          have z9 : (ss.length : Int) ≤ 1114112 := by omega
          have hndl := ndTo_len s s.length
          have hLl : (ptTo ss k ++ ndTo s s.length).length ≤ 20000000 := by rw [List.length_append]; omega
          generalize hM : ptTo ss k ++ ndTo s s.length = M at *
          clear hM hplk hln hspl ho1 hndl
          go_wp2_with fail
          refine HAS.out.mono ?_
          rintro e w2 ⟨v2, rfl, hA2⟩
          have HW2 := (show Hid (AtN w1 w2 w1.heap.size (.slice none 0 0) v2 M) from ⟨hA2.o, HW.out.g.andThen hA2.g (fun j e => by
            rcases HW.out.k j e with q | q
            · cases q
            · exact .inl q), fun j e => by
              rcases hA2.k j e with q | q
              · exact HW.out.k j q
              · have := HBw.out.size; exact .inr (by omega)⟩)
          have hsz2 := hA2.g.size
          have hszw := HBw.out.size
          clear hA2 HAS HW HBw hcell
          by_cases hk0 : 0 < k
          · have z2 : (0 : Int) < (k : Int) := by omega
            have hO3 := HW2.out.o
            have HI2 := (show Hid (ptTo ss (k + 1) = M ++ [(8, 0#256)]) from (by show _ = _; rw [HI.out, if_pos hk0]))
            go_wp2_with (at_builtin; refine wpList_append_lies _ rfl _ _ 47 rfl w1.heap.size 80 i0 (.agg #[.int .i64 0, .int .i64 0, .string ⟨#[]⟩, .int .u64 0, .int .u64 0, .int .u64 0, .int .u64 0]) 7 64 Tryd.underlying47 hinf hz0 hz1 hz2 rfl (by decide) _ _ _ rfl (hO3.alloc _) ⟨w2.heap.size, 0, none⟩ 1 1 (ndZ 8).toList rfl rfl (news_one w2 (ndZ 8)) (by rw [ndZ_eq]; exact nd_one _) (by decide) ?c3 ?c4 ?c5 (w2.heap.size + 1) (by simp) ?_)
            case c3 => unfold maxLen; omega
            case c4 => omega
            case c5 => simp; omega
            intro g2 cap2 w4 hown hgrow hat hlt4
            have HW4 := (show Hid (AtN w1 w4 w1.heap.size (.slice none 0 0) (.slice (some ⟨g2, 0, none⟩) (M.length + 1) cap2) (ptTo ss (k + 1))) from (by
              rw [HI2.out]
              exact HW2.out.push (n := (8, 0#256)) (by rw [← ndZ_eq]; exact hown) hgrow hat))
            clear hown hgrow hat hO3 HW2
            go_wp2
            go_roundw
            case rel => exact ⟨k + 1, by omega, by go_num, HW4⟩
            case measure => simp [intOf]; omega
          · have hk00 : k = 0 := by omega
            have HI2 := (show Hid (ptTo ss (k + 1) = M) from (by show _ = _; rw [HI.out, if_neg hk0, List.append_nil]))
            rw [← HI2.out] at HW2
            subst hk00
            go_wp2
            go_roundw
            case rel => exact ⟨0 + 1, by omega, by go_num, HW2⟩
            case measure => simp [intOf]; omega
        · obtain rfl : k = ss.length := by omega
          have HB3 := (show Hid (Below w.heap.size w wr) from HB1.out.trans ((grown_below HW.out.g).mono HB1.out.size))
          have hz := HB1.out.size
          rw [← HE.out] at HW
          clear HG HR HO HPl HE
          go_wp2
          go_ret2
          exact ⟨HP.out _ _ _ ⟨_, rfl, own_base HW.out.o hz⟩, HB3.out⟩
end Go.Proofs.YtiillgahnbimjaaDoor
