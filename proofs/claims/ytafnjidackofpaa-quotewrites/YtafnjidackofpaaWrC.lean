/- DERIVED. Walks: digit, Quote, by the document. -/
import Derived.Test.YtafnjidackofpaaWrB
namespace Go.Proofs.Ytafnjidackofpaa
open Go.RowKit

set_option maxRecDepth 100000 in
set_option maxHeartbeats 1000000 in
theorem digit_any (m : Int) (h0 : 0 ≤ m) (h1 : m < 16) (w : World) :
    Calls Try.prog 29 #[.int .i64 m] w fun e w' => e = .returned (.int .u8 (hexD m)) ∧ w' = w := by
  by_cases h : m < 10
  · have HE : Hid (hexD m = 48 + m) := (by show hexD m = _; unfold hexD; rw [if_pos h])
    have q1 : IntKind.i64.wrap (48 + m) = 48 + m := by rw [IntKind.wrap_i64]; omega
    have q2 : IntKind.u8.wrap (48 + m) = 48 + m := by rw [IntKind.wrap_u8']; omega
    go_enter Try.func29, Try.ntmps29
    go_wp2
    go_ret
    exact ⟨by rw [HE.out]; rfl, rfl⟩
  · have HE : Hid (hexD m = 97 + m - 10) := (by show hexD m = _; unfold hexD; rw [if_neg h]; omega)
    have q1 : IntKind.i64.wrap (97 + m) = 97 + m := by rw [IntKind.wrap_i64]; omega
    have q2 : IntKind.i64.wrap (97 + m - 10) = 97 + m - 10 := by rw [IntKind.wrap_i64]; omega
    have q3 : IntKind.u8.wrap (97 + m - 10) = 97 + m - 10 := by rw [IntKind.wrap_u8']; omega
    go_enter Try.func29, Try.ntmps29
    go_wp2
    go_ret
    exact ⟨by rw [HE.out]; rfl, rfl⟩

theorem own_slice {w : World} {base e sz : Nat} {v : Value} {n : Nat} {xs : List Value} (h : w.ownsRow base e sz v n xs) : ∃ ao cap, v = .slice ao n cap := by
  rcases h.2 with ⟨rfl, rfl⟩ | ⟨g, cap, cur, rfl, _⟩
  · exact ⟨_, _, rfl⟩
  · exact ⟨_, _, rfl⟩

set_option maxRecDepth 100000 in
set_option maxHeartbeats 16000000 in
theorem quoteR_any (s : ByteArray) (w : World) :
    Calls Try.prog 10 #[.string s] w fun e w' => e = .returned (quV s) ∧ Below w.heap.size w w' := by
  obtain ⟨i0, hinf, hz0, hz1, hz2⟩ := info_parts Try.info5
  by_cases h : 65536 < s.size
  · have HE := (show Hid _ from quV_long (.inl h))
    have h1 : (65536 : Int) < (s.size : Int) := by omega
    go_enter Try.func10, Try.ntmps10
    go_wp2
    go_ret2
    exact ⟨by rw [HE.out]; rfl, Below.refl _ _⟩
  · have h1 : ¬ (65536 : Int) < (s.size : Int) := by omega
    have t1 : decide ((65536 : Int) < (s.size : Int)) = false := decide_eq_false (by omega)
    have HO := (show Hid _ from lit_own [39] (by simp) w)
    have HB := (show Hid _ from below1 w (.cells #[.int .u8 39] 5))
    go_enter Try.func10, Try.ntmps10
    go_wp2_with fail
    go_loopw [4, 5] (fun v t wr => ∃ k : Nat, k ≤ s.size ∧ t = .int .i64 k ∧ Hid (wr.ownsRow w.heap.size 5 1 v (qTo s k).length ((qTo s k).map (Value.int .u8)) ∧ Below w.heap.size w wr)) (fun _ t _ => s.size - (intOf t).toNat)
    case atStart => exact ⟨0, by omega, rfl, HO.out, HB.out⟩
    case round =>
      obtain ⟨k, hk, rfl, HI⟩ := hrel
      clear HO HB
      have hql := qTo_len s k
      obtain ⟨ao, cap, hv⟩ := own_slice HI.out.1
      subst hv
      by_cases hgo : k < s.size ∧ (qTo s k).length ≤ 65536
      · obtain ⟨hlt, hq⟩ := hgo
        have hqI : ((qTo s k).length : Int) ≤ 65536 := by omega
        clear hq
        have HQ := (show Hid _ from qTo_succ s k hlt)
        have hbb : (s[k].toNat : Int) ≤ 255 := by have := s[k].toNat_lt; omega
        have hwr := HI.out.2.size
        by_cases h10 : (s[k].toNat : Int) = 10
        · have HS := (show Hid (qTo s (k + 1) = qTo s k ++ [92, 110]) from (by show _ = _; rw [HQ.out]; unfold shB; rw [if_pos h10]))
          have e10 : ((s[k].toNat : Int) == 10) = true := beq_iff_eq.2 h10
          clear HQ  h10
          go_wp2_with (at_builtin; refine wpList_append_own _ rfl _ _ 44 rfl w.heap.size 5 i0 (.int .u8 0) 1 1 Try.underlying44 hinf hz0 hz1 hz2 rfl (by decide) _ _ _ rfl (HI.out.1.alloc _) ⟨wr.heap.size, 0, none⟩ 2 2 [.int .u8 92, .int .u8 110] rfl rfl ?c1 ?c2 ?c3 ?c4 ?c5 ?_)
          case c1 => exact (lit_own [92, 110] (by simp) wr).cells rfl
          case c2 => first | rfl | (intro u hu; simp at hu; rcases hu with rfl | rfl | rfl | rfl <;> rfl) | (intro u hu; simp at hu; rcases hu with rfl | rfl <;> rfl) | (intro u hu; simp at hu; subst hu; rfl)
          case c3 => unfold maxLen; omega
          case c4 => omega
          case c5 => first | omega | (simp; omega)
          intro v' w2 hown' hgrow _
          have hle := fun j e => (HI.out.1.lt j e).1
          have HI2 := (show Hid (w2.ownsRow w.heap.size 5 1 v' (qTo s (k + 1)).length ((qTo s (k + 1)).map (Value.int .u8)) ∧ Below w.heap.size w w2) from (by
            refine ⟨?_, (HI.out.2.alloc HI.out.2.size (.cells #[.int .u8 92, .int .u8 110] 5)).grown hgrow (by have := HI.out.2.size; simp; omega) (fun j e => hle j e)⟩
            rw [HS.out, List.length_append, List.map_append]
            exact hown'))
          clear hown' hgrow hle
          go_wp2
          go_roundw
          case rel => exact ⟨k + 1, by omega, by go_num, HI2⟩
          case measure => simp [intOf]; omega
        have e10 : ((s[k].toNat : Int) == 10) = false := beq_eq_false_iff_ne.2 h10
        by_cases h13 : (s[k].toNat : Int) = 13
        · have HS := (show Hid (qTo s (k + 1) = qTo s k ++ [92, 114]) from (by show _ = _; rw [HQ.out]; unfold shB; rw [if_neg h10, if_pos h13]))
          have e13 : ((s[k].toNat : Int) == 13) = true := beq_iff_eq.2 h13
          clear HQ h10 h13
          go_wp2_with (at_builtin; refine wpList_append_own _ rfl _ _ 44 rfl w.heap.size 5 i0 (.int .u8 0) 1 1 Try.underlying44 hinf hz0 hz1 hz2 rfl (by decide) _ _ _ rfl (HI.out.1.alloc _) ⟨wr.heap.size, 0, none⟩ 2 2 [.int .u8 92, .int .u8 114] rfl rfl ?c1 ?c2 ?c3 ?c4 ?c5 ?_)
          case c1 => exact (lit_own [92, 114] (by simp) wr).cells rfl
          case c2 => first | rfl | (intro u hu; simp at hu; rcases hu with rfl | rfl | rfl | rfl <;> rfl) | (intro u hu; simp at hu; rcases hu with rfl | rfl <;> rfl) | (intro u hu; simp at hu; subst hu; rfl)
          case c3 => unfold maxLen; omega
          case c4 => omega
          case c5 => first | omega | (simp; omega)
          intro v' w2 hown' hgrow _
          have hle := fun j e => (HI.out.1.lt j e).1
          have HI2 := (show Hid (w2.ownsRow w.heap.size 5 1 v' (qTo s (k + 1)).length ((qTo s (k + 1)).map (Value.int .u8)) ∧ Below w.heap.size w w2) from (by
            refine ⟨?_, (HI.out.2.alloc HI.out.2.size (.cells #[.int .u8 92, .int .u8 114] 5)).grown hgrow (by have := HI.out.2.size; simp; omega) (fun j e => hle j e)⟩
            rw [HS.out, List.length_append, List.map_append]
            exact hown'))
          clear hown' hgrow hle
          go_wp2
          go_roundw
          case rel => exact ⟨k + 1, by omega, by go_num, HI2⟩
          case measure => simp [intOf]; omega
        have e13 : ((s[k].toNat : Int) == 13) = false := beq_eq_false_iff_ne.2 h13
        by_cases h9 : (s[k].toNat : Int) = 9
        · have HS := (show Hid (qTo s (k + 1) = qTo s k ++ [92, 116]) from (by show _ = _; rw [HQ.out]; unfold shB; rw [if_neg h10, if_neg h13, if_pos h9]))
          have e9 : ((s[k].toNat : Int) == 9) = true := beq_iff_eq.2 h9
          clear HQ h10 h13 h9
          go_wp2_with (at_builtin; refine wpList_append_own _ rfl _ _ 44 rfl w.heap.size 5 i0 (.int .u8 0) 1 1 Try.underlying44 hinf hz0 hz1 hz2 rfl (by decide) _ _ _ rfl (HI.out.1.alloc _) ⟨wr.heap.size, 0, none⟩ 2 2 [.int .u8 92, .int .u8 116] rfl rfl ?c1 ?c2 ?c3 ?c4 ?c5 ?_)
          case c1 => exact (lit_own [92, 116] (by simp) wr).cells rfl
          case c2 => first | rfl | (intro u hu; simp at hu; rcases hu with rfl | rfl | rfl | rfl <;> rfl) | (intro u hu; simp at hu; rcases hu with rfl | rfl <;> rfl) | (intro u hu; simp at hu; subst hu; rfl)
          case c3 => unfold maxLen; omega
          case c4 => omega
          case c5 => first | omega | (simp; omega)
          intro v' w2 hown' hgrow _
          have hle := fun j e => (HI.out.1.lt j e).1
          have HI2 := (show Hid (w2.ownsRow w.heap.size 5 1 v' (qTo s (k + 1)).length ((qTo s (k + 1)).map (Value.int .u8)) ∧ Below w.heap.size w w2) from (by
            refine ⟨?_, (HI.out.2.alloc HI.out.2.size (.cells #[.int .u8 92, .int .u8 116] 5)).grown hgrow (by have := HI.out.2.size; simp; omega) (fun j e => hle j e)⟩
            rw [HS.out, List.length_append, List.map_append]
            exact hown'))
          clear hown' hgrow hle
          go_wp2
          go_roundw
          case rel => exact ⟨k + 1, by omega, by go_num, HI2⟩
          case measure => simp [intOf]; omega
        have e9 : ((s[k].toNat : Int) == 9) = false := beq_eq_false_iff_ne.2 h9
        by_cases hg : (s[k].toNat : Int) = 39 ∨ (s[k].toNat : Int) = 92
        · have HS := (show Hid (qTo s (k + 1) = qTo s k ++ [92, (s[k].toNat : Int)]) from (by show _ = _; rw [HQ.out]; unfold shB; rw [if_neg h10, if_neg h13, if_neg h9, if_pos hg]))
          have hg2 : ((s[k].toNat : Int) == 39) = true ∨ (((s[k].toNat : Int) == 39) = false ∧ ((s[k].toNat : Int) == 92) = true) := by
            rcases hg with h | h
            · exact .inl (beq_iff_eq.2 h)
            · exact .inr ⟨beq_eq_false_iff_ne.2 (by omega), beq_iff_eq.2 h⟩
          clear HQ h10 h13 h9 hg
          rcases hg2 with e39 | ⟨e39, e92⟩
          all_goals
            go_wp2_with (at_builtin; refine wpList_append_own _ rfl _ _ 44 rfl w.heap.size 5 i0 (.int .u8 0) 1 1 Try.underlying44 hinf hz0 hz1 hz2 rfl (by decide) _ _ _ rfl (HI.out.1.alloc _) ⟨wr.heap.size, 0, none⟩ 2 2 [.int .u8 92, .int .u8 (s[k].toNat : Int)] rfl rfl ?c1 ?c2 ?c3 ?c4 ?c5 ?_)
            case c1 => exact (lit_own [92, (s[k].toNat : Int)] (by simp) wr).cells rfl
            case c2 => first | rfl | (intro u hu; simp at hu; rcases hu with rfl | rfl | rfl | rfl <;> rfl) | (intro u hu; simp at hu; rcases hu with rfl | rfl <;> rfl) | (intro u hu; simp at hu; subst hu; rfl)
            case c3 => unfold maxLen; omega
            case c4 => omega
            case c5 => first | omega | (simp; omega)
            intro v' w2 hown' hgrow _
            have hle := fun j e => (HI.out.1.lt j e).1
            have HI2 := (show Hid (w2.ownsRow w.heap.size 5 1 v' (qTo s (k + 1)).length ((qTo s (k + 1)).map (Value.int .u8)) ∧ Below w.heap.size w w2) from (by
              refine ⟨?_, (HI.out.2.alloc HI.out.2.size (.cells #[.int .u8 92, .int .u8 (s[k].toNat : Int)] 5)).grown hgrow (by have := HI.out.2.size; simp; omega) (fun j e => hle j e)⟩
              rw [HS.out, List.length_append, List.map_append]
              exact hown'))
            clear hown' hgrow hle
            go_wp2
            go_roundw
            case rel => exact ⟨k + 1, by omega, by go_num, HI2⟩
            case measure => simp [intOf]; omega
        have e39 : ((s[k].toNat : Int) == 39) = false := beq_eq_false_iff_ne.2 (by omega)
        have e92 : ((s[k].toNat : Int) == 92) = false := beq_eq_false_iff_ne.2 (by omega)
        by_cases hp : 32 ≤ (s[k].toNat : Int) ∧ (s[k].toNat : Int) ≤ 126
        · have HS := (show Hid (qTo s (k + 1) = qTo s k ++ [(s[k].toNat : Int)]) from (by show _ = _; rw [HQ.out]; unfold shB; rw [if_neg h10, if_neg h13, if_neg h9, if_neg hg, if_pos hp]))
          obtain ⟨hp1, hp2⟩ := hp
          clear HQ h10 h13 h9 hg
          go_wp2_with (at_builtin; refine wpList_append_own _ rfl _ _ 44 rfl w.heap.size 5 i0 (.int .u8 0) 1 1 Try.underlying44 hinf hz0 hz1 hz2 rfl (by decide) _ _ _ rfl (HI.out.1.alloc _) ⟨wr.heap.size, 0, none⟩ 1 1 [.int .u8 (s[k].toNat : Int)] rfl rfl ?c1 ?c2 ?c3 ?c4 ?c5 ?_)
          case c1 => exact (lit_own [(s[k].toNat : Int)] (by simp) wr).cells rfl
          case c2 => first | rfl | (intro u hu; simp at hu; rcases hu with rfl | rfl | rfl | rfl <;> rfl) | (intro u hu; simp at hu; rcases hu with rfl | rfl <;> rfl) | (intro u hu; simp at hu; subst hu; rfl)
          case c3 => unfold maxLen; omega
          case c4 => omega
          case c5 => first | omega | (simp; omega)
          intro v' w2 hown' hgrow _
          have hle := fun j e => (HI.out.1.lt j e).1
          have HI2 := (show Hid (w2.ownsRow w.heap.size 5 1 v' (qTo s (k + 1)).length ((qTo s (k + 1)).map (Value.int .u8)) ∧ Below w.heap.size w w2) from (by
            refine ⟨?_, (HI.out.2.alloc HI.out.2.size (.cells #[.int .u8 (s[k].toNat : Int)] 5)).grown hgrow (by have := HI.out.2.size; simp; omega) (fun j e => hle j e)⟩
            rw [HS.out, List.length_append, List.map_append]
            exact hown'))
          clear hown' hgrow hle
          go_wp2
          go_roundw
          case rel => exact ⟨k + 1, by omega, by go_num, HI2⟩
          case measure => simp [intOf]; omega
        have HS := (show Hid (qTo s (k + 1) = qTo s k ++ [92, 120, hexD ((s[k].toNat : Int) / 16), hexD ((s[k].toNat : Int) % 16)]) from (by show _ = _; rw [HQ.out]; unfold shB; rw [if_neg h10, if_neg h13, if_neg h9, if_neg hg, if_neg hp]))
        have HD1 : Hid (∀ w, Calls Try.prog 29 #[.int .i64 ((s[k].toNat : Int) / 16)] w fun e w' => e = .returned (.int .u8 (hexD ((s[k].toNat : Int) / 16))) ∧ w' = w) := fun w => digit_any _ (by omega) (by omega) w
        have HD2 : Hid (∀ w, Calls Try.prog 29 #[.int .i64 ((s[k].toNat : Int) % 16)] w fun e w' => e = .returned (.int .u8 (hexD ((s[k].toNat : Int) % 16))) ∧ w' = w) := fun w => digit_any _ (by omega) (by omega) w
        have hp2 : ¬ 32 ≤ (s[k].toNat : Int) ∨ (32 ≤ (s[k].toNat : Int) ∧ ¬ (s[k].toNat : Int) ≤ 126) := by omega
        clear HQ h10 h13 h9 hg hp
        generalize hexD ((s[k].toNat : Int) / 16) = x at *
        generalize hexD ((s[k].toNat : Int) % 16) = y at *
        rcases hp2 with hp2 | ⟨hp2, hp3⟩
        all_goals
          go_wp2_with fail
          refine (HD1.out _).mono ?_
          rintro e w1 ⟨rfl, rfl⟩
          go_wp2_with fail
          refine (HD2.out _).mono ?_
          rintro e w1 ⟨rfl, rfl⟩
          go_wp2_with (at_builtin; refine wpList_append_own _ rfl _ _ 44 rfl w.heap.size 5 i0 (.int .u8 0) 1 1 Try.underlying44 hinf hz0 hz1 hz2 rfl (by decide) _ _ _ rfl (HI.out.1.alloc _) ⟨w1.heap.size, 0, none⟩ 4 4 [.int .u8 92, .int .u8 120, .int .u8 x, .int .u8 y] rfl rfl ?c1 ?c2 ?c3 ?c4 ?c5 ?_)
          case c1 => exact (lit_own [92, 120, x, y] (by simp) w1).cells rfl
          case c2 => first | rfl | (intro u hu; simp at hu; rcases hu with rfl | rfl | rfl | rfl <;> rfl) | (intro u hu; simp at hu; rcases hu with rfl | rfl <;> rfl) | (intro u hu; simp at hu; subst hu; rfl)
          case c3 => unfold maxLen; omega
          case c4 => omega
          case c5 => first | omega | (simp; omega)
          intro v' w2 hown' hgrow _
          have hle := fun j e => (HI.out.1.lt j e).1
          have HI2 := (show Hid (w2.ownsRow w.heap.size 5 1 v' (qTo s (k + 1)).length ((qTo s (k + 1)).map (Value.int .u8)) ∧ Below w.heap.size w w2) from (by
            refine ⟨?_, (HI.out.2.alloc HI.out.2.size (.cells #[.int .u8 92, .int .u8 120, .int .u8 x, .int .u8 y] 5)).grown hgrow (by have := HI.out.2.size; simp; omega) (fun j e => hle j e)⟩
            rw [HS.out, List.length_append, List.map_append]
            exact hown'))
          clear hown' hgrow hle
          go_wp2
          go_roundw
          case rel => exact ⟨k + 1, by omega, by go_num, HI2⟩
          case measure => simp [intOf]; omega
      · have HL : Hid (65536 < (qTo s k).length ∨ qTo s k ++ [39] = qT s) := (by
          show _ ∨ _
          by_cases hlt : k < s.size
          · exact .inl (by omega)
          · exact .inr (qTo_all s k (by omega)))
        have hmono := qTo_mono s k
        have hcond : ¬ k < s.size ∨ (k < s.size ∧ ¬ ((qTo s k).length : Int) ≤ 65536) := by omega
        have hwr := HI.out.2.size
        clear hgo
        rcases hcond with hlt | ⟨hlt, hbig⟩
        all_goals
          go_wp2_with (at_builtin; refine wpList_append_own _ rfl _ _ 44 rfl w.heap.size 5 i0 (.int .u8 0) 1 1 Try.underlying44 hinf hz0 hz1 hz2 rfl (by decide) _ _ _ rfl (HI.out.1.alloc _) ⟨wr.heap.size, 0, none⟩ 1 1 [.int .u8 39] rfl rfl (cell_one_new _ _ _) ?c2 ?c3 ?c4 ?c5 ?_)
          case c2 => first | rfl | (intro u hu; simp at hu; subst hu; rfl)
          case c3 => unfold maxLen; omega
          case c4 => omega
          case c5 => first | omega | (simp; omega)
          intro v' w2 hown' hgrow _
          have hle := fun j e => (HI.out.1.lt j e).1
          have HB2 := (show Hid _ from (HI.out.2.alloc HI.out.2.size (.cells #[.int .u8 39] 5)).grown hgrow (by have := HI.out.2.size; simp; omega) (fun j e => hle j e))
          have HO2 := (show Hid _ from hown')
          obtain ⟨ao', cap', hv'⟩ := own_slice hown'
          subst hv'
          clear hown' hgrow hle HI
          by_cases hq : 65536 < (qT s).length
          · have HE := (show Hid _ from quV_long (.inr hq))
            have hbg : (65536 : Int) < ((qTo s k).length : Int) + 1 := by
              rcases HL.out with h | h
              · omega
              · have := congrArg List.length h; rw [List.length_append, List.length_singleton] at this; omega
            clear hq HL hmono
            go_wp2
            go_ret2
            exact ⟨by rw [HE.out]; rfl, HB2.out⟩
          · have HE := (show Hid _ from quV_fits (s := s) (by omega))
            have HF : Hid (qTo s k ++ [39] = qT s) := (by
              rcases HL.out with h | h
              · omega
              · exact h)
            have hbg : ¬ (65536 : Int) < ((qTo s k).length : Int) + 1 := by
              have := congrArg List.length HF.out; rw [List.length_append, List.length_singleton] at this; omega
            have ht := text_own (l := qTo s k ++ [39]) (by rw [List.length_append, List.map_append]; exact HO2.out)
            rw [HF.out] at ht
            clear hq HL hmono
            go_wp2
            go_ret2
            exact ⟨by rw [HE.out]; rfl, HB2.out⟩
end Go.Proofs.Ytafnjidackofpaa
