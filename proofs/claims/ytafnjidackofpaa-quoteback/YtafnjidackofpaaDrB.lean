/- DERIVED. Walks: Cut, by the document. -/
import Derived.Test.YtafnjidackofpaaDrA
import Derived.Test.YtafnjidackofpaaRdC
namespace Go.Proofs.Ytafnjidackofpaa
open Go.RowKit

set_option maxRecDepth 100000 in
set_option maxHeartbeats 4000000 in
theorem cutR_none (s : ByteArray) (i : Int) (h : 65536 < s.size ∨ i < 0 ∨ (s.size : Int) < i) (w : World) :
    Calls Try.prog 13 #[.string s, .int .i64 i] w fun e w' => e = .returned (cuV (rdCut s i)) ∧ Below w.heap.size w w' := by
  by_cases h1 : 65536 < s.size
  · have HG := (show Hid (rdCut s i = .inr (0, 2)) from (by show rdCut s i = _; unfold rdCut; rw [if_pos h1]))
    have h2 : (65536 : Int) < (s.size : Int) := by omega
    go_enter Try.func13, Try.ntmps13
    go_wp2
    rw [HG.out]
    refine bodyPost_ret (v := cuV (.inr (0, 2))) (by simp [results, Try.results13, go_sem, cuV, *]) rfl ⟨rfl, ?_⟩
    exact (Below.refl _ _).alloc (Nat.le_refl _) _
  · have h2 : ¬ (65536 : Int) < (s.size : Int) := by omega
    have hc : i < 0 ∨ (s.size : Int) < i := by omega
    have HG := (show Hid (rdCut s i = .inr (0, 1)) from (by show rdCut s i = _; unfold rdCut; rw [if_neg h1, if_pos hc]))
    clear h
    by_cases h3 : i < 0
    · go_enter Try.func13, Try.ntmps13
      go_wp2
      rw [HG.out]
      refine bodyPost_ret (v := cuV (.inr (0, 1))) (by simp [results, Try.results13, go_sem, cuV, *]) rfl ⟨rfl, ?_⟩
      exact (Below.refl _ _).alloc (Nat.le_refl _) _
    · have h4 : (s.size : Int) < i := by omega
      go_enter Try.func13, Try.ntmps13
      go_wp2
      rw [HG.out]
      refine bodyPost_ret (v := cuV (.inr (0, 1))) (by simp [results, Try.results13, go_sem, cuV, *]) rfl ⟨rfl, ?_⟩
      exact (Below.refl _ _).alloc (Nat.le_refl _) _

set_option maxRecDepth 100000 in
set_option maxHeartbeats 4000000 in
theorem cutR_bare (s : ByteArray) (n : Nat) (hs : s.size ≤ 65536) (hn : n ≤ s.size) (h : ¬ (chr s n = 39 ∨ chr s n = 34)) (w : World) :
    Calls Try.prog 13 #[.string s, .int .i64 n] w fun e w' => e = .returned (cuV (rdCut s n)) ∧ Below w.heap.size w w' := by
  have HG := (show Hid (rdCut s n = .inr (n, 20)) from (by show rdCut s n = _; unfold rdCut; rw [if_neg (by omega), if_neg (by omega), Int.toNat_natCast, if_neg h]))
  by_cases hlt : n < s.size
  · have hlI : (n : Int) < (s.size : Int) := by omega
    have en : ((n : Int) == (s.size : Int)) = false := beq_eq_false_iff_ne.2 (by omega)
    rw [chr_in hlt] at h
    have e39 : ((s[n].toNat : Int) != 39) = true := bne_iff_ne.2 (by omega)
    have e34 : ((s[n].toNat : Int) != 34) = true := bne_iff_ne.2 (by omega)
    clear h
    go_enter Try.func13, Try.ntmps13
    go_wp2
    rw [HG.out]
    refine bodyPost_ret (v := cuV (.inr (n, 20))) (by simp [results, Try.results13, go_sem, cuV, *]) rfl ⟨rfl, ?_⟩
    exact (Below.refl _ _).alloc (Nat.le_refl _) _
  · have hlI : ¬ (n : Int) < (s.size : Int) := by omega
    have en : ((n : Int) == (s.size : Int)) = true := beq_iff_eq.2 (by omega)
    clear h
    go_enter Try.func13, Try.ntmps13
    go_wp2
    rw [HG.out]
    refine bodyPost_ret (v := cuV (.inr (n, 20))) (by simp [results, Try.results13, go_sem, cuV, *]) rfl ⟨rfl, ?_⟩
    exact (Below.refl _ _).alloc (Nat.le_refl _) _

theorem size1 (w : World) (o : Obj) : (w.alloc o).heap.size = w.heap.size + 1 := by simp
theorem own_empty (w : World) : (w.alloc (.cells #[] 5)).ownsRow w.heap.size 5 1 (.slice (some ⟨w.heap.size, 0, none⟩) 0 0) 0 [] :=
  World.ownsRow_made (size := 1) (e := 5) w #[] 0 (Nat.le_refl _) (by unfold maxLen; omega) rfl
theorem rdByte_plain {s : ByteArray} {i : Nat} (h : chr s i ≠ 92) : rdByte s i = if chr s i < 32 ∨ chr s i = 127 then .inr (i, 22) else .inl (chr s i, i + 1) := by
  unfold rdByte; rw [if_neg h]
theorem rdByte_esc {s : ByteArray} {i : Nat} (h : chr s i = 92) : rdByte s i = match rdEsc s i with | none => .inr (i, 21) | some p => .inl p := by
  unfold rdByte; rw [if_pos h]; rfl

set_option maxRecDepth 100000 in
set_option maxHeartbeats 8000000 in
theorem cutR_mark (s : ByteArray) (n : Nat) (hs : s.size ≤ 65536) (hn : n < s.size) (h : chr s n = 39 ∨ chr s n = 34) (w : World) :
    Calls Try.prog 13 #[.string s, .int .i64 n] w fun e w' => e = .returned (cuV (rdCut s n)) ∧ Below w.heap.size w w' := by
  obtain ⟨i0, hinf, hz0, hz1, hz2⟩ := info_parts Try.info5
  generalize hR : rdCut s n = R
  have HR := (show Hid (rdBody s (s[n].toNat : Int) (s.size + 1) (n + 1) [] = R) from (by
    show _ = _
    rw [← hR, ← chr_in hn]; symm; unfold rdCut; rw [if_neg (by omega), if_neg (by omega), Int.toNat_natCast, if_pos h]))
  clear hR
  rw [chr_in hn] at h
  have hm : (0 : Int) ≤ (s[n].toNat : Int) := by omega
  have HF := (show Hid _ from FHolds.new w 0 0)
  have HB := (show Hid _ from (Below.refl w.heap.size w).alloc (Nat.le_refl _) (.cells #[.int .i64 0, .int .i64 0] 28))
  have hlI : (n : Int) < (s.size : Int) := by omega
  have en : ((n : Int) == (s.size : Int)) = false := beq_eq_false_iff_ne.2 (by omega)
  have HS := (show Hid (AtL w ((w.alloc (.cells #[.int .i64 0, .int .i64 0] 28)).alloc (.cells #[] 5)) (.slice (some ⟨w.heap.size + 1, 0, none⟩) 0 0) []) from (by
    have ho := own_empty (w.alloc (.cells #[.int .i64 0, .int .i64 0] 28))
    rw [size1] at ho
    exact ⟨HF.out.alloc _, ho, HB.out.alloc HB.out.size _⟩))
  clear HF HB
  have hg : ((s[n].toNat : Int) != 39) = false ∨ (((s[n].toNat : Int) != 39) = true ∧ ((s[n].toNat : Int) != 34) = false) := by
    rcases h with h | h
    · exact .inl (bne_eq_false_iff_eq.2 h)
    · exact .inr ⟨bne_iff_ne.2 (by omega), bne_eq_false_iff_eq.2 h⟩
  clear h
  have t1 : decide ((65536 : Int) < (s.size : Int)) = false := decide_eq_false (by omega)
  have t2 : decide ((n : Int) < 0) = false := decide_eq_false (by omega)
  have t3 : decide (s.size < n) = false := decide_eq_false (by omega)
  have t4 : decide ((s.size : Int) < (n : Int)) = false := decide_eq_false (by omega)
  rcases hg with e39 | ⟨e39, e34⟩
  all_goals
    go_enter Try.func13, Try.ntmps13
    go_wp2_with fail
    go_loopw [7, 8] (fun v t wr => ∃ k : Nat, ∃ f : Nat, ∃ l : List Int, k ≤ s.size ∧ t = .int .i64 k ∧ l.length ≤ k ∧ Hid (s.size + 1 ≤ f + k) ∧ Hid (rdBody s (s[n].toNat : Int) f k l = R) ∧ Hid (AtL w wr v l)) (fun _ t _ => s.size - (intOf t).toNat)
    case atStart => exact ⟨n + 1, s.size + 1, [], by omega, by go_num, by simp, show _ ≤ _ by omega, HR, HS⟩
    case round =>
      obtain ⟨k, f, l, hk, rfl, hl, hf, hr, ha⟩ := hrel
      obtain ⟨g, rfl⟩ : ∃ g, f = g + 1 := ⟨f - 1, by have h := hf.out; omega⟩
      clear HR HS
      have hlt : w.heap.size < wr.heap.size := ha.out.f.lt
      by_cases hks : k < s.size
      · have hb := chr_bd hks
        have HC := (show Hid _ from chr_in hks)
        by_cases hm1 : chr s k = (s[n].toNat : Int)
        · have hr' := (show Hid (R = .inl (l, k + 1)) from (hr.out.symm.trans (rdBody_end hm1)))
          have em : ((s[k].toNat : Int) == (s[n].toNat : Int)) = true := beq_iff_eq.2 (by rw [← HC.out]; exact hm1)
          have ht := text_own ha.out.o
          clear hr hf hm1 hb HC
          obtain ⟨_, c0, c1, f0, f1⟩ := ha.out.f
          go_wp2_with fail
          rw [hr'.out]
          refine bodyPost_ret (v := cuV (.inl (l, k + 1))) (by simp [results, Try.results13, go_sem, cuV, *]) rfl ⟨rfl, ?_⟩
          exact putF_below ha.out.b (Nat.le_refl _) _ _
        · have em : ((s[k].toNat : Int) == (s[n].toNat : Int)) = false := beq_eq_false_iff_ne.2 (by rw [← HC.out]; exact hm1)
          by_cases h92 : chr s k = 92
          · have e92 : ((s[k].toNat : Int) == 92) = true := beq_iff_eq.2 (by rw [← HC.out]; exact h92)
            have HX : Hid (∀ w, Calls Try.prog 33 #[.string s, .int .i64 k] w fun e w' => e = .returned (erV k (rdEsc s k)) ∧ Below w.heap.size w w') := fun w => escR_any s k hks hs w
            cases hq : rdEsc s k with
            | none =>
              have hr' := (show Hid (R = .inr (k, 21)) from (hr.out.symm.trans (rdBody_err hm1 hks (by rw [rdByte_esc h92, hq]))))
              rw [hq] at HX
              dsimp only [erV] at HX
              clear hr hf hm1 hb HC hq h92
              go_wp2_with fail
              refine (HX.out _).mono ?_
              rintro e w1 ⟨rfl, hb1⟩
              have HF1 := (show Hid _ from ha.out.f.below hb1 ha.out.f.lt)
              have HB1 := (show Hid _ from ha.out.b.trans (hb1.mono ha.out.b.size))
              have hl1 : w.heap.size < w1.heap.size := HF1.out.lt
              clear hb1 ha
              obtain ⟨_, c0, c1, f0, f1⟩ := HF1.out
              go_wp2_with fail
              rw [hr'.out]
              refine bodyPost_ret (v := cuV (.inr (k, 21))) (by simp [results, Try.results13, go_sem, cuV, *]) rfl ⟨rfl, ?_⟩
              exact putF_below HB1.out (Nat.le_refl _) _ _
            | some p =>
              obtain ⟨b, q⟩ := p
              obtain ⟨b0, b1, b2, b3⟩ := rdEsc_bd hq
              have hr' := (show Hid (rdBody s (s[n].toNat : Int) g q (l ++ [b]) = R) from ((rdBody_step hm1 hks (by rw [rdByte_esc h92, hq])).symm.trans hr.out))
              have hf' := (show Hid (s.size + 1 ≤ g + q) from (by have h := hf.out; show _ ≤ _; omega))
              have e0 : (((q : Int) - (k : Int)) == 0) = false := beq_eq_false_iff_ne.2 (by omega)
              have hw : (k : Int) + ((q : Int) - (k : Int)) = (q : Int) := by omega
              rw [hq] at HX
              dsimp only [erV] at HX
              clear hr hf hm1 hb HC hq h92
              go_wp2_with fail
              refine (HX.out _).mono ?_
              rintro e w1 ⟨rfl, hb1⟩
              have hO1 := own_below ha.out.o hb1
              have HF1 := (show Hid _ from ha.out.f.below hb1 ha.out.f.lt)
              have HB1 := (show Hid _ from ha.out.b.trans (hb1.mono ha.out.b.size))
              have hl1 : w.heap.size < w1.heap.size := HF1.out.lt
              clear hb1 ha
              generalize hd : (q : Int) - (k : Int) = d at *
              have HD := (show Hid _ from hd)
              clear hd
              go_wp2_with (at_builtin; refine wpList_append_own _ rfl _ _ 44 rfl (w.heap.size + 1) 5 i0 (.int .u8 0) 1 1 Try.underlying44 hinf hz0 hz1 hz2 rfl (by decide) _ _ _ rfl (hO1.alloc _) ⟨w1.heap.size, 0, none⟩ 1 1 [.int .u8 b] rfl rfl (cell_one_new _ _ _) ?c2 ?c3 ?c4 ?c5 ?_)
              case c2 => first | rfl | (intro u hu; simp at hu; subst hu; rfl)
              case c3 => unfold maxLen; omega
              case c4 => omega
              case c5 => first | omega | (simp; omega)
              intro v' w2 hown' hgrow _
              have hle := fun j e => (hO1.lt j e).1
              have HA2 := (show Hid (AtL w w2 v' (l ++ [b])) from (by
                refine ⟨(HF1.out.alloc (.cells #[.int .u8 b] 5)).grown hgrow (fun e => by have := hle _ e; omega), ?_, (HB1.out.alloc (by omega) (.cells #[.int .u8 b] 5)).grown hgrow (by simp; omega) (fun j e => by have := hle j e; omega)⟩
                rw [List.length_append, List.map_append]
                exact hown'))
              clear hO1 hown' hgrow hle HF1 HB1
              go_wp2
              go_roundw
              case rel => exact ⟨q, g, l ++ [b], b3, by go_num, by simp; omega, hf', hr', HA2⟩
              case measure => simp [intOf]; omega
          · have e92 : ((s[k].toNat : Int) == 92) = false := beq_eq_false_iff_ne.2 (by rw [← HC.out]; exact h92)
            have HQ := (show Hid _ from rdByte_plain h92)
            by_cases hbad : chr s k < 32 ∨ chr s k = 127
            · have hr' := (show Hid (R = .inr (k, 22)) from (hr.out.symm.trans (rdBody_err hm1 hks (by rw [HQ.out, if_pos hbad]))))
              rw [HC.out] at hbad
              have hg2 : (s[k].toNat : Int) < 32 ∨ (¬ (s[k].toNat : Int) < 32 ∧ ((s[k].toNat : Int) == 127) = true) := by
                by_cases h : (s[k].toNat : Int) < 32
                · exact .inl h
                · exact .inr ⟨h, beq_iff_eq.2 (by omega)⟩
              clear hr hf hm1 hb HC h92 HQ hbad
              obtain ⟨_, c0, c1, f0, f1⟩ := ha.out.f
              rcases hg2 with hg2 | ⟨hg2, e127⟩
              all_goals
                go_wp2_with fail
                rw [hr'.out]
                refine bodyPost_ret (v := cuV (.inr (k, 22))) (by simp [results, Try.results13, go_sem, cuV, *]) rfl ⟨rfl, ?_⟩
                exact putF_below ha.out.b (Nat.le_refl _) _ _
            · have hr' := (show Hid (rdBody s (s[n].toNat : Int) g (k + 1) (l ++ [(s[k].toNat : Int)]) = R) from ((rdBody_step hm1 hks (by rw [HQ.out, if_neg hbad, HC.out])).symm.trans hr.out))
              have hf' := (show Hid (s.size + 1 ≤ g + (k + 1)) from (by have h := hf.out; show _ ≤ _; omega))
              rw [HC.out] at hbad
              have h32 : ¬ (s[k].toNat : Int) < 32 := by omega
              have e127 : ((s[k].toNat : Int) == 127) = false := beq_eq_false_iff_ne.2 (by omega)
              clear hr hf hm1 hb HC h92 HQ hbad
              have hO1 := ha.out.o
              go_wp2_with (at_builtin; refine wpList_append_own _ rfl _ _ 44 rfl (w.heap.size + 1) 5 i0 (.int .u8 0) 1 1 Try.underlying44 hinf hz0 hz1 hz2 rfl (by decide) _ _ _ rfl (hO1.alloc _) ⟨wr.heap.size, 0, none⟩ 1 1 [.int .u8 (s[k].toNat : Int)] rfl rfl (cell_one_new _ _ _) ?c2 ?c3 ?c4 ?c5 ?_)
              case c2 => first | rfl | (intro u hu; simp at hu; subst hu; rfl)
              case c3 => unfold maxLen; omega
              case c4 => omega
              case c5 => first | omega | (simp; omega)
              intro v' w2 hown' hgrow _
              have hle := fun j e => (hO1.lt j e).1
              have HA2 := (show Hid (AtL w w2 v' (l ++ [(s[k].toNat : Int)])) from (by
                refine ⟨(ha.out.f.alloc (.cells #[.int .u8 (s[k].toNat : Int)] 5)).grown hgrow (fun e => by have := hle _ e; omega), ?_, (ha.out.b.alloc (by omega) (.cells #[.int .u8 (s[k].toNat : Int)] 5)).grown hgrow (by simp; omega) (fun j e => by have := hle j e; omega)⟩
                rw [List.length_append, List.map_append]
                exact hown'))
              clear hO1 hown' hgrow hle ha
              go_wp2
              go_roundw
              case rel => exact ⟨k + 1, g, l ++ [(s[k].toNat : Int)], by omega, by go_num, by simp; omega, hf', hr', HA2⟩
              case measure => simp [intOf]; omega
      · have hr' := (show Hid (R = .inr (s.size, 22)) from (hr.out.symm.trans (rdBody_out (by omega) hm)))
        clear hr hf
        obtain ⟨_, c0, c1, f0, f1⟩ := ha.out.f
        go_wp2_with fail
        rw [hr'.out]
        refine bodyPost_ret (v := cuV (.inr (s.size, 22))) (by simp [results, Try.results13, go_sem, cuV, *]) rfl ⟨rfl, ?_⟩
        exact putF_below ha.out.b (Nat.le_refl _) _ _

theorem cutR_any (s : ByteArray) (i : Int) (w : World) :
    Calls Try.prog 13 #[.string s, .int .i64 i] w fun e w' => e = .returned (cuV (rdCut s i)) ∧ Below w.heap.size w w' := by
  by_cases h : 65536 < s.size ∨ i < 0 ∨ (s.size : Int) < i
  · exact cutR_none s i h w
  · obtain ⟨n, rfl⟩ := Int.eq_ofNat_of_zero_le (show 0 ≤ i by omega)
    by_cases h2 : chr s n = 39 ∨ chr s n = 34
    · exact cutR_mark s n (by omega) (chr_lt (by omega)) h2 w
    · exact cutR_bare s n (by omega) (by omega) h2 w
end Go.Proofs.Ytafnjidackofpaa
