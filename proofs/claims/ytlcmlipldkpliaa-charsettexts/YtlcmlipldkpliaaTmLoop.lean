/- DERIVED. Walks, laid together: TxS, TxT. -/
import Derived.Test.YtlcmlipldkpliaaTxR
namespace Go.Proofs.Ytlcmlipldkpliaa
open Go.RowKit

set_option maxRecDepth 100000 in
set_option maxHeartbeats 16000000 in
theorem readR_plain (HI : ItemR) (s : ByteArray) (n : Nat) (hn : n < s.size) (hs : s.size ≤ 140737488355328) (h1 : chr s n = 91) (h2 : (chr s (n + 1) == 94) = false) (w : World) :
    Calls Try.prog 47 #[.string s, .int .i64 n] w fun e w' => e = .returned (rrV (rdEnd (rdMembers s (s.size + 1) 0#256 (n + 1)))) ∧ Below w.heap.size w w' := by
  have HIT := (show Hid _ from HI)
  clear HI
  have HX : Hid (∀ w, Calls Try.prog 68 #[.string s, .int .i64 n] w fun e w' => e = .returned (.int .i64 91) ∧ w' = w) := fun w => by have h := at_any s n w; rw [h1] at h; exact h
  have HY : Hid (∀ w, Calls Try.prog 68 #[.string s, .int .i64 ((n : Int) + 1)] w fun e w' => e = .returned (.int .i64 (chr s (n + 1))) ∧ w' = w) := fun w => at_any s (n + 1) w
  have HA := (show Hid _ from AtF.start w)
  generalize hR : rdMembers s (s.size + 1) 0#256 (n + 1) = R
  have HR := (show Hid _ from hR)
  generalize chr s (n + 1) = d at *
  clear hR h1
  go_enter Try.func47, Try.ntmps47
  go_wp2_with fail
  refine (HX.out _).mono ?_
  rintro e w1 ⟨rfl, rfl⟩
  go_wp2_with fail
  refine (HY.out _).mono ?_
  rintro e w1 ⟨rfl, rfl⟩
  go_wp2_with fail
  go_loopw [8] (fun t wr => ∃ k : Nat, ∃ f : Nat, ∃ x : BitVec 256, k ≤ s.size ∧ t = .int .i64 k ∧ Hid (s.size + 1 ≤ f + k) ∧ Hid (rdMembers s f x k = R) ∧ Hid (AtF w wr x)) (fun t _ => s.size - (intOf t).toNat)
  case atStart => exact ⟨n + 1, s.size + 1, 0#256, by omega, by go_num, show _ ≤ _ by omega, HR, HA⟩
  case round =>
    obtain ⟨k, f, x, hk, rfl, hf, hr, ha⟩ := hrel
    obtain ⟨g, rfl⟩ : ∃ g, f = g + 1 := ⟨f - 1, by have h := hf.out; omega⟩
    clear HA HR HX HY h2
    have HC : Hid (∀ w, Calls Try.prog 68 #[.string s, .int .i64 k] w fun e w' => e = .returned (.int .i64 (chr s k)) ∧ w' = w) := fun w => at_any s k w
    by_cases h93 : chr s k = 93
    · have hr' := (show Hid (R = .inl (x, k)) from (hr.out.symm.trans (rdMembers_end h93)))
      rw [h93] at HC
      clear hr hf h93 HIT
      have hl : w.heap.size + 1 < wr.heap.size := ha.out.h2.lt
      obtain ⟨_, c0, c1, c2, c3, f0, f1, f2, f3⟩ := ha.out.h1
      obtain ⟨_, d0, d1, d2, d3, g0, g1, g2, g3⟩ := ha.out.h2
      go_wp2_with fail
      refine (HC.out _).mono ?_
      rintro e w1 ⟨rfl, rfl⟩
      go_wp2_with fail
      rw [hr'.out]
      refine bodyPost_ret (v := rrV (.inl (x, k + 1))) (by simp [results, Try.results47, go_sem, rrV, wd_zero, *]) rfl ⟨rfl, ?_⟩
      exact put4_below' ha.out.hb (Nat.le_refl _) x
    have e93 : (chr s k != 93) = true := bne_iff_ne.2 h93
    by_cases h37 : chr s k = 37
    · have HM := (show Hid (rdMember s k = rdClass s k) from (by show rdMember s k = _; unfold rdMember; rw [if_pos h37]))
      have HD : Hid (∀ w, Calls Try.prog 68 #[.string s, .int .i64 ((k : Int) + 1)] w fun e w' => e = .returned (.int .i64 (chr s (k + 1))) ∧ w' = w) := fun w => at_any s (k + 1) w
      have hlt : k < s.size := chr_lt (by rw [h37]; omega)
      by_cases hcl : k + 1 < s.size ∧ (cls (chr s (k + 1)).toNat).2 = 0
      · have hm : rdMember s k = .inl ((cls (chr s (k + 1)).toNat).1, k + 2) := by rw [HM.out]; unfold rdClass; rw [if_pos hcl]
        have hr' := (show Hid (rdMembers s g (x ||| (cls (chr s (k + 1)).toNat).1) (k + 2) = R) from ((rdMembers_step h93 hm).symm.trans hr.out))
        have hf' := (show Hid (s.size + 1 ≤ g + (k + 2)) from (by have h := hf.out; show _ ≤ _; omega))
        have hb := chr_le s (k + 1)
        have h0 : 0 ≤ chr s (k + 1) := by rw [chr_in hcl.1]; omega
        have HK : Hid (∀ w, Calls Try.prog 25 #[.int .i64 (chr s (k + 1))] w fun e w' => e = .returned (.tuple #[sv (cls (chr s (k + 1)).toNat).1, .int .i64 0]) ∧ Below w.heap.size w w') := fun w => by
          have h := classR_any (chr s (k + 1)).toNat (by omega) w
          rw [hcl.2, show (((chr s (k + 1)).toNat : Nat) : Int) = chr s (k + 1) from by omega] at h
          exact h
        have hk2 : k + 2 ≤ s.size := by omega
        rw [h37] at HC e93
        clear hr hf h93 HIT hcl hm HM h37 hb h0
        generalize (cls (chr s (k + 1)).toNat).1 = y at *
        generalize chr s (k + 1) = q at *
        go_wp2_with fail
        refine (HC.out _).mono ?_
        rintro e w1 ⟨rfl, rfl⟩
        go_wp2_with fail
        refine (HC.out _).mono ?_
        rintro e w1 ⟨rfl, rfl⟩
        go_wp2_with fail
        refine (HD.out _).mono ?_
        rintro e w1 ⟨rfl, rfl⟩
        go_wp2_with fail
        refine (HK.out _).mono ?_
        rintro e w2 ⟨rfl, hb2⟩
        have HA1 := (show Hid _ from ha.out.below hb2 ha.out.h2.lt)
        have hl : w.heap.size + 1 < w2.heap.size := HA1.out.h2.lt
        have HA2 := (show Hid (AtF w (w2.alloc (c4 y)) x) from HA1.out.below (B := w2.heap.size) (below1 _ _) hl)
        clear hb2 ha HA1
        obtain ⟨_, c0, c1, c2, c3, f0, f1, f2, f3⟩ := HA2.out.h2
        go_wp2_with fail
        refine (unionR_any x y _).mono ?_
        rintro e w3 ⟨rfl, hb3⟩
        have HA3 := (show Hid _ from HA2.out.below hb3 HA2.out.h2.lt)
        clear hb3 HA2 c0 c1 c2 c3 f0 f1 f2 f3
        obtain ⟨_, c0, c1, c2, c3, f0, f1, f2, f3⟩ := HA3.out.h2
        go_wp2_with fail
        go_roundw
        case rel => exact ⟨k + 2, g, x ||| y, hk2, by go_num, hf', hr', HA3.out.put (x ||| y)⟩
        case measure => simp [intOf]; omega
      · have hm : rdMember s k = .inr (k, 10) := by rw [HM.out]; unfold rdClass; rw [if_neg hcl]
        have hr' := (show Hid (R = .inr (k, 10)) from (hr.out.symm.trans (rdMembers_err h93 hm)))
        have HK : Hid (∀ w, Calls Try.prog 25 #[.int .i64 (chr s (k + 1))] w fun e w' => (∃ y, e = .returned (.tuple #[sv y, .int .i64 10])) ∧ Below w.heap.size w w') := fun w => by
          by_cases hlt1 : k + 1 < s.size
          · have h0 : 0 ≤ chr s (k + 1) := by rw [chr_in hlt1]; omega
            have hb := chr_le s (k + 1)
            have h := classR_any (chr s (k + 1)).toNat (by omega) w
            rw [show (((chr s (k + 1)).toNat : Nat) : Int) = chr s (k + 1) from by omega, cls_ten _ (fun q => hcl ⟨hlt1, q⟩)] at h
            refine h.mono ?_
            rintro e w' ⟨rfl, hb⟩
            exact ⟨⟨_, rfl⟩, hb⟩
          · refine (smallM_any (chr s (k + 1)) w (by rw [chr_out hlt1]; omega)).mono ?_
            rintro e w' ⟨rfl, hb⟩
            exact ⟨⟨_, rfl⟩, hb⟩
        rw [h37] at HC e93
        clear hr hf h93 HIT hcl hm HM h37
        generalize chr s (k + 1) = q at *
        go_wp2_with fail
        refine (HC.out _).mono ?_
        rintro e w1 ⟨rfl, rfl⟩
        go_wp2_with fail
        refine (HC.out _).mono ?_
        rintro e w1 ⟨rfl, rfl⟩
        go_wp2_with fail
        refine (HD.out _).mono ?_
        rintro e w1 ⟨rfl, rfl⟩
        go_wp2_with fail
        refine (HK.out _).mono ?_
        rintro e w2 ⟨⟨y, rfl⟩, hb2⟩
        have HA1 := (show Hid _ from ha.out.below hb2 ha.out.h2.lt)
        have hl : w.heap.size + 1 < w2.heap.size := HA1.out.h2.lt
        have HA2 := (show Hid (AtF w (w2.alloc (c4 y)) x) from HA1.out.below (B := w2.heap.size) (below1 _ _) hl)
        clear hb2 ha HA1
        obtain ⟨_, c0, c1, c2, c3, f0, f1, f2, f3⟩ := HA2.out.h1
        go_wp2_with fail
        rw [hr'.out]
        refine bodyPost_ret (v := rrV (.inr ((k), 10))) (by simp [results, Try.results47, go_sem, rrV, wd_zero, *]) rfl ⟨rfl, ?_⟩
        exact (((HA2.out.hb.setCell (Nat.le_refl _) _).setCell (Nat.le_refl _) _).setCell (Nat.le_refl _) _).setCell (Nat.le_refl _) _
    have e37 : (chr s k == 37) = false := beq_eq_false_iff_ne.2 h37
    cases hit : rdItem s k with
    | none =>
      have hm : rdMember s k = .inr (k, 6) := by unfold rdMember; rw [if_neg h37, hit]
      have hr' := (show Hid (R = .inr (k, 6)) from (hr.out.symm.trans (rdMembers_err h93 hm)))
      have HK : Hid (∀ w, Calls Try.prog 69 #[.string s, .int .i64 k] w fun e w' => e = .returned (.tuple #[.int .i64 (-1), .int .i64 k]) ∧ Below w.heap.size w w') := fun w => by have h := HIT.out s k hk hs w; rw [hit] at h; exact h
      clear hr hf h93 h37 HIT hm hit
      generalize chr s k = c at *
      go_wp2_with fail
      refine (HC.out _).mono ?_
      rintro e w1 ⟨rfl, rfl⟩
      go_wp2_with fail
      refine (HC.out _).mono ?_
      rintro e w1 ⟨rfl, rfl⟩
      go_wp2_with fail
      refine (HK.out _).mono ?_
      rintro e w2 ⟨rfl, hb2⟩
      have HA1 := (show Hid _ from ha.out.below hb2 ha.out.h2.lt)
      have hl : w.heap.size + 1 < w2.heap.size := HA1.out.h2.lt
      clear hb2 ha
      obtain ⟨_, c0, c1, c2, c3, f0, f1, f2, f3⟩ := HA1.out.h1
      go_wp2_with fail
      rw [hr'.out]
      refine bodyPost_ret (v := rrV (.inr ((k), 6))) (by simp [results, Try.results47, go_sem, rrV, wd_zero, *]) rfl ⟨rfl, ?_⟩
      exact (((HA1.out.hb.setCell (Nat.le_refl _) _).setCell (Nat.le_refl _) _).setCell (Nat.le_refl _) _).setCell (Nat.le_refl _) _
    | some p =>
      obtain ⟨lo, nx⟩ := p
      obtain ⟨b1, b2, b3⟩ := rdItem_bd hit
      have HK : Hid (∀ w, Calls Try.prog 69 #[.string s, .int .i64 k] w fun e w' => e = .returned (.tuple #[.int .i64 lo, .int .i64 nx]) ∧ Below w.heap.size w w') := fun w => by have h := HIT.out s k hk hs w; rw [hit] at h; exact h
      have HN : Hid (∀ w, Calls Try.prog 68 #[.string s, .int .i64 nx] w fun e w' => e = .returned (.int .i64 (chr s nx)) ∧ w' = w) := fun w => at_any s nx w
      have hlo0 : ¬ (lo : Int) < 0 := by omega
      by_cases h45 : chr s nx = 45
      · have hltn : nx < s.size := chr_lt (by rw [h45]; omega)
        rw [h45] at HN
        cases hi2 : rdItem s (nx + 1) with
        | none =>
          have hm : rdMember s k = .inr ((nx + 1), 6) := by unfold rdMember; rw [if_neg h37, hit]; exact (if_pos h45).trans (by rw [hi2])
          have hr' := (show Hid (R = .inr ((nx + 1), 6)) from (hr.out.symm.trans (rdMembers_err h93 hm)))
          have HL : Hid (∀ w, Calls Try.prog 69 #[.string s, .int .i64 ((nx : Int) + 1)] w fun e w' => e = .returned (.tuple #[.int .i64 (-1), .int .i64 ((nx + 1 : Nat) : Int)]) ∧ Below w.heap.size w w') := fun w => by have h := HIT.out s (nx + 1) (by omega) hs w; rw [hi2] at h; exact h
          clear hr hf h93 h37 HIT hm hit hi2 h45
          generalize chr s k = c at *
          go_wp2_with fail
          refine (HC.out _).mono ?_
          rintro e w1 ⟨rfl, rfl⟩
          go_wp2_with fail
          refine (HC.out _).mono ?_
          rintro e w1 ⟨rfl, rfl⟩
          go_wp2_with fail
          refine (HK.out _).mono ?_
          rintro e w2 ⟨rfl, hb2⟩
          have HA1 := (show Hid _ from ha.out.below hb2 ha.out.h2.lt)
          clear hb2 ha
          go_wp2_with fail
          refine (HN.out _).mono ?_
          rintro e w3 ⟨rfl, rfl⟩
          go_wp2_with fail
          refine (HL.out _).mono ?_
          rintro e w4 ⟨rfl, hb4⟩
          have HA2 := (show Hid _ from HA1.out.below hb4 HA1.out.h2.lt)
          have hl : w.heap.size + 1 < w4.heap.size := HA2.out.h2.lt
          clear hb4 HA1
          obtain ⟨_, c0, c1, c2, c3, f0, f1, f2, f3⟩ := HA2.out.h1
          go_wp2_with fail
          rw [hr'.out]
          refine bodyPost_ret (v := rrV (.inr ((nx + 1), 6))) (by simp [results, Try.results47, go_sem, rrV, wd_zero, *]) rfl ⟨rfl, ?_⟩
          exact (((HA2.out.hb.setCell (Nat.le_refl _) _).setCell (Nat.le_refl _) _).setCell (Nat.le_refl _) _).setCell (Nat.le_refl _) _
        | some p2 =>
          obtain ⟨up, en⟩ := p2
          obtain ⟨b4, b5, b6⟩ := rdItem_bd hi2
          have HL : Hid (∀ w, Calls Try.prog 69 #[.string s, .int .i64 ((nx : Int) + 1)] w fun e w' => e = .returned (.tuple #[.int .i64 up, .int .i64 en]) ∧ Below w.heap.size w w') := fun w => by have h := HIT.out s (nx + 1) (by omega) hs w; rw [hi2] at h; exact h
          have hup0 : ¬ (up : Int) < 0 := by omega
          by_cases hul : up < lo
          · have hm : rdMember s k = .inr (k, 1) := by unfold rdMember; rw [if_neg h37, hit]; exact (if_pos h45).trans (by rw [hi2]; exact if_pos hul)
            have hr' := (show Hid (R = .inr (k, 1)) from (hr.out.symm.trans (rdMembers_err h93 hm)))
            have hul' : (up : Int) < (lo : Int) := by omega
            clear hr hf h93 h37 HIT hm hit hi2 h45
            generalize chr s k = c at *
            go_wp2_with fail
            refine (HC.out _).mono ?_
            rintro e w1 ⟨rfl, rfl⟩
            go_wp2_with fail
            refine (HC.out _).mono ?_
            rintro e w1 ⟨rfl, rfl⟩
            go_wp2_with fail
            refine (HK.out _).mono ?_
            rintro e w2 ⟨rfl, hb2⟩
            have HA1 := (show Hid _ from ha.out.below hb2 ha.out.h2.lt)
            clear hb2 ha
            go_wp2_with fail
            refine (HN.out _).mono ?_
            rintro e w3 ⟨rfl, rfl⟩
            go_wp2_with fail
            refine (HL.out _).mono ?_
            rintro e w4 ⟨rfl, hb4⟩
            have HA2 := (show Hid _ from HA1.out.below hb4 HA1.out.h2.lt)
            have hl : w.heap.size + 1 < w4.heap.size := HA2.out.h2.lt
            clear hb4 HA1
            obtain ⟨_, c0, c1, c2, c3, f0, f1, f2, f3⟩ := HA2.out.h1
            go_wp2_with fail
            rw [hr'.out]
            refine bodyPost_ret (v := rrV (.inr ((k), 1))) (by simp [results, Try.results47, go_sem, rrV, wd_zero, *]) rfl ⟨rfl, ?_⟩
            exact (((HA2.out.hb.setCell (Nat.le_refl _) _).setCell (Nat.le_refl _) _).setCell (Nat.le_refl _) _).setCell (Nat.le_refl _) _
          · have hm : rdMember s k = .inl (spn lo up, en) := by unfold rdMember; rw [if_neg h37, hit]; exact (if_pos h45).trans (by rw [hi2]; exact if_neg hul)
            have hr' := (show Hid (rdMembers s g (x ||| spn lo up) en = R) from ((rdMembers_step h93 hm).symm.trans hr.out))
            have hf' := (show Hid (s.size + 1 ≤ g + en) from (by have h := hf.out; show _ ≤ _; omega))
            have hul' : ¬ (up : Int) < (lo : Int) := by omega
            have HFT : Hid (∀ w, Calls Try.prog 60 #[.int .i64 lo, .int .i64 up] w fun e w' => e = .returned (sv (spn lo up)) ∧ Below w.heap.size w w') := fun w => fromTo_any lo up w (by omega) (by omega) (by omega)
            clear hr hf h93 h37 HIT hm hit hi2 h45
            generalize spn (lo : Int) (up : Int) = y at *
            generalize chr s k = c at *
            go_wp2_with fail
            refine (HC.out _).mono ?_
            rintro e w1 ⟨rfl, rfl⟩
            go_wp2_with fail
            refine (HC.out _).mono ?_
            rintro e w1 ⟨rfl, rfl⟩
            go_wp2_with fail
            refine (HK.out _).mono ?_
            rintro e w2 ⟨rfl, hb2⟩
            have HA1 := (show Hid _ from ha.out.below hb2 ha.out.h2.lt)
            clear hb2 ha
            go_wp2_with fail
            refine (HN.out _).mono ?_
            rintro e w3 ⟨rfl, rfl⟩
            go_wp2_with fail
            refine (HL.out _).mono ?_
            rintro e w4 ⟨rfl, hb4⟩
            have HA2 := (show Hid _ from HA1.out.below hb4 HA1.out.h2.lt)
            clear hb4 HA1
            obtain ⟨l0, c0, c1, c2, c3, f0, f1, f2, f3⟩ := HA2.out.h2
            go_wp2_with fail
            go_region_with (first | (go_at_call 60; refine (HFT.out _).mono ?_; rintro e w5 ⟨rfl, hb⟩; have hA2 := (show AtF w w5 x from (by first | exact HA2.out.below hb HA2.out.h2.lt | exact HA2.out.drew.below hb HA2.out.h2.lt)); replace HA2 := (show Hid _ from hA2); clear hA2 hb c0 c1 c2 c3 f0 f1 f2 f3; obtain ⟨_, c0, c1, c2, c3, f0, f1, f2, f3⟩ := HA2.out.h2) | (go_at_call 15; refine (unionR_any x y _).mono ?_; rintro e w6 ⟨rfl, hb⟩; have hA2 := (show AtF w w6 x from (by first | exact HA2.out.below hb HA2.out.h2.lt | exact HA2.out.drew.below hb HA2.out.h2.lt)); replace HA2 := (show Hid _ from hA2); clear hA2 hb c0 c1 c2 c3 f0 f1 f2 f3; obtain ⟨_, c0, c1, c2, c3, f0, f1, f2, f3⟩ := HA2.out.h2))
            all_goals
              go_wp2
              go_roundw
              case rel => exact ⟨en, g, x ||| y, b6, by go_num, hf', hr', HA2.out.put _⟩
              case measure => simp [intOf]; omega
      · have hm : rdMember s k = .inl (spn lo lo, nx) := by unfold rdMember; rw [if_neg h37, hit]; exact if_neg h45
        have hr' := (show Hid (rdMembers s g (x ||| spn lo lo) nx = R) from ((rdMembers_step h93 hm).symm.trans hr.out))
        have hf' := (show Hid (s.size + 1 ≤ g + nx) from (by have h := hf.out; show _ ≤ _; omega))
        have e45 : (chr s nx == 45) = false := beq_eq_false_iff_ne.2 h45
        have HFT : Hid (∀ w, Calls Try.prog 60 #[.int .i64 lo, .int .i64 lo] w fun e w' => e = .returned (sv (spn lo lo)) ∧ Below w.heap.size w w') := fun w => fromTo_any lo lo w (by omega) (by omega) (by omega)
        clear hr hf h93 h37 HIT hm hit h45
        generalize spn (lo : Int) (lo : Int) = y at *
        generalize chr s nx = q at *
        generalize chr s k = c at *
        go_wp2_with fail
        refine (HC.out _).mono ?_
        rintro e w1 ⟨rfl, rfl⟩
        go_wp2_with fail
        refine (HC.out _).mono ?_
        rintro e w1 ⟨rfl, rfl⟩
        go_wp2_with fail
        refine (HK.out _).mono ?_
        rintro e w2 ⟨rfl, hb2⟩
        have HA2 := (show Hid _ from ha.out.below hb2 ha.out.h2.lt)
        clear hb2 ha
        go_wp2_with fail
        refine (HN.out _).mono ?_
        rintro e w3 ⟨rfl, rfl⟩
        obtain ⟨l0, c0, c1, c2, c3, f0, f1, f2, f3⟩ := HA2.out.h2
        go_wp2_with fail
        go_region_with (first | (go_at_call 60; refine (HFT.out _).mono ?_; rintro e w5 ⟨rfl, hb⟩; have hA2 := (show AtF w w5 x from (by first | exact HA2.out.below hb HA2.out.h2.lt | exact HA2.out.drew.below hb HA2.out.h2.lt)); replace HA2 := (show Hid _ from hA2); clear hA2 hb c0 c1 c2 c3 f0 f1 f2 f3; obtain ⟨_, c0, c1, c2, c3, f0, f1, f2, f3⟩ := HA2.out.h2) | (go_at_call 15; refine (unionR_any x y _).mono ?_; rintro e w6 ⟨rfl, hb⟩; have hA2 := (show AtF w w6 x from (by first | exact HA2.out.below hb HA2.out.h2.lt | exact HA2.out.drew.below hb HA2.out.h2.lt)); replace HA2 := (show Hid _ from hA2); clear hA2 hb c0 c1 c2 c3 f0 f1 f2 f3; obtain ⟨_, c0, c1, c2, c3, f0, f1, f2, f3⟩ := HA2.out.h2))
        all_goals
          go_wp2
          go_roundw
          case rel => exact ⟨nx, g, x ||| y, b3, by go_num, hf', hr', HA2.out.put _⟩
          case measure => simp [intOf]; omega
end Go.Proofs.Ytlcmlipldkpliaa

namespace Go.Proofs.Ytlcmlipldkpliaa
open Go.RowKit

set_option maxRecDepth 100000 in
set_option maxHeartbeats 16000000 in
theorem readR_turn (HI : ItemR) (s : ByteArray) (n : Nat) (hn : n + 1 < s.size) (hs : s.size ≤ 140737488355328) (h1 : chr s n = 91) (h2 : (chr s (n + 1) == 94) = true) (w : World) :
    Calls Try.prog 47 #[.string s, .int .i64 n] w fun e w' => e = .returned (rrV (rdTurn (rdMembers s (s.size + 1) 0#256 (n + 2)))) ∧ Below w.heap.size w w' := by
  have HIT := (show Hid _ from HI)
  clear HI
  have HX : Hid (∀ w, Calls Try.prog 68 #[.string s, .int .i64 n] w fun e w' => e = .returned (.int .i64 91) ∧ w' = w) := fun w => by have h := at_any s n w; rw [h1] at h; exact h
  have HY : Hid (∀ w, Calls Try.prog 68 #[.string s, .int .i64 ((n : Int) + 1)] w fun e w' => e = .returned (.int .i64 (chr s (n + 1))) ∧ w' = w) := fun w => at_any s (n + 1) w
  have HA := (show Hid _ from AtF.start w)
  generalize hR : rdMembers s (s.size + 1) 0#256 (n + 2) = R
  have HR := (show Hid _ from hR)
  generalize chr s (n + 1) = d at *
  clear hR h1
  go_enter Try.func47, Try.ntmps47
  go_wp2_with fail
  refine (HX.out _).mono ?_
  rintro e w1 ⟨rfl, rfl⟩
  go_wp2_with fail
  refine (HY.out _).mono ?_
  rintro e w1 ⟨rfl, rfl⟩
  go_wp2_with fail
  go_loopw [8] (fun t wr => ∃ k : Nat, ∃ f : Nat, ∃ x : BitVec 256, k ≤ s.size ∧ t = .int .i64 k ∧ Hid (s.size + 1 ≤ f + k) ∧ Hid (rdMembers s f x k = R) ∧ Hid (AtF w wr x)) (fun t _ => s.size - (intOf t).toNat)
  case atStart => exact ⟨n + 2, s.size + 1, 0#256, by omega, by go_num, show _ ≤ _ by omega, HR, HA⟩
  case round =>
    obtain ⟨k, f, x, hk, rfl, hf, hr, ha⟩ := hrel
    obtain ⟨g, rfl⟩ : ∃ g, f = g + 1 := ⟨f - 1, by have h := hf.out; omega⟩
    clear HA HR HX HY h2
    have HC : Hid (∀ w, Calls Try.prog 68 #[.string s, .int .i64 k] w fun e w' => e = .returned (.int .i64 (chr s k)) ∧ w' = w) := fun w => at_any s k w
    by_cases h93 : chr s k = 93
    · have hr' := (show Hid (R = .inl (x, k)) from (hr.out.symm.trans (rdMembers_end h93)))
      rw [h93] at HC
      clear hr hf h93 HIT
      have hl : w.heap.size + 1 < wr.heap.size := ha.out.h2.lt
      obtain ⟨_, c0, c1, c2, c3, f0, f1, f2, f3⟩ := ha.out.h1
      obtain ⟨_, d0, d1, d2, d3, g0, g1, g2, g3⟩ := ha.out.h2
      go_wp2_with fail
      refine (HC.out _).mono ?_
      rintro e w1 ⟨rfl, rfl⟩
      go_wp2_with fail
      refine (notR_any x _).mono ?_
      rintro e w2 ⟨rfl, hb2⟩
      have HA2 := (show Hid _ from ha.out.below hb2 ha.out.h2.lt)
      have hl2 : w.heap.size + 1 < w2.heap.size := HA2.out.h2.lt
      clear hb2 ha c0 c1 c2 c3 f0 f1 f2 f3 d0 d1 d2 d3 g0 g1 g2 g3
      obtain ⟨_, c0, c1, c2, c3, f0, f1, f2, f3⟩ := HA2.out.h1
      obtain ⟨_, d0, d1, d2, d3, g0, g1, g2, g3⟩ := HA2.out.h2
      have HRT := (show Hid (rdTurn R = .inl (~~~ x, k + 1)) from (by show rdTurn R = _; rw [hr'.out]; rfl))
      generalize ~~~ x = y at *
      go_wp2_with fail
      rw [HRT.out]
      refine bodyPost_ret (v := rrV (.inl (y, k + 1))) (by simp [results, Try.results47, go_sem, rrV, wd_zero, *]) rfl ⟨rfl, ?_⟩
      exact put4_below' (put4_below' HA2.out.hb (by omega) y) (Nat.le_refl _) y
    have e93 : (chr s k != 93) = true := bne_iff_ne.2 h93
    by_cases h37 : chr s k = 37
    · have HM := (show Hid (rdMember s k = rdClass s k) from (by show rdMember s k = _; unfold rdMember; rw [if_pos h37]))
      have HD : Hid (∀ w, Calls Try.prog 68 #[.string s, .int .i64 ((k : Int) + 1)] w fun e w' => e = .returned (.int .i64 (chr s (k + 1))) ∧ w' = w) := fun w => at_any s (k + 1) w
      have hlt : k < s.size := chr_lt (by rw [h37]; omega)
      by_cases hcl : k + 1 < s.size ∧ (cls (chr s (k + 1)).toNat).2 = 0
      · have hm : rdMember s k = .inl ((cls (chr s (k + 1)).toNat).1, k + 2) := by rw [HM.out]; unfold rdClass; rw [if_pos hcl]
        have hr' := (show Hid (rdMembers s g (x ||| (cls (chr s (k + 1)).toNat).1) (k + 2) = R) from ((rdMembers_step h93 hm).symm.trans hr.out))
        have hf' := (show Hid (s.size + 1 ≤ g + (k + 2)) from (by have h := hf.out; show _ ≤ _; omega))
        have hb := chr_le s (k + 1)
        have h0 : 0 ≤ chr s (k + 1) := by rw [chr_in hcl.1]; omega
        have HK : Hid (∀ w, Calls Try.prog 25 #[.int .i64 (chr s (k + 1))] w fun e w' => e = .returned (.tuple #[sv (cls (chr s (k + 1)).toNat).1, .int .i64 0]) ∧ Below w.heap.size w w') := fun w => by
          have h := classR_any (chr s (k + 1)).toNat (by omega) w
          rw [hcl.2, show (((chr s (k + 1)).toNat : Nat) : Int) = chr s (k + 1) from by omega] at h
          exact h
        have hk2 : k + 2 ≤ s.size := by omega
        rw [h37] at HC e93
        clear hr hf h93 HIT hcl hm HM h37 hb h0
        generalize (cls (chr s (k + 1)).toNat).1 = y at *
        generalize chr s (k + 1) = q at *
        go_wp2_with fail
        refine (HC.out _).mono ?_
        rintro e w1 ⟨rfl, rfl⟩
        go_wp2_with fail
        refine (HC.out _).mono ?_
        rintro e w1 ⟨rfl, rfl⟩
        go_wp2_with fail
        refine (HD.out _).mono ?_
        rintro e w1 ⟨rfl, rfl⟩
        go_wp2_with fail
        refine (HK.out _).mono ?_
        rintro e w2 ⟨rfl, hb2⟩
        have HA1 := (show Hid _ from ha.out.below hb2 ha.out.h2.lt)
        have hl : w.heap.size + 1 < w2.heap.size := HA1.out.h2.lt
        have HA2 := (show Hid (AtF w (w2.alloc (c4 y)) x) from HA1.out.below (B := w2.heap.size) (below1 _ _) hl)
        clear hb2 ha HA1
        obtain ⟨_, c0, c1, c2, c3, f0, f1, f2, f3⟩ := HA2.out.h2
        go_wp2_with fail
        refine (unionR_any x y _).mono ?_
        rintro e w3 ⟨rfl, hb3⟩
        have HA3 := (show Hid _ from HA2.out.below hb3 HA2.out.h2.lt)
        clear hb3 HA2 c0 c1 c2 c3 f0 f1 f2 f3
        obtain ⟨_, c0, c1, c2, c3, f0, f1, f2, f3⟩ := HA3.out.h2
        go_wp2_with fail
        go_roundw
        case rel => exact ⟨k + 2, g, x ||| y, hk2, by go_num, hf', hr', HA3.out.put (x ||| y)⟩
        case measure => simp [intOf]; omega
      · have hm : rdMember s k = .inr (k, 10) := by rw [HM.out]; unfold rdClass; rw [if_neg hcl]
        have hr' := (show Hid (R = .inr (k, 10)) from (hr.out.symm.trans (rdMembers_err h93 hm)))
        have HK : Hid (∀ w, Calls Try.prog 25 #[.int .i64 (chr s (k + 1))] w fun e w' => (∃ y, e = .returned (.tuple #[sv y, .int .i64 10])) ∧ Below w.heap.size w w') := fun w => by
          by_cases hlt1 : k + 1 < s.size
          · have h0 : 0 ≤ chr s (k + 1) := by rw [chr_in hlt1]; omega
            have hb := chr_le s (k + 1)
            have h := classR_any (chr s (k + 1)).toNat (by omega) w
            rw [show (((chr s (k + 1)).toNat : Nat) : Int) = chr s (k + 1) from by omega, cls_ten _ (fun q => hcl ⟨hlt1, q⟩)] at h
            refine h.mono ?_
            rintro e w' ⟨rfl, hb⟩
            exact ⟨⟨_, rfl⟩, hb⟩
          · refine (smallM_any (chr s (k + 1)) w (by rw [chr_out hlt1]; omega)).mono ?_
            rintro e w' ⟨rfl, hb⟩
            exact ⟨⟨_, rfl⟩, hb⟩
        rw [h37] at HC e93
        clear hr hf h93 HIT hcl hm HM h37
        generalize chr s (k + 1) = q at *
        go_wp2_with fail
        refine (HC.out _).mono ?_
        rintro e w1 ⟨rfl, rfl⟩
        go_wp2_with fail
        refine (HC.out _).mono ?_
        rintro e w1 ⟨rfl, rfl⟩
        go_wp2_with fail
        refine (HD.out _).mono ?_
        rintro e w1 ⟨rfl, rfl⟩
        go_wp2_with fail
        refine (HK.out _).mono ?_
        rintro e w2 ⟨⟨y, rfl⟩, hb2⟩
        have HA1 := (show Hid _ from ha.out.below hb2 ha.out.h2.lt)
        have hl : w.heap.size + 1 < w2.heap.size := HA1.out.h2.lt
        have HA2 := (show Hid (AtF w (w2.alloc (c4 y)) x) from HA1.out.below (B := w2.heap.size) (below1 _ _) hl)
        clear hb2 ha HA1
        obtain ⟨_, c0, c1, c2, c3, f0, f1, f2, f3⟩ := HA2.out.h1
        go_wp2_with fail
        rw [hr'.out]
        refine bodyPost_ret (v := rrV (.inr ((k), 10))) (by simp [results, Try.results47, go_sem, rrV, wd_zero, *]) rfl ⟨rfl, ?_⟩
        exact (((HA2.out.hb.setCell (Nat.le_refl _) _).setCell (Nat.le_refl _) _).setCell (Nat.le_refl _) _).setCell (Nat.le_refl _) _
    have e37 : (chr s k == 37) = false := beq_eq_false_iff_ne.2 h37
    cases hit : rdItem s k with
    | none =>
      have hm : rdMember s k = .inr (k, 6) := by unfold rdMember; rw [if_neg h37, hit]
      have hr' := (show Hid (R = .inr (k, 6)) from (hr.out.symm.trans (rdMembers_err h93 hm)))
      have HK : Hid (∀ w, Calls Try.prog 69 #[.string s, .int .i64 k] w fun e w' => e = .returned (.tuple #[.int .i64 (-1), .int .i64 k]) ∧ Below w.heap.size w w') := fun w => by have h := HIT.out s k hk hs w; rw [hit] at h; exact h
      clear hr hf h93 h37 HIT hm hit
      generalize chr s k = c at *
      go_wp2_with fail
      refine (HC.out _).mono ?_
      rintro e w1 ⟨rfl, rfl⟩
      go_wp2_with fail
      refine (HC.out _).mono ?_
      rintro e w1 ⟨rfl, rfl⟩
      go_wp2_with fail
      refine (HK.out _).mono ?_
      rintro e w2 ⟨rfl, hb2⟩
      have HA1 := (show Hid _ from ha.out.below hb2 ha.out.h2.lt)
      have hl : w.heap.size + 1 < w2.heap.size := HA1.out.h2.lt
      clear hb2 ha
      obtain ⟨_, c0, c1, c2, c3, f0, f1, f2, f3⟩ := HA1.out.h1
      go_wp2_with fail
      rw [hr'.out]
      refine bodyPost_ret (v := rrV (.inr ((k), 6))) (by simp [results, Try.results47, go_sem, rrV, wd_zero, *]) rfl ⟨rfl, ?_⟩
      exact (((HA1.out.hb.setCell (Nat.le_refl _) _).setCell (Nat.le_refl _) _).setCell (Nat.le_refl _) _).setCell (Nat.le_refl _) _
    | some p =>
      obtain ⟨lo, nx⟩ := p
      obtain ⟨b1, b2, b3⟩ := rdItem_bd hit
      have HK : Hid (∀ w, Calls Try.prog 69 #[.string s, .int .i64 k] w fun e w' => e = .returned (.tuple #[.int .i64 lo, .int .i64 nx]) ∧ Below w.heap.size w w') := fun w => by have h := HIT.out s k hk hs w; rw [hit] at h; exact h
      have HN : Hid (∀ w, Calls Try.prog 68 #[.string s, .int .i64 nx] w fun e w' => e = .returned (.int .i64 (chr s nx)) ∧ w' = w) := fun w => at_any s nx w
      have hlo0 : ¬ (lo : Int) < 0 := by omega
      by_cases h45 : chr s nx = 45
      · have hltn : nx < s.size := chr_lt (by rw [h45]; omega)
        rw [h45] at HN
        cases hi2 : rdItem s (nx + 1) with
        | none =>
          have hm : rdMember s k = .inr ((nx + 1), 6) := by unfold rdMember; rw [if_neg h37, hit]; exact (if_pos h45).trans (by rw [hi2])
          have hr' := (show Hid (R = .inr ((nx + 1), 6)) from (hr.out.symm.trans (rdMembers_err h93 hm)))
          have HL : Hid (∀ w, Calls Try.prog 69 #[.string s, .int .i64 ((nx : Int) + 1)] w fun e w' => e = .returned (.tuple #[.int .i64 (-1), .int .i64 ((nx + 1 : Nat) : Int)]) ∧ Below w.heap.size w w') := fun w => by have h := HIT.out s (nx + 1) (by omega) hs w; rw [hi2] at h; exact h
          clear hr hf h93 h37 HIT hm hit hi2 h45
          generalize chr s k = c at *
          go_wp2_with fail
          refine (HC.out _).mono ?_
          rintro e w1 ⟨rfl, rfl⟩
          go_wp2_with fail
          refine (HC.out _).mono ?_
          rintro e w1 ⟨rfl, rfl⟩
          go_wp2_with fail
          refine (HK.out _).mono ?_
          rintro e w2 ⟨rfl, hb2⟩
          have HA1 := (show Hid _ from ha.out.below hb2 ha.out.h2.lt)
          clear hb2 ha
          go_wp2_with fail
          refine (HN.out _).mono ?_
          rintro e w3 ⟨rfl, rfl⟩
          go_wp2_with fail
          refine (HL.out _).mono ?_
          rintro e w4 ⟨rfl, hb4⟩
          have HA2 := (show Hid _ from HA1.out.below hb4 HA1.out.h2.lt)
          have hl : w.heap.size + 1 < w4.heap.size := HA2.out.h2.lt
          clear hb4 HA1
          obtain ⟨_, c0, c1, c2, c3, f0, f1, f2, f3⟩ := HA2.out.h1
          go_wp2_with fail
          rw [hr'.out]
          refine bodyPost_ret (v := rrV (.inr ((nx + 1), 6))) (by simp [results, Try.results47, go_sem, rrV, wd_zero, *]) rfl ⟨rfl, ?_⟩
          exact (((HA2.out.hb.setCell (Nat.le_refl _) _).setCell (Nat.le_refl _) _).setCell (Nat.le_refl _) _).setCell (Nat.le_refl _) _
        | some p2 =>
          obtain ⟨up, en⟩ := p2
          obtain ⟨b4, b5, b6⟩ := rdItem_bd hi2
          have HL : Hid (∀ w, Calls Try.prog 69 #[.string s, .int .i64 ((nx : Int) + 1)] w fun e w' => e = .returned (.tuple #[.int .i64 up, .int .i64 en]) ∧ Below w.heap.size w w') := fun w => by have h := HIT.out s (nx + 1) (by omega) hs w; rw [hi2] at h; exact h
          have hup0 : ¬ (up : Int) < 0 := by omega
          by_cases hul : up < lo
          · have hm : rdMember s k = .inr (k, 1) := by unfold rdMember; rw [if_neg h37, hit]; exact (if_pos h45).trans (by rw [hi2]; exact if_pos hul)
            have hr' := (show Hid (R = .inr (k, 1)) from (hr.out.symm.trans (rdMembers_err h93 hm)))
            have hul' : (up : Int) < (lo : Int) := by omega
            clear hr hf h93 h37 HIT hm hit hi2 h45
            generalize chr s k = c at *
            go_wp2_with fail
            refine (HC.out _).mono ?_
            rintro e w1 ⟨rfl, rfl⟩
            go_wp2_with fail
            refine (HC.out _).mono ?_
            rintro e w1 ⟨rfl, rfl⟩
            go_wp2_with fail
            refine (HK.out _).mono ?_
            rintro e w2 ⟨rfl, hb2⟩
            have HA1 := (show Hid _ from ha.out.below hb2 ha.out.h2.lt)
            clear hb2 ha
            go_wp2_with fail
            refine (HN.out _).mono ?_
            rintro e w3 ⟨rfl, rfl⟩
            go_wp2_with fail
            refine (HL.out _).mono ?_
            rintro e w4 ⟨rfl, hb4⟩
            have HA2 := (show Hid _ from HA1.out.below hb4 HA1.out.h2.lt)
            have hl : w.heap.size + 1 < w4.heap.size := HA2.out.h2.lt
            clear hb4 HA1
            obtain ⟨_, c0, c1, c2, c3, f0, f1, f2, f3⟩ := HA2.out.h1
            go_wp2_with fail
            rw [hr'.out]
            refine bodyPost_ret (v := rrV (.inr ((k), 1))) (by simp [results, Try.results47, go_sem, rrV, wd_zero, *]) rfl ⟨rfl, ?_⟩
            exact (((HA2.out.hb.setCell (Nat.le_refl _) _).setCell (Nat.le_refl _) _).setCell (Nat.le_refl _) _).setCell (Nat.le_refl _) _
          · have hm : rdMember s k = .inl (spn lo up, en) := by unfold rdMember; rw [if_neg h37, hit]; exact (if_pos h45).trans (by rw [hi2]; exact if_neg hul)
            have hr' := (show Hid (rdMembers s g (x ||| spn lo up) en = R) from ((rdMembers_step h93 hm).symm.trans hr.out))
            have hf' := (show Hid (s.size + 1 ≤ g + en) from (by have h := hf.out; show _ ≤ _; omega))
            have hul' : ¬ (up : Int) < (lo : Int) := by omega
            have HFT : Hid (∀ w, Calls Try.prog 60 #[.int .i64 lo, .int .i64 up] w fun e w' => e = .returned (sv (spn lo up)) ∧ Below w.heap.size w w') := fun w => fromTo_any lo up w (by omega) (by omega) (by omega)
            clear hr hf h93 h37 HIT hm hit hi2 h45
            generalize spn (lo : Int) (up : Int) = y at *
            generalize chr s k = c at *
            go_wp2_with fail
            refine (HC.out _).mono ?_
            rintro e w1 ⟨rfl, rfl⟩
            go_wp2_with fail
            refine (HC.out _).mono ?_
            rintro e w1 ⟨rfl, rfl⟩
            go_wp2_with fail
            refine (HK.out _).mono ?_
            rintro e w2 ⟨rfl, hb2⟩
            have HA1 := (show Hid _ from ha.out.below hb2 ha.out.h2.lt)
            clear hb2 ha
            go_wp2_with fail
            refine (HN.out _).mono ?_
            rintro e w3 ⟨rfl, rfl⟩
            go_wp2_with fail
            refine (HL.out _).mono ?_
            rintro e w4 ⟨rfl, hb4⟩
            have HA2 := (show Hid _ from HA1.out.below hb4 HA1.out.h2.lt)
            clear hb4 HA1
            obtain ⟨l0, c0, c1, c2, c3, f0, f1, f2, f3⟩ := HA2.out.h2
            go_wp2_with fail
            go_region_with (first | (go_at_call 60; refine (HFT.out _).mono ?_; rintro e w5 ⟨rfl, hb⟩; have hA2 := (show AtF w w5 x from (by first | exact HA2.out.below hb HA2.out.h2.lt | exact HA2.out.drew.below hb HA2.out.h2.lt)); replace HA2 := (show Hid _ from hA2); clear hA2 hb c0 c1 c2 c3 f0 f1 f2 f3; obtain ⟨_, c0, c1, c2, c3, f0, f1, f2, f3⟩ := HA2.out.h2) | (go_at_call 15; refine (unionR_any x y _).mono ?_; rintro e w6 ⟨rfl, hb⟩; have hA2 := (show AtF w w6 x from (by first | exact HA2.out.below hb HA2.out.h2.lt | exact HA2.out.drew.below hb HA2.out.h2.lt)); replace HA2 := (show Hid _ from hA2); clear hA2 hb c0 c1 c2 c3 f0 f1 f2 f3; obtain ⟨_, c0, c1, c2, c3, f0, f1, f2, f3⟩ := HA2.out.h2))
            all_goals
              go_wp2
              go_roundw
              case rel => exact ⟨en, g, x ||| y, b6, by go_num, hf', hr', HA2.out.put _⟩
              case measure => simp [intOf]; omega
      · have hm : rdMember s k = .inl (spn lo lo, nx) := by unfold rdMember; rw [if_neg h37, hit]; exact if_neg h45
        have hr' := (show Hid (rdMembers s g (x ||| spn lo lo) nx = R) from ((rdMembers_step h93 hm).symm.trans hr.out))
        have hf' := (show Hid (s.size + 1 ≤ g + nx) from (by have h := hf.out; show _ ≤ _; omega))
        have e45 : (chr s nx == 45) = false := beq_eq_false_iff_ne.2 h45
        have HFT : Hid (∀ w, Calls Try.prog 60 #[.int .i64 lo, .int .i64 lo] w fun e w' => e = .returned (sv (spn lo lo)) ∧ Below w.heap.size w w') := fun w => fromTo_any lo lo w (by omega) (by omega) (by omega)
        clear hr hf h93 h37 HIT hm hit h45
        generalize spn (lo : Int) (lo : Int) = y at *
        generalize chr s nx = q at *
        generalize chr s k = c at *
        go_wp2_with fail
        refine (HC.out _).mono ?_
        rintro e w1 ⟨rfl, rfl⟩
        go_wp2_with fail
        refine (HC.out _).mono ?_
        rintro e w1 ⟨rfl, rfl⟩
        go_wp2_with fail
        refine (HK.out _).mono ?_
        rintro e w2 ⟨rfl, hb2⟩
        have HA2 := (show Hid _ from ha.out.below hb2 ha.out.h2.lt)
        clear hb2 ha
        go_wp2_with fail
        refine (HN.out _).mono ?_
        rintro e w3 ⟨rfl, rfl⟩
        obtain ⟨l0, c0, c1, c2, c3, f0, f1, f2, f3⟩ := HA2.out.h2
        go_wp2_with fail
        go_region_with (first | (go_at_call 60; refine (HFT.out _).mono ?_; rintro e w5 ⟨rfl, hb⟩; have hA2 := (show AtF w w5 x from (by first | exact HA2.out.below hb HA2.out.h2.lt | exact HA2.out.drew.below hb HA2.out.h2.lt)); replace HA2 := (show Hid _ from hA2); clear hA2 hb c0 c1 c2 c3 f0 f1 f2 f3; obtain ⟨_, c0, c1, c2, c3, f0, f1, f2, f3⟩ := HA2.out.h2) | (go_at_call 15; refine (unionR_any x y _).mono ?_; rintro e w6 ⟨rfl, hb⟩; have hA2 := (show AtF w w6 x from (by first | exact HA2.out.below hb HA2.out.h2.lt | exact HA2.out.drew.below hb HA2.out.h2.lt)); replace HA2 := (show Hid _ from hA2); clear hA2 hb c0 c1 c2 c3 f0 f1 f2 f3; obtain ⟨_, c0, c1, c2, c3, f0, f1, f2, f3⟩ := HA2.out.h2))
        all_goals
          go_wp2
          go_roundw
          case rel => exact ⟨nx, g, x ||| y, b3, by go_num, hf', hr', HA2.out.put _⟩
          case measure => simp [intOf]; omega
end Go.Proofs.Ytlcmlipldkpliaa
