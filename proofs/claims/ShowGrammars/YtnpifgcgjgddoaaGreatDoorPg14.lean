/- DERIVED. Plain mathematics and walks, laid together (14). -/
import Derived.Test.YtnpifgcgjgddoaaGreatDoorPg13
namespace Go.Proofs.YtnpifgcgjgddoaaGreatDoor
open Go.RowKit
set_option maxRecDepth 100000 in
set_option maxHeartbeats 4000000 in
theorem name_any (s : ByteArray) (w : World) : Calls Tryz.prog 59 #[.string s] w fun e w' => e = .returned (.bool (isNm s)) ∧ w' = w := by
  by_cases h0 : 0 < s.size
  · have e0 := ne_emp h0
    have hc := chr_in h0
    by_cases h1 : s.size ≤ 32
    · have v1 : (s.size : Int) ≤ 32 := by omega
      have v1' : ¬ (32 : Int) < (s.size : Int) := by omega
      have z0 : (0 : Int) < (s.size : Int) := by omega
      have hw : IntKind.i64.wrap ((s[0].toNat : Nat) : Int) = ((s[0].toNat : Nat) : Int) := by have := s[0].toNat_lt; rw [IntKind.wrap_i64]; omega
      have HB : Hid (∀ w, Calls Tryz.prog 83 #[.int .i64 (s[0].toNat : Int)] w fun e w' => e = .returned (.bool (hdB (chr s 0))) ∧ w' = w) := fun w => by rw [hc]; exact head_any _ w
      have HR : Hid (∀ w, Calls Tryz.prog 84 #[.string s, .int .i64 0] w fun e w' => e = .returned (.int .i64 (spN nmB s 0)) ∧ w' = w) := fun w => run_any s 0 (by omega) (by omega) w
      cases hh : hdB (chr s 0)
      · have HE : Hid (isNm s = false) := by show _ = _; unfold isNm; rw [hh]; simp
        rw [hh] at HB
        clear hc hh h1 v1 HR
        go_enter Tryz.func59, Tryz.ntmps59
        go_wp2_with fail
        refine (HB.out _).mono ?_
        rintro e w1 ⟨rfl, rfl⟩
        go_wp2_with fail
        go_ret
        exact ⟨by rw [HE.out]; rfl, rfl⟩
      · have HE : Hid (isNm s = ((spN nmB s 0 : Int) == (s.size : Int))) := by
          show _ = _
          unfold isNm
          rw [hh, decide_eq_true h0, decide_eq_true h1]
          by_cases q : spN nmB s 0 = s.size
          · rw [q, beq_self_eq_true, beq_self_eq_true]; rfl
          · rw [beq_eq_false_iff_ne.2 q, beq_eq_false_iff_ne.2 (show ¬ ((spN nmB s 0 : Nat) : Int) = (s.size : Int) by omega)]; rfl
        rw [hh] at HB
        clear hc hh h1 v1
        generalize spN nmB s 0 = N at *
        go_enter Tryz.func59, Tryz.ntmps59
        go_wp2_with fail
        refine (HB.out _).mono ?_
        rintro e w1 ⟨rfl, rfl⟩
        go_wp2_with fail
        refine (HR.out _).mono ?_
        rintro e w2 ⟨rfl, rfl⟩
        go_wp2_with fail
        go_ret
        exact ⟨by rw [HE.out]; rfl, rfl⟩
    · have v1 : ¬ (s.size : Int) ≤ 32 := by omega
      have v1' : (32 : Int) < (s.size : Int) := by omega
      have HE : Hid (isNm s = false) := by show _ = _; unfold isNm; rw [decide_eq_false h1]; simp
      clear hc h1 h0 v1
      go_enter Tryz.func59, Tryz.ntmps59
      go_wp2_with fail
      go_ret
      exact ⟨by rw [HE.out]; rfl, rfl⟩
  · obtain rfl := emp_of h0
    clear h0
    go_enter Tryz.func59, Tryz.ntmps59
    go_wp2_with fail
    go_ret
    exact ⟨rfl, rfl⟩
end Go.Proofs.YtnpifgcgjgddoaaGreatDoor

namespace Go.Proofs.YtnpifgcgjgddoaaGreatDoor.N
open Go.RowKit
theorem nm_two (s : ByteArray) : T.nmB s = isNm s := by
  cases h : isNm s with
  | false =>
    cases h2 : T.nmB s with
    | false => rfl
    | true => rw [nm_of h2] at h; cases h
  | true =>
    unfold isNm at h
    simp only [Bool.and_eq_true, decide_eq_true_eq, beq_iff_eq] at h
    obtain ⟨⟨⟨h1, h2⟩, h3⟩, h4⟩ := h
    have hc : ∀ (j : Nat) (q : j < s.size), chr s j = (s[j].toNat : Int) := fun j q => chr_in q
    refine T.nmB_t ⟨h1, h2, fun q => ?_, fun j q => ?_⟩
    · rw [hc 0 q] at h3
      unfold hdB at h3
      unfold T.dgB
      simp only [Bool.or_eq_true, Bool.and_eq_true, decide_eq_true_eq, beq_iff_eq] at h3
      simp only [Bool.and_eq_false_iff, decide_eq_false_iff_not]
      omega
    · have h5 := (spN_spec nmB s rfl _ 0 rfl).2.2.2 j (Nat.zero_le _) (by rw [h4]; exact q)
      rw [hc j q] at h5
      unfold nmB hdB dgB at h5
      unfold T.nmC T.dgB T.ltB
      simp only [Bool.or_eq_true, Bool.and_eq_true, decide_eq_true_eq, beq_iff_eq] at h5 ⊢
      omega
set_option maxRecDepth 100000 in
set_option maxHeartbeats 16000000 in
theorem wrongD_any (gs : List (ByteArray × List Nd)) (A : Option Addr) (c : Nat) (hl : gs.length ≤ 140737488355328) (hT : ∀ g ∈ gs, g.1.size ≤ 140737488355328 ∧ g.2.length ≤ 140737488355328 ∧ ∀ n ∈ g.2, n.tx.size ≤ 140737488355328) (w : World) (hp : GrD w A gs) :
    Calls Tryz.prog 36 #[.agg #[.slice A gs.length c]] w fun e w' => e = .returned (.int .i64 (wrR gs)) ∧ Below w.heap.size w w' := by
  obtain ⟨w0, hw0⟩ : ∃ w0, w0 = w.alloc (.cells #[.slice A gs.length c] 33) := ⟨_, rfl⟩
  have hb0 : Below w.heap.size w w0 := by rw [hw0]; exact below_box w _
  have hs0 : w0.heap.size = w.heap.size + 1 := by rw [hw0, World.size_alloc]
  have HE0 := (show Hid (w.alloc (.cells #[.slice A gs.length c] 33) = w0) from hw0.symm)
  have HFin := (show Hid (∀ w', Below (w.heap.size + 1) w0 w' → Below w.heap.size w w') from fun w' h => hb0.trans (h.mono (by omega)))
  have HBx := (show Hid (∀ w', Below (w.heap.size + 1) w0 w' → w'.cell? ⟨w.heap.size, 0, none⟩ = some (.slice A gs.length c)) from fun w' h => (h.cell (p := ⟨w.heap.size, 0, none⟩) (by show w.heap.size < w.heap.size + 1; omega)).trans (by rw [hw0, cell_of_row _ w.heap.size 0 _ 33 (0, 0) (heap_alloc_new w _)]; rfl))
  have a0 := HBx.out w0 (Below.refl _ _)
  by_cases h0 : gs.length = 0
  · have HE := (show Hid (wrR gs = 3) from by show wrR gs = 3; unfold wrR; rw [if_pos h0])
    have t0 : ((gs.length : Int) == 0) = true := beq_iff_eq.2 (by omega)
    clear h0 hp hT hw0 hb0 hs0
    go_enter Tryz.func36, Tryz.ntmps36
    go_wp2_with (rw [HE0.out])
    go_ret
    exact ⟨by rw [HE.out]; rfl, HFin.out _ (Below.refl _ _)⟩
  have t0 : ((gs.length : Int) == 0) = false := beq_eq_false_iff_ne.2 (by omega)
  by_cases h2 : 200 < gs.length
  · have HE := (show Hid (wrR gs = 2) from by show wrR gs = 2; unfold wrR; rw [if_neg h0, if_pos h2])
    have t2 : (200 : Int) < (gs.length : Int) := by omega
    clear h0 hp hT h2 hw0 hb0 hs0
    go_enter Tryz.func36, Tryz.ntmps36
    go_wp2_with (rw [HE0.out])
    go_ret
    exact ⟨by rw [HE.out]; rfl, HFin.out _ (Below.refl _ _)⟩
  have t2 : ¬ (200 : Int) < (gs.length : Int) := by omega
  have HE := (show Hid (wrR gs = wrGo gs.length (ndS gs 0) (gs.drop 0)) from by show wrR gs = _; unfold wrR; rw [if_neg h0, if_neg h2]; rfl)
  have HP := (show Hid (GrD w0 A gs) from hp.later hb0)
  have HG := (show Hid (∀ k, k < gs.length → ∃ g, gs[k]? = some g ∧ g.1.size ≤ 140737488355328 ∧ g.2.length ≤ 140737488355328 ∧ (∀ n ∈ g.2, n.tx.size ≤ 140737488355328) ∧ gs.drop k = g :: gs.drop (k + 1)) from fun k hk => ⟨_, List.getElem?_eq_getElem hk, (hT _ (List.getElem_mem hk)).1, (hT _ (List.getElem_mem hk)).2.1, (hT _ (List.getElem_mem hk)).2.2, List.drop_eq_getElem_cons hk⟩)
  have HN := (show Hid (¬ gs.length = 0) from h0)
  have HS0 := (show Hid (w0.heap.size = w.heap.size + 1) from hs0)
  clear h0 hp hT h2 hw0 hb0 hs0
  go_enter Tryz.func36, Tryz.ntmps36
  go_wp2_with (rw [HE0.out])
  go_loopw [3, 4] (fun v t wr => ∃ k : Nat, k ≤ gs.length ∧ t = .int .i64 k ∧ v = .int .i64 (ndS gs k) ∧ Hid (ndS gs k ≤ 2048) ∧ Hid (wrR gs = wrGo gs.length (ndS gs k) (gs.drop k)) ∧ Hid (Below (w.heap.size + 1) w0 wr)) (fun _ t _ => gs.length - (intOf t).toNat)
  case atStart => exact ⟨0, by omega, by go_num, by go_num, Nat.zero_le _, HE, Below.refl _ _⟩
  case round =>
    obtain ⟨k, hk, rfl, rfl, HQ, HX, HW⟩ := hrel
    clear HE a0
    have a0 := HBx.out wr HW.out
    by_cases hlt : k < gs.length
    · obtain ⟨g, hg, s1, s2, s3, hd⟩ := HG.out k hlt
      obtain ⟨b, o, A2, c2, rfl, lb, x0, x1, r2⟩ := HP.out k g hg
      have x0' := (HW.out.cell (p := ⟨b, o + k * 2, none⟩) (by have := HS0.out; show b < _; omega)).trans x0
      have x1' := (HW.out.cell (p := ⟨b, o + k * 2 + 1, none⟩) (by have := HS0.out; show b < _; omega)).trans x1
      clear x0 x1
      have z0 : (0 : Int) ≤ (k : Int) := by omega
      have z1 : (k : Int) < (gs.length : Int) := by omega
      obtain ⟨w1, hw1⟩ : ∃ w1, w1 = wr.alloc (.cells #[.string g.1, .slice A2 g.2.length c2] 73) := ⟨_, rfl⟩
      have HE1 := (show Hid (wr.alloc (.cells #[.string g.1, .slice A2 g.2.length c2] 73) = w1) from hw1.symm)
      have HR := (show Hid (RB w1 wr.heap.size g.1 (.slice A2 g.2.length c2)) from ⟨by rw [hw1]; exact heap_alloc_new wr _⟩)
      have HW1 := (show Hid (Below (w.heap.size + 1) w0 w1) from by rw [hw1]; exact HW.out.alloc (by have := HW.out.size; have := HS0.out; omega) _)
      have HNm : Hid (∀ W, Calls Tryz.prog 59 #[.string g.1] W fun e W' => e = .returned (.bool (T.nmB g.1)) ∧ W' = W) := fun W => by rw [nm_two]; exact name_any g.1 W
      have HCk : Hid (∀ W, Below (w.heap.size + 1) w0 W → Calls Tryz.prog 30 #[.slice A2 g.2.length c2] W fun e w' => e = .returned (.tuple #[.int .i64 (T.ck g.2).1, .int .i64 (T.ck g.2).2]) ∧ Below W.heap.size W w') := fun W hW => T.checkR_any g.2 A2 c2 s2 s3 W (r2.below hW (by have := HS0.out; omega))
      have hgk := hg
      have HSz := (show Hid (g.2.length ≤ 140737488355328) from s2)
      have y0 := HR.out.c0
      have y1 := HR.out.c1
      have ya := HBx.out w1 HW1.out
      clear hg r2 s1 s2 s3 HW hw1
      cases hnb : T.nmB g.1 with
      | true =>
        rw [hnb] at HNm
        have HU := (show Hid (wrR gs = if (T.ck g.2).2 ≠ 0 then (T.ck g.2).2 else if 2048 < ndS gs k + g.2.length then 2 else wrGo gs.length (ndS gs k + g.2.length) (gs.drop (k + 1))) from by show wrR gs = _; rw [HX.out, hd, wrGo, if_neg (by rintro ⟨_, q⟩; rw [hnb] at q; cases q)])
        have HV := (show Hid ((T.ck g.2).2 = 0 → wrR gs = if 2048 < ndS gs k + g.2.length then 2 else wrGo gs.length (ndS gs k + g.2.length) (gs.drop (k + 1))) from fun h => by rw [HU.out, if_neg (by rw [h]; simp)])
        clear hnb
        by_cases hc : (T.ck g.2).2 = 0
        · have HV2 := (show Hid _ from HV.out hc)
          have tc : ((T.ck g.2).2 != 0) = false := by rw [hc]; rfl
          have hg3 : g.2.length ≤ 2048 := ck_len hc
          have hq := HQ.out
          generalize hcc : (T.ck g.2).2 = cc at *
          clear hcc
          by_cases hn : 2048 < ndS gs k + g.2.length
          · have HF := (show Hid (wrR gs = 2) from by show wrR gs = 2; rw [HV2.out, if_pos hn])
            have tn : (2048 : Int) < (ndS gs k : Int) + (g.2.length : Int) := by omega
            clear HV HV2 HU HX HG HP HQ hn
            go_wp2_with (rw [HE1.out])
            refine (HNm.out _).mono ?_
            rintro e w2 ⟨rfl, rfl⟩
            clear HNm
            go_wp2_with fail
            refine (HCk.out _ HW1.out).mono ?_
            rintro e w3 ⟨rfl, b3⟩
            have HW3 := (show Hid (Below (w.heap.size + 1) w0 w3) from HW1.out.trans (b3.mono (by have := HW1.out.size; have := HS0.out; omega)))
            have x1 := (HR.out.later b3).c1
            clear HCk b3 HR HW1
            go_wp2_with fail
            go_ret
            exact ⟨by rw [HF.out]; rfl, HFin.out _ HW3.out⟩
          · have HF := (show Hid (wrR gs = wrGo gs.length (ndS gs (k + 1)) (gs.drop (k + 1))) from by show wrR gs = _; rw [HV2.out, if_neg hn, ndS_succ hgk])
            have tn : ¬ (2048 : Int) < (ndS gs k : Int) + (g.2.length : Int) := by omega
            have HQ2 := (show Hid (ndS gs (k + 1) ≤ 2048) from by show ndS gs (k + 1) ≤ 2048; rw [ndS_succ hgk]; omega)
            have HS := (show Hid ((ndS gs (k + 1) : Int) = (ndS gs k : Int) + (g.2.length : Int)) from by show (ndS gs (k + 1) : Int) = _; rw [ndS_succ hgk]; omega)
            clear HV HV2 HU HX HP HQ hn hgk
            go_wp2_with (rw [HE1.out])
            refine (HNm.out _).mono ?_
            rintro e w2 ⟨rfl, rfl⟩
            clear HNm
            go_wp2_with fail
            refine (HCk.out _ HW1.out).mono ?_
            rintro e w3 ⟨rfl, b3⟩
            have HW3 := (show Hid (Below (w.heap.size + 1) w0 w3) from HW1.out.trans (b3.mono (by have := HW1.out.size; have := HS0.out; omega)))
            have x1 := (HR.out.later b3).c1
            clear HCk b3 HR HW1
            go_wp2_with fail
            go_roundw
            case rel => exact ⟨k + 1, by omega, by go_num, by rw [HS.out], HQ2, HF, HW3⟩
            case measure => simp [intOf]; omega
        · have tc : ((T.ck g.2).2 != 0) = true := by rw [bne, beq_eq_false_iff_ne.2 hc]; rfl
          have HF := (show Hid (wrR gs = (T.ck g.2).2) from by show wrR gs = _; rw [HU.out, if_pos hc])
          clear HV HU HX HG HP HQ hc
          generalize hcc : (T.ck g.2).2 = cc at *
          clear hcc
          go_wp2_with (rw [HE1.out])
          refine (HNm.out _).mono ?_
          rintro e w2 ⟨rfl, rfl⟩
          clear HNm
          go_wp2_with fail
          refine (HCk.out _ HW1.out).mono ?_
          rintro e w3 ⟨rfl, b3⟩
          have HW3 := (show Hid (Below (w.heap.size + 1) w0 w3) from HW1.out.trans (b3.mono (by have := HW1.out.size; have := HS0.out; omega)))
          clear HCk b3 HR HW1
          go_wp2_with fail
          go_ret
          exact ⟨by rw [HF.out]; rfl, HFin.out _ HW3.out⟩
      | false =>
        rw [hnb] at HNm
        by_cases hs0 : g.1.size = 0
        · have te : (g.1.toList == []) = true := by
            have e := T.emp_t hs0
            rw [List.isEmpty_iff] at e
            rw [e]; rfl
          have te2 := T.emp_t hs0
          by_cases hl1 : gs.length = 1
          · have tl : ¬ (1 : Int) < (gs.length : Int) := by omega
            have HU := (show Hid (wrR gs = if (T.ck g.2).2 ≠ 0 then (T.ck g.2).2 else if 2048 < ndS gs k + g.2.length then 2 else wrGo gs.length (ndS gs k + g.2.length) (gs.drop (k + 1))) from by show wrR gs = _; rw [HX.out, hd, wrGo, if_neg (by rintro ⟨q, _⟩; exact q ⟨hs0, hl1⟩)])
            have HV := (show Hid ((T.ck g.2).2 = 0 → wrR gs = if 2048 < ndS gs k + g.2.length then 2 else wrGo gs.length (ndS gs k + g.2.length) (gs.drop (k + 1))) from fun h => by rw [HU.out, if_neg (by rw [h]; simp)])
            clear hnb hs0 hl1
            by_cases hc : (T.ck g.2).2 = 0
            · have HV2 := (show Hid _ from HV.out hc)
              have tc : ((T.ck g.2).2 != 0) = false := by rw [hc]; rfl
              have hg3 : g.2.length ≤ 2048 := ck_len hc
              have hq := HQ.out
              generalize hcc : (T.ck g.2).2 = cc at *
              clear hcc
              by_cases hn : 2048 < ndS gs k + g.2.length
              · have HF := (show Hid (wrR gs = 2) from by show wrR gs = 2; rw [HV2.out, if_pos hn])
                have tn : (2048 : Int) < (ndS gs k : Int) + (g.2.length : Int) := by omega
                clear HV HV2 HU HX HG HP HQ hn
                go_wp2_with (rw [HE1.out])
                refine (HNm.out _).mono ?_
                rintro e w2 ⟨rfl, rfl⟩
                clear HNm
                go_wp2_with fail
                refine (HCk.out _ HW1.out).mono ?_
                rintro e w3 ⟨rfl, b3⟩
                have HW3 := (show Hid (Below (w.heap.size + 1) w0 w3) from HW1.out.trans (b3.mono (by have := HW1.out.size; have := HS0.out; omega)))
                have x1 := (HR.out.later b3).c1
                clear HCk b3 HR HW1
                go_wp2_with fail
                go_ret
                exact ⟨by rw [HF.out]; rfl, HFin.out _ HW3.out⟩
              · have HF := (show Hid (wrR gs = wrGo gs.length (ndS gs (k + 1)) (gs.drop (k + 1))) from by show wrR gs = _; rw [HV2.out, if_neg hn, ndS_succ hgk])
                have tn : ¬ (2048 : Int) < (ndS gs k : Int) + (g.2.length : Int) := by omega
                have HQ2 := (show Hid (ndS gs (k + 1) ≤ 2048) from by show ndS gs (k + 1) ≤ 2048; rw [ndS_succ hgk]; omega)
                have HS := (show Hid ((ndS gs (k + 1) : Int) = (ndS gs k : Int) + (g.2.length : Int)) from by show (ndS gs (k + 1) : Int) = _; rw [ndS_succ hgk]; omega)
                clear HV HV2 HU HX HP HQ hn hgk
                go_wp2_with (rw [HE1.out])
                refine (HNm.out _).mono ?_
                rintro e w2 ⟨rfl, rfl⟩
                clear HNm
                go_wp2_with fail
                refine (HCk.out _ HW1.out).mono ?_
                rintro e w3 ⟨rfl, b3⟩
                have HW3 := (show Hid (Below (w.heap.size + 1) w0 w3) from HW1.out.trans (b3.mono (by have := HW1.out.size; have := HS0.out; omega)))
                have x1 := (HR.out.later b3).c1
                clear HCk b3 HR HW1
                go_wp2_with fail
                go_roundw
                case rel => exact ⟨k + 1, by omega, by go_num, by rw [HS.out], HQ2, HF, HW3⟩
                case measure => simp [intOf]; omega
            · have tc : ((T.ck g.2).2 != 0) = true := by rw [bne, beq_eq_false_iff_ne.2 hc]; rfl
              have HF := (show Hid (wrR gs = (T.ck g.2).2) from by show wrR gs = _; rw [HU.out, if_pos hc])
              clear HV HU HX HG HP HQ hc
              generalize hcc : (T.ck g.2).2 = cc at *
              clear hcc
              go_wp2_with (rw [HE1.out])
              refine (HNm.out _).mono ?_
              rintro e w2 ⟨rfl, rfl⟩
              clear HNm
              go_wp2_with fail
              refine (HCk.out _ HW1.out).mono ?_
              rintro e w3 ⟨rfl, b3⟩
              have HW3 := (show Hid (Below (w.heap.size + 1) w0 w3) from HW1.out.trans (b3.mono (by have := HW1.out.size; have := HS0.out; omega)))
              clear HCk b3 HR HW1
              go_wp2_with fail
              go_ret
              exact ⟨by rw [HF.out]; rfl, HFin.out _ HW3.out⟩
          · have tl : (1 : Int) < (gs.length : Int) := by have := HN.out; omega
            have HF := (show Hid (wrR gs = 6) from by show wrR gs = 6; rw [HX.out, hd, wrGo, if_pos ⟨fun q => hl1 q.2, hnb⟩])
            clear HX HG HP HQ HCk hnb
            go_wp2_with (rw [HE1.out])
            refine (HNm.out _).mono ?_
            rintro e w2 ⟨rfl, rfl⟩
            clear HNm
            go_wp2_with fail
            go_ret
            exact ⟨by rw [HF.out]; rfl, HFin.out _ HW1.out⟩
        · have te : (g.1.toList == []) = false := by
            have e := T.emp_f hs0
            cases hl : g.1.toList with
            | nil => rw [hl] at e; cases e
            | cons x r => rfl
          have te2 := T.emp_f hs0
          have HF := (show Hid (wrR gs = 6) from by show wrR gs = 6; rw [HX.out, hd, wrGo, if_pos ⟨fun q => hs0 q.1, hnb⟩])
          clear HX HG HP HQ HCk hnb
          go_wp2_with (rw [HE1.out])
          refine (HNm.out _).mono ?_
          rintro e w2 ⟨rfl, rfl⟩
          clear HNm
          go_wp2_with fail
          go_ret
          exact ⟨by rw [HF.out]; rfl, HFin.out _ HW1.out⟩
    · obtain rfl : k = gs.length := by omega
      have z2 : ¬ (gs.length : Int) < (gs.length : Int) := by omega
      have HF := (show Hid (wrR gs = 0) from by show wrR gs = 0; rw [HX.out, List.drop_length]; rfl)
      clear HX HG HP HQ
      go_wp2_with fail
      go_ret
      exact ⟨by rw [HF.out]; rfl, HFin.out _ HW.out⟩
end Go.Proofs.YtnpifgcgjgddoaaGreatDoor.N

namespace Go.Proofs.YtnpifgcgjgddoaaGreatDoor.N
open Go.RowKit
set_option maxRecDepth 100000 in
set_option maxHeartbeats 16000000 in
theorem grammarD_any (gs : List (ByteArray × List Nd)) (A : Option Addr) (c : Nat) (hl : gs.length ≤ 140737488355328) (hT : ∀ g ∈ gs, g.1.size ≤ 140737488355328 ∧ g.2.length ≤ 140737488355328 ∧ ∀ n ∈ g.2, n.tx.size ≤ 140737488355328) (hw : ∀ g ∈ gs, ∀ n ∈ g.2, NdW n) (w : World) (hp : GrD w A gs) :
    Calls Tryz.prog 17 #[.agg #[.slice A gs.length c]] w fun e w' => e = .returned (.tuple #[.string (grR gs).1, .int .i64 (grR gs).2]) ∧ Below w.heap.size w w' := by
  have HX := (show Hid (GX (w.alloc (.cells #[.slice A gs.length c] 33)) w.heap.size (.slice A gs.length c)) from GX.mk (heap_alloc_new w _))
  have HB0 := (show Hid (Below w.heap.size w (w.alloc (.cells #[.slice A gs.length c] 33))) from below_box _ _)
  have HC : Hid (∀ _ : Unit, Calls Tryz.prog 36 #[.agg #[.slice A gs.length c]] (w.alloc (.cells #[.slice A gs.length c] 33)) fun e w' => e = .returned (.int .i64 (wrR gs)) ∧ Below (w.alloc (.cells #[.slice A gs.length c] 33)).heap.size (w.alloc (.cells #[.slice A gs.length c] 33)) w') := fun _ => wrongD_any gs A c hl hT _ (hp.later (below_box _ _))
  by_cases hc : wrR gs = 0
  · have t0 : (wrR gs != 0) = false := by rw [hc]; rfl
    have HE := (show Hid (grR gs = lnR (grT gs)) from by show grR gs = _; unfold grR; rw [if_pos hc])
    obtain ⟨g1, g2, g3, g4⟩ := wr_ok hc
    obtain ⟨i0, hinf, hz0, hz1, hz2⟩ := T.info_parts Tryz.info5d
    have hsz : ∀ g ∈ gs, (T.ck g.2).2 = 0 ∧ g.1.size ≤ 32 := fun g hg => by
      obtain ⟨q1, q2⟩ := g3 g hg
      refine ⟨q1, ?_⟩
      rcases q2 with q | q
      · exact nm_len q
      · omega
    have HP := (show Hid (GrD w A gs) from hp)
    have HG := (show Hid (∀ k, k < gs.length → ∃ g, gs[k]? = some g ∧ T.Rt g.2 ∧ (∀ n ∈ g.2, NdW n) ∧ g.1.size ≤ 32 ∧ ∀ n ∈ g.2, n.tx.size ≤ 140737488355328) from fun k hk => ⟨_, List.getElem?_eq_getElem hk, T.rt_of (hsz _ (List.getElem_mem hk)).1, hw _ (List.getElem_mem hk), (hsz _ (List.getElem_mem hk)).2, (hT _ (List.getElem_mem hk)).2.2⟩)
    have HTk := (show Hid (gs.take gs.length = gs) from List.take_length)
    clear hc hp hT hw hsz g1 g3 g4
    generalize wrR gs = wv at *
    have y0 := HX.out.cl
    go_enter Tryz.func17, Tryz.ntmps17
    go_wp2_with fail
    refine (HC.out ()).mono ?_
    rintro e w1 ⟨rfl, b1⟩
    have HB1 := (show Hid (Below w.heap.size w w1) from HB0.out.trans (b1.mono HB0.out.size))
    have HX1 := (show Hid (GX w1 w.heap.size (.slice A gs.length c)) from HX.out.below b1)
    have hs1 := HB1.out.size
    have hx1 := HX1.out.lt
    clear b1 HC HB0 HX y0
    obtain ⟨B, hB⟩ : ∃ B, B = w1.heap.size := ⟨_, rfl⟩
    have HFin := (show Hid (∀ W, Below B w1 W → Below w.heap.size w W) from fun W hW => HB1.out.trans (hW.mono (by omega)))
    have HBx := (show Hid (∀ W, Below B w1 W → W.cell? ⟨w.heap.size, 0, none⟩ = some (.slice A gs.length c)) from fun W hW => (hW.cell (p := ⟨w.heap.size, 0, none⟩) (by show w.heap.size < B; omega)).trans HX1.out.cl)
    have HBk := (show Hid (∀ W, Below B w1 W → ∀ b, b < w.heap.size → W.heap[b]? = w.heap[b]?) from fun W hW b hb => (hW.block b (by omega)).trans (HB1.out.block b hb))
    have HBs := (show Hid (B ≤ w1.heap.size ∧ w.heap.size ≤ B) from ⟨by omega, by omega⟩)
    have H0 := (show Hid (Bf w1 B (some (grT (gs.take 0))) (.slice none 0 0) ∧ Below B w1 w1 ∧ (grT (gs.take 0)).length ≤ 65536) from ⟨⟨(fun l hl => by cases hl; exact ⟨World.ownsRow_nil _ _ _ _, show 0 ≤ 70000 from Nat.zero_le _⟩), ⟨none, 0, 0, rfl, by decide⟩, [], World.ownsRow_nil _ _ _ _, by decide⟩, Below.refl _ _, show 0 ≤ 65536 from Nat.zero_le _⟩)
    clear hB HX1 hx1 hs1
    go_wp2_with fail
    go_loopw [5, 6] (fun v t wr => ∃ k : Nat, k ≤ gs.length ∧ t = .int .i64 k ∧ (∃ A n c, v = .slice A n c) ∧ Hid (Bf wr B (some (grT (gs.take k))) v ∧ Below B w1 wr ∧ (grT (gs.take k)).length ≤ 65536)) (fun _ t _ => gs.length - (intOf t).toNat)
    case atStart => exact ⟨0, by omega, by go_num, ⟨_, _, _, rfl⟩, H0⟩
    case round =>
      obtain ⟨k, hk, rfl, ⟨Ar, nr, cr, rfl⟩, HW⟩ := hrel
      clear H0
      have y0 := HBx.out wr HW.out.2.1
      have hBw : B ≤ w1.heap.size := HBs.out.1
      by_cases hlt : k < gs.length
      · obtain ⟨g, hg, hrt, hwd, hn32, htx⟩ := HG.out k hlt
        obtain ⟨b, o, A2, c2, rfl, lb, x0, x1, r2⟩ := HP.out k g hg
        obtain ⟨gp, op, rfl, lp, nd⟩ := r2 (by rintro e; have := rt_pos hrt; rw [e] at this; simp at this)
        have x0' : wr.cell? ⟨b, o + k * 2, none⟩ = some (.string g.1) := (World.cell?_of_block (a := ⟨b, o + k * 2, none⟩) (HBk.out wr HW.out.2.1 b lb)).trans x0
        have HX1 := (show Hid (∀ W, Below B w1 W → W.cell? ⟨b, o + k * 2 + 1, none⟩ = some (.slice (some ⟨gp, op, none⟩) g.2.length c2)) from fun W hW => (World.cell?_of_block (a := ⟨b, o + k * 2 + 1, none⟩) (HBk.out W hW b lb)).trans x1)
        have z0 : (0 : Int) ≤ (k : Int) := by omega
        have z1 : (k : Int) < (gs.length : Int) := by omega
        have HBig := (show Hid (65536 < (grT (gs.take (k + 1))).length → grR gs = (⟨#[]⟩, 2)) from fun h => by rw [HE.out]; unfold lnR; rw [if_pos (by have := grT_take gs (k + 1); omega)])
        have HGs := (show Hid (grT (gs.take (k + 1)) = grT (gs.take k) ++ (itT (lnI g) ++ [10])) from grT_succ hg)
        have HPt := (show Hid (∀ l1 W v, Below B w1 W → Bf W B (some l1) v → Calls Tryz.prog 31 #[v, .slice (some ⟨gp, op, none⟩) g.2.length c2] W fun e W' => ∃ v', e = .returned (.tuple #[v', .bool (adT (some l1) (itT (shI g.2))).isSome]) ∧ Bf W' B (adT (some l1) (itT (shI g.2))) v' ∧ Below B w1 W') from fun l1 W v hW hf => by
          have hB1 := HBs.out
          refine (putD_any hrt htx hwd W l1 v (nd.same (HBk.out W hW gp lp)) (by omega) (Nat.le_trans hB1.1 hW.size) hf).mono ?_
          rintro e W' ⟨v', rfl, q1, q2, _⟩
          exact ⟨v', rfl, q1, hW.trans q2⟩)
        have hgl : g.2.length ≤ 2048 := by have := hrt.len; omega
        clear x0 x1 r2 nd hrt hwd htx hg HG HP
        by_cases hs0 : g.1.size = 0
        · have te : (g.1.toList == []) = true := by
            have e := T.emp_t hs0
            rw [List.isEmpty_iff] at e
            rw [e]; rfl
          have te2 := T.emp_t hs0
          obtain ⟨l1, hl1⟩ : ∃ l1, l1 = grT (gs.take k) := ⟨_, rfl⟩
          have HPut := (show Hid _ from HPt.out l1)
          obtain ⟨X, hX⟩ : ∃ X, X = itT (shI g.2) := ⟨_, rfl⟩
          have HE1 := (show Hid (grT (gs.take (k + 1)) = l1 ++ (X ++ [10])) from by show grT (gs.take (k + 1)) = _; rw [HGs.out, ln_text, if_pos hs0, List.nil_append, hl1, hX])
          rw [← hX] at HPut
          have HN := (show Hid (Bf wr B (some l1) (.slice Ar nr cr) ∧ Below B w1 wr) from ⟨by rw [hl1]; exact HW.out.1, HW.out.2.1⟩)
          have x1 := HX1.out wr HW.out.2.1
          clear hX hl1 hs0 HGs HPt HX1 HW
          by_cases hlong : 65536 < l1.length + X.length
          · rw [adT_long hlong] at HPut
            have HF := (show Hid (grR gs = (⟨#[]⟩, 2)) from HBig.out (by rw [HE1.out, List.length_append, List.length_append]; show 65536 < _ + (_ + 1); omega))
            clear hlong HBig HE1
            go_wp2_with fail
            refine (HPut.out _ _ HN.out.2 HN.out.1).mono ?_
            rintro e w4 ⟨v4, rfl, f4, b4⟩
            obtain ⟨l4, o4, le4⟩ := f4.o
            obtain ⟨A4, c4, rfl⟩ := own_form o4
            have HB4 := (show Hid (Below B w1 w4) from b4)
            have hs4 := b4.size
            clear f4 b4 HPut HN x1 y0 x0' te te2
            go_wp2_with (at_builtin; refine wpList_append_own _ rfl _ _ 55 rfl B 5 i0 (.int .u8 0) 1 1 Tryz.underlying55 hinf hz0 hz1 hz2 rfl (by decide) _ _ _ rfl (o4.alloc _) ⟨w4.heap.size, 0, none⟩ 1 1 [.int .u8 10] rfl rfl ?ca1 ?ca2 ?ca3 ?ca4 ?ca5 ?_)
            case ca1 => exact (Q.lit_own [10] (by simp) w4).cells rfl
            case ca2 => intro u hu; simp at hu; subst hu; rfl
            case ca3 => unfold maxLen; omega
            case ca4 => omega
            case ca5 => rw [World.size_alloc]; omega
            intro v5 w5 hown hgrow _
            have HB5 := (show Hid (Below B w1 w5) from (HB4.out.alloc (Nat.le_trans hBw HB4.out.size) (.cells #[.int .u8 10] 5)).grown hgrow (by have := HB4.out.size; rw [World.size_alloc]; omega) (fun j e => (o4.lt j e).1))
            obtain ⟨A5, c5, rfl⟩ := own_form hown
            clear hown hgrow o4 HB4
            go_wp2_with fail
            go_ret2
            exact ⟨by rw [HF.out]; rfl, HFin.out _ HB5.out⟩
          · rw [adT_ok hlong] at HPut
            obtain ⟨Z, hZ⟩ : ∃ Z, Z = l1 ++ X := ⟨_, rfl⟩
            rw [← hZ] at HPut
            have hzl : Z.length ≤ 65536 := by rw [hZ, List.length_append]; omega
            have HZ := (show Hid (grT (gs.take (k + 1)) = Z ++ [10]) from by show grT (gs.take (k + 1)) = _; rw [HE1.out, hZ, List.append_assoc])
            clear hlong HE1 hZ
            go_wp2_with fail
            refine (HPut.out _ _ HN.out.2 HN.out.1).mono ?_
            rintro e w4 ⟨v4, rfl, f4, b4⟩
            obtain ⟨o4, le4⟩ := f4.s Z rfl
            obtain ⟨A4, c4, rfl⟩ := own_form o4
            have HB4 := (show Hid (Below B w1 w4) from b4)
            have hs4 := b4.size
            clear f4 b4 HPut HN x1 y0 x0' te te2
            go_wp2_with (at_builtin; refine wpList_append_own _ rfl _ _ 55 rfl B 5 i0 (.int .u8 0) 1 1 Tryz.underlying55 hinf hz0 hz1 hz2 rfl (by decide) _ _ _ rfl (o4.alloc _) ⟨w4.heap.size, 0, none⟩ 1 1 [.int .u8 10] rfl rfl ?cb1 ?cb2 ?cb3 ?cb4 ?cb5 ?_)
            case cb1 => exact (Q.lit_own [10] (by simp) w4).cells rfl
            case cb2 => intro u hu; simp at hu; subst hu; rfl
            case cb3 => unfold maxLen; omega
            case cb4 => omega
            case cb5 => rw [World.size_alloc]; omega
            intro v5 w5 hown hgrow _
            have HB5 := (show Hid (Below B w1 w5) from (HB4.out.alloc (Nat.le_trans hBw HB4.out.size) (.cells #[.int .u8 10] 5)).grown hgrow (by have := HB4.out.size; rw [World.size_alloc]; omega) (fun j e => (o4.lt j e).1))
            have HF5 := (show Hid (Bf w5 B (some (Z ++ [10])) v5) from by
              have ho : w5.ownsRow B 5 1 v5 (Z ++ [10]).length (Lib.byteCells (Z ++ [10])) ∧ (Z ++ [10]).length ≤ 70000 := ⟨by rw [List.length_append, bcells]; exact hown, by rw [List.length_append]; show _ + 1 ≤ _; omega⟩
              obtain ⟨A9, c9, e9⟩ := own_form hown
              exact ⟨fun l' hl' => by cases hl'; exact ho, ⟨A9, _, c9, e9, by omega⟩, _, ho⟩)
            obtain ⟨A5, c5, rfl⟩ := own_form hown
            clear hown hgrow o4 HB4 le4
            by_cases h5 : 65536 < Z.length + 1
            · have t5 : (65536 : Int) < (Z.length : Int) + 1 := by omega
              have HF := (show Hid (grR gs = (⟨#[]⟩, 2)) from HBig.out (by rw [HZ.out, List.length_append]; show 65536 < _ + 1; omega))
              clear h5 HBig HZ
              go_wp2_with fail
              go_ret2
              exact ⟨by rw [HF.out]; rfl, HFin.out _ HB5.out⟩
            · have t5 : ¬ (65536 : Int) < (Z.length : Int) + 1 := by omega
              have HR := (show Hid (Bf w5 B (some (grT (gs.take (k + 1)))) (.slice A5 (Z.length + 1) c5) ∧ Below B w1 w5 ∧ (grT (gs.take (k + 1))).length ≤ 65536) from by
                refine ⟨by rw [HZ.out]; exact HF5.out, HB5.out, by rw [HZ.out, List.length_append]; show _ + 1 ≤ _; omega⟩)
              clear h5 HBig HZ HF5 HB5
              go_wp2_with fail
              go_roundw
              case rel => exact ⟨k + 1, by omega, by go_num, ⟨_, _, _, rfl⟩, HR⟩
              case measure => simp [intOf]; omega
        · have te : (g.1.toList == []) = false := by
            have e := T.emp_f hs0
            cases hl : g.1.toList with
            | nil => rw [hl] at e; cases e
            | cons x r => rfl
          have te2 := T.emp_f hs0
          obtain ⟨l0, hl0⟩ : ∃ l0, l0 = grT (gs.take k) := ⟨_, rfl⟩
          obtain ⟨l1, hl1⟩ : ∃ l1, l1 = l0 ++ (g.1 ++ ⟨#[32, 60, 45, 32]⟩ : ByteArray).data.toList := ⟨_, rfl⟩
          have HPut := (show Hid _ from HPt.out l1)
          obtain ⟨X, hX⟩ : ∃ X, X = itT (shI g.2) := ⟨_, rfl⟩
          have HE1 := (show Hid (grT (gs.take (k + 1)) = l1 ++ (X ++ [10])) from by
            show grT (gs.take (k + 1)) = _
            rw [HGs.out, ln_text, if_neg hs0, hl1, cat_list, hX, ← hl0]
            show l0 ++ (((g.1.data.toList ++ [32, 60, 45, 32]) ++ itT (shI g.2)) ++ [10]) = (l0 ++ (g.1.data.toList ++ [32, 60, 45, 32])) ++ (itT (shI g.2) ++ [10])
            simp only [List.append_assoc])
          rw [← hX] at HPut
          have hW0 := HW.out
          rw [← hl0] at hW0
          obtain ⟨o0, le0⟩ := hW0.1.s l0 rfl
          have hl0b := hW0.2.2
          have HB3 := (show Hid (Below B w1 wr) from hW0.2.1)
          obtain ⟨An, cn, en⟩ := own_form o0
          injection en with en1 en2 en3
          subst en2
          have HL1 := (show Hid _ from hl1)
          have hs3 := hW0.2.1.size
          have hs4 := HBs.out.1
          have q1 : ¬ 9223372036854775807 < g.1.size + 4 := by omega
          clear hX hl1 hl0 hs0 HGs HPt HW hW0 en1 en3
          go_wp2_with (at_builtin; refine Lib.wpList_append_own_string _ rfl _ _ 55 9 rfl B 5 i0 Tryz.underlying55 Tryz.underlying9 hinf hz0 hz1 hz2 _ _ _ rfl o0 (g.1 ++ ⟨#[32, 60, 45, 32]⟩) rfl ?c3 ?c4 ?c5 ?_)
          case c3 => unfold maxLen; rw [ByteArray.size_append]; show _ + (_ + 4) ≤ _; omega
          case c4 => rw [ByteArray.size_append]; show _ + (_ + 4) ≤ _; omega
          case c5 => omega
          intro v3 w3 hown3 hgrow3 _
          have HN := (show Hid (Bf w3 B (some l1) v3 ∧ Below B w1 w3) from by
            have hsl := dlen (g.1 ++ ⟨#[32, 60, 45, 32]⟩)
            have hsa : (g.1 ++ ⟨#[32, 60, 45, 32]⟩ : ByteArray).size = g.1.size + 4 := by rw [ByteArray.size_append]; rfl
            have ho : w3.ownsRow B 5 1 v3 l1.length (Lib.byteCells l1) ∧ l1.length ≤ 70000 := by
              rw [HL1.out]
              refine ⟨?_, by rw [List.length_append]; omega⟩
              rw [List.length_append, hsl, hsa, bcells, ← scells]
              exact hown3
            obtain ⟨A9, c9, e9⟩ := own_form ho.1
            exact ⟨⟨fun l' hl' => by cases hl'; exact ho, ⟨A9, _, c9, e9, ho.2⟩, _, ho⟩, HB3.out.grown hgrow3 (by omega) (fun j e => (o0.lt j e).1)⟩)
          obtain ⟨A3, n3, c3, rfl, _⟩ := HN.out.1.n
          have x1 := HX1.out w3 HN.out.2
          clear y0
          have y0 := HBx.out w3 HN.out.2
          clear hown3 hgrow3 o0 HB3 HL1 HX1 le0 hl0b hs3 hs4 q1
          by_cases hlong : 65536 < l1.length + X.length
          · rw [adT_long hlong] at HPut
            have HF := (show Hid (grR gs = (⟨#[]⟩, 2)) from HBig.out (by rw [HE1.out, List.length_append, List.length_append]; show 65536 < _ + (_ + 1); omega))
            clear hlong HBig HE1
            go_wp2_with fail
            refine (HPut.out _ _ HN.out.2 HN.out.1).mono ?_
            rintro e w4 ⟨v4, rfl, f4, b4⟩
            obtain ⟨l4, o4, le4⟩ := f4.o
            obtain ⟨A4, c4, rfl⟩ := own_form o4
            have HB4 := (show Hid (Below B w1 w4) from b4)
            have hs4 := b4.size
            clear f4 b4 HPut HN x1 y0 x0' te te2
            go_wp2_with (at_builtin; refine wpList_append_own _ rfl _ _ 55 rfl B 5 i0 (.int .u8 0) 1 1 Tryz.underlying55 hinf hz0 hz1 hz2 rfl (by decide) _ _ _ rfl (o4.alloc _) ⟨w4.heap.size, 0, none⟩ 1 1 [.int .u8 10] rfl rfl ?cd1 ?cd2 ?cd3 ?cd4 ?cd5 ?_)
            case cd1 => exact (Q.lit_own [10] (by simp) w4).cells rfl
            case cd2 => intro u hu; simp at hu; subst hu; rfl
            case cd3 => unfold maxLen; omega
            case cd4 => omega
            case cd5 => rw [World.size_alloc]; omega
            intro v5 w5 hown hgrow _
            have HB5 := (show Hid (Below B w1 w5) from (HB4.out.alloc (Nat.le_trans hBw HB4.out.size) (.cells #[.int .u8 10] 5)).grown hgrow (by have := HB4.out.size; rw [World.size_alloc]; omega) (fun j e => (o4.lt j e).1))
            obtain ⟨A5, c5, rfl⟩ := own_form hown
            clear hown hgrow o4 HB4
            go_wp2_with fail
            go_ret2
            exact ⟨by rw [HF.out]; rfl, HFin.out _ HB5.out⟩
          · rw [adT_ok hlong] at HPut
            obtain ⟨Z, hZ⟩ : ∃ Z, Z = l1 ++ X := ⟨_, rfl⟩
            rw [← hZ] at HPut
            have hzl : Z.length ≤ 65536 := by rw [hZ, List.length_append]; omega
            have HZ := (show Hid (grT (gs.take (k + 1)) = Z ++ [10]) from by show grT (gs.take (k + 1)) = _; rw [HE1.out, hZ, List.append_assoc])
            clear hlong HE1 hZ
            go_wp2_with fail
            refine (HPut.out _ _ HN.out.2 HN.out.1).mono ?_
            rintro e w4 ⟨v4, rfl, f4, b4⟩
            obtain ⟨o4, le4⟩ := f4.s Z rfl
            obtain ⟨A4, c4, rfl⟩ := own_form o4
            have HB4 := (show Hid (Below B w1 w4) from b4)
            have hs4 := b4.size
            clear f4 b4 HPut HN x1 y0 x0' te te2
            go_wp2_with (at_builtin; refine wpList_append_own _ rfl _ _ 55 rfl B 5 i0 (.int .u8 0) 1 1 Tryz.underlying55 hinf hz0 hz1 hz2 rfl (by decide) _ _ _ rfl (o4.alloc _) ⟨w4.heap.size, 0, none⟩ 1 1 [.int .u8 10] rfl rfl ?ce1 ?ce2 ?ce3 ?ce4 ?ce5 ?_)
            case ce1 => exact (Q.lit_own [10] (by simp) w4).cells rfl
            case ce2 => intro u hu; simp at hu; subst hu; rfl
            case ce3 => unfold maxLen; omega
            case ce4 => omega
            case ce5 => rw [World.size_alloc]; omega
            intro v5 w5 hown hgrow _
            have HB5 := (show Hid (Below B w1 w5) from (HB4.out.alloc (Nat.le_trans hBw HB4.out.size) (.cells #[.int .u8 10] 5)).grown hgrow (by have := HB4.out.size; rw [World.size_alloc]; omega) (fun j e => (o4.lt j e).1))
            have HF5 := (show Hid (Bf w5 B (some (Z ++ [10])) v5) from by
              have ho : w5.ownsRow B 5 1 v5 (Z ++ [10]).length (Lib.byteCells (Z ++ [10])) ∧ (Z ++ [10]).length ≤ 70000 := ⟨by rw [List.length_append, bcells]; exact hown, by rw [List.length_append]; show _ + 1 ≤ _; omega⟩
              obtain ⟨A9, c9, e9⟩ := own_form hown
              exact ⟨fun l' hl' => by cases hl'; exact ho, ⟨A9, _, c9, e9, by omega⟩, _, ho⟩)
            obtain ⟨A5, c5, rfl⟩ := own_form hown
            clear hown hgrow o4 HB4 le4
            by_cases h5 : 65536 < Z.length + 1
            · have t5 : (65536 : Int) < (Z.length : Int) + 1 := by omega
              have HF := (show Hid (grR gs = (⟨#[]⟩, 2)) from HBig.out (by rw [HZ.out, List.length_append]; show 65536 < _ + 1; omega))
              clear h5 HBig HZ
              go_wp2_with fail
              go_ret2
              exact ⟨by rw [HF.out]; rfl, HFin.out _ HB5.out⟩
            · have t5 : ¬ (65536 : Int) < (Z.length : Int) + 1 := by omega
              have HR := (show Hid (Bf w5 B (some (grT (gs.take (k + 1)))) (.slice A5 (Z.length + 1) c5) ∧ Below B w1 w5 ∧ (grT (gs.take (k + 1))).length ≤ 65536) from by
                refine ⟨by rw [HZ.out]; exact HF5.out, HB5.out, by rw [HZ.out, List.length_append]; show _ + 1 ≤ _; omega⟩)
              clear h5 HBig HZ HF5 HB5
              go_wp2_with fail
              go_roundw
              case rel => exact ⟨k + 1, by omega, by go_num, ⟨_, _, _, rfl⟩, HR⟩
              case measure => simp [intOf]; omega
      · obtain rfl : k = gs.length := by omega
        have hW := HW.out
        rw [HTk.out] at hW
        have hct := text_bytes (hW.1.s _ rfl).1
        have HB4 := (show Hid (Below w.heap.size w wr) from HFin.out _ hW.2.1)
        have HLn := (show Hid (lnR (grT gs) = (txO (grT gs), 0)) from by show lnR (grT gs) = _; unfold lnR; rw [if_neg (by have := hW.2.2; omega)])
        have hsz : (txO (grT gs)).size ≤ 65536 := by rw [← dlen]; show (grT gs).toArray.toList.length ≤ _; rw [List.toList_toArray]; exact hW.2.2
        clear HG HW hW HP
        generalize txO (grT gs) = Y at *
        go_wp2_with fail
        go_ret2
        exact ⟨by rw [HE.out, HLn.out]; rfl, HB4.out⟩
  · have t0 : (wrR gs != 0) = true := by rw [bne, beq_eq_false_iff_ne.2 hc]; rfl
    have HE := (show Hid (grR gs = (⟨#[]⟩, wrR gs)) from by show grR gs = _; unfold grR; rw [if_neg hc])
    clear hp hT hw hc
    generalize wrR gs = wv at *
    have y0 := HX.out.cl
    go_enter Tryz.func17, Tryz.ntmps17
    go_wp2_with fail
    refine (HC.out ()).mono ?_
    rintro e w1 ⟨rfl, b1⟩
    have HB1 := (show Hid (Below w.heap.size w w1) from HB0.out.trans (b1.mono HB0.out.size))
    clear b1 HC HX HB0 y0
    go_wp2_with fail
    go_ret2
    exact ⟨by rw [HE.out]; rfl, HB1.out⟩
end Go.Proofs.YtnpifgcgjgddoaaGreatDoor.N

namespace Go.Proofs.YtnpifgcgjgddoaaGreatDoor.N
open Go.ChangeShapes Go.WideShapes Go.ChangeAt Go.RowKit
theorem nw_of {n : Nd} (h : T.SeW n) : NdW n := ⟨h.1, h.2.1, h.2.2.1, h.2.2.2⟩
theorem Tryz.cells73 : Tryz.prog.cellsOf 73 = 2 := by kernel_rfl
theorem Tryz.cells33 : Tryz.prog.cellsOf 33 = 1 := by kernel_rfl
theorem Tryz.cells31 : Tryz.prog.cellsOf 31 = 1 := by kernel_rfl
theorem Tryz.cells23 : Tryz.prog.cellsOf 23 = 1 := by kernel_rfl
theorem Tryz.bytes73 : Tryz.prog.bytesOf 73 = 40 := by kernel_rfl
/-- What a rule that came in holds. -/
def RlIn (W : World) (g : ByteArray × List Nd) (A : Option Addr) (c : Nat) : Prop := T.RdN W A g.2 ∧ (A = none → c = 0 ∧ g.2 = []) ∧ g.1.size ≤ 140737488351232 ∧ g.2.length * 64 ≤ 140737488351232 ∧ (∀ n ∈ g.2, n.tx.size ≤ 140737488351232) ∧ ∀ n ∈ g.2, NdW n
/-- A grammar that came in. -/
structure GrIn (W : World) (A : Option Addr) (c : Nat) (gs : List (ByteArray × List Nd)) : Prop where
  d : GrD W A gs
  z : A = none → c = 0 ∧ gs = []
  len : gs.length * 40 ≤ 140737488351232
  each : ∀ (k : Nat) g, gs[k]? = some g → ∃ A2 c2, RlIn W g A2 c2 ∧ ∀ b o, A = some ⟨b, o, none⟩ → W.cell? ⟨b, o + k * 2 + 1, none⟩ = some (.slice A2 g.2.length c2)
set_option maxRecDepth 100000 in
theorem rule_in {H : Type} {enc : TypeId × Value → H} {W : World} {held : Bool} {n : Nat} {cs : List Value} {x : DataW H × List MemPlace} (h : DataW.trod enc Tryz.prog W 0 (fun _ => true) held n 73 cs = some x) (hs : ∀ m ∈ x.1.weights Tryz.prog 73, m ≤ reachBytes) :
    ∃ (s : ByteArray) (A : Option Addr) (c : Nat) (L : List Nd), cs = [.string s, .slice A L.length c] ∧ RlIn W (s, L) A c := by
  have hr : reachBytes = 140737488351232 := by decide
  obtain ⟨y0, y1, k, hx, hl, h0, h1⟩ := trod_struct2 Tryz.underlying73 h
  rw [Tryz.cells73] at hl
  match cs, hl with
  | [a, b], _ =>
    simp only [T.Tryz.cells9, Tryz.cells23, List.drop_zero, List.take_succ_cons, List.take_zero, List.drop_succ_cons] at h0 h1
    obtain ⟨s, e0, e1, _⟩ := DataW.trod_string Tryz.underlying9 h0
    have hd : x.1 = .agg [y0.1, y1.1] := congrArg Prod.fst hx
    rw [hd] at hs
    simp only [DataW.weights, Tryz.underlying73] at hs
    simp only [DataW.weightsEach, List.map_cons, List.map_nil, List.mem_append] at hs
    have hb : ∃ a l c, b = .slice a l c := by
      rcases Go.Deep.open_slice Tryz.underlying23 h1 with ⟨hc, _⟩ | ⟨a, len, cap, m, _, D, Pl, hc, _⟩
      · cases hc; exact ⟨_, _, _, rfl⟩
      · cases hc; exact ⟨_, _, _, rfl⟩
    have ht : DataW.Trod enc Tryz.prog W 0 (fun _ => true) held 23 b y1.1 y1.2 := by
      obtain ⟨a', l', c', rfl⟩ := hb
      exact ⟨k, h1⟩
    obtain ⟨A, c, L, rfl, r, nl, sz, sw⟩ := T.open_pat ht hb
    obtain ⟨s0, s1⟩ := sz (fun m hm => hs m (.inr (.inl hm)))
    have e0' : [a] = [Value.string s] := e0
    cases e0'
    refine ⟨s, A, c, L, rfl, r, nl, ?_, s0, s1, fun n hn => nw_of (sw n hn)⟩
    have := hs s.size (.inl (by rw [e1]; simp only [DataW.weights, List.mem_singleton]; rw [Array.length_toList]; rfl))
    rw [hr] at this
    exact this
set_option maxRecDepth 100000 in
theorem open_gram {H : Type} {enc : TypeId × Value → H} {W : World} {base : Nat} {held : Bool} {v : Value} {d : DataW H} {p : List MemPlace} (h : DataW.Trod enc Tryz.prog W 0 (fun _ => true) held 33 v d p) (hv : Value.okWide Tryz.prog W .any base 33 v) (hs : ∀ n ∈ d.weights Tryz.prog 33, n ≤ reachBytes) :
    ∃ A c gs, v = .agg #[.slice A (List.length (α := ByteArray × List Nd) gs) c] ∧ GrIn W A c gs := by
  have hr : reachBytes = 140737488351232 := by decide
  obtain ⟨cs, rfl, hcs⟩ := okWide_struct Tryz.underlying33 hv
  rw [Tryz.cells33] at hcs
  obtain ⟨l⟩ := cs
  match l, hcs with
  | [u], _ =>
    obtain ⟨fuel, hf⟩ := h
    have hf2 : DataW.trod enc Tryz.prog W 0 (fun _ => true) held fuel 33 [u] = some (d, p) := hf
    obtain ⟨y0, k, hx, _, h0⟩ := trod_struct1 Tryz.underlying33 hf2
    simp only [Tryz.cells31, List.drop_zero, List.take_succ_cons, List.take_zero] at h0
    have hd : d = .agg [y0.1] := congrArg Prod.fst hx
    rw [hd] at hs
    simp only [DataW.weights, Tryz.underlying33] at hs
    simp only [DataW.weightsEach, List.map_cons, List.map_nil, List.append_nil] at hs
    rcases Go.Deep.open_slice Tryz.underlying31 h0 with ⟨hc, hx⟩ | ⟨a, len, cap, m, n, D, Pl, hc, _, hl, hm, hmm, hx, hall⟩
    · have hc : [u] = [.slice none 0 0] := hc
      cases hc
      exact ⟨none, 0, [], rfl, ⟨(fun k g hg => by cases hg), fun _ => ⟨rfl, rfl⟩, (by simp), (fun k g hg => by cases hg)⟩⟩
    · have hc : [u] = [.slice (some a) len cap] := hc
      cases hc
      simp only [if_true] at hmm
      subst hmm
      have hd2 : y0.1 = .slice ((List.range len).map D) ((List.range (m - len)).map fun j => D (len + j)) := congrArg Prod.fst hx
      rw [hd2] at hs
      simp only [DataW.weights, Tryz.underlying31] at hs
      have each : ∀ i, i < len → ∃ q : (ByteArray × List Nd) × Option Addr × Nat, W.cell? (a.add (i * 2)) = some (.string q.1.1) ∧ W.cell? (a.add (i * 2 + 1)) = some (.slice q.2.1 q.1.2.length q.2.2) ∧ RlIn W q.1 q.2.1 q.2.2 := by
        intro i hi
        obtain ⟨cs', h1, h2⟩ := hall i (by omega)
        rw [Tryz.cells73] at h1
        obtain ⟨_, hlen, hcell⟩ := World.cells?_some h1
        obtain ⟨s, A, c, L, rfl, hri⟩ := rule_in h2 (fun k hk => hs k (List.mem_cons_of_mem _ (List.mem_append_left _ (T.weights_all _ 73 _ (D i) (List.mem_map.2 ⟨i, List.mem_range.2 hi, rfl⟩) _ hk))))
        refine ⟨((s, L), A, c), ?_, ?_, hri⟩
        · have e := hcell 0 (by show 0 < 2; omega)
          rw [Go.Deep.add_add] at e
          exact e
        · have e := hcell 1 (by show 1 < 2; omega)
          rw [Go.Deep.add_add] at e
          exact e
      obtain ⟨F, hF⟩ : ∃ F : Nat → (ByteArray × List Nd) × Option Addr × Nat, ∀ i, i < len → W.cell? (a.add (i * 2)) = some (.string (F i).1.1) ∧ W.cell? (a.add (i * 2 + 1)) = some (.slice (F i).2.1 (F i).1.2.length (F i).2.2) ∧ RlIn W (F i).1 (F i).2.1 (F i).2.2 :=
        ⟨fun i => if h : i < len then Classical.choose (each i h) else ((⟨#[]⟩, []), none, 0), fun i h => by simp only [dif_pos h]; exact Classical.choose_spec (each i h)⟩
      have get : ∀ (k : Nat) g, ((List.range len).map fun i => (F i).1)[k]? = some g → k < len ∧ g = (F k).1 := fun k g hg => by
        rw [List.getElem?_map] at hg
        have hk : k < len := by
          by_cases q : k < len
          · exact q
          · rw [List.getElem?_eq_none (by simp; omega)] at hg; cases hg
        rw [List.getElem?_range hk] at hg
        cases hg
        exact ⟨hk, rfl⟩
      refine ⟨some a, m, (List.range len).map fun i => (F i).1, by simp, ⟨fun k g hg => ?_, (fun q => by cases q), ?_, fun k g hg => ?_⟩⟩
      · obtain ⟨hk, rfl⟩ := get k g hg
        obtain ⟨q0, q1, q2⟩ := hF k hk
        obtain ⟨gb, off, spot⟩ := a
        have hspot : spot = none := by simpa [Addr.add] using World.cell?_spot (hF 0 (by omega)).1
        subst hspot
        rw [Addr.add_lit] at q0 q1
        exact ⟨gb, off, (F k).2.1, (F k).2.2, rfl, World.block_lt_of_cell? W _ q0, q0, by rw [Nat.add_assoc]; exact q1, q2.1⟩
      · have := hs _ (List.mem_cons_self ..)
        rw [Tryz.bytes73, hr] at this
        simp only [List.length_map, List.length_range] at this ⊢
        omega
      · obtain ⟨hk, rfl⟩ := get k g hg
        obtain ⟨q0, q1, q2⟩ := hF k hk
        refine ⟨(F k).2.1, (F k).2.2, q2, fun b o e => ?_⟩
        cases e
        rw [Addr.add_lit] at q1
        rw [Nat.add_assoc]
        exact q1
theorem GrIn.tx {W : World} {A : Option Addr} {c : Nat} {gs : List (ByteArray × List Nd)} (h : GrIn W A c gs) : ∀ g ∈ gs, g.1.size ≤ 140737488355328 ∧ g.2.length ≤ 140737488355328 ∧ ∀ n ∈ g.2, n.tx.size ≤ 140737488355328 := fun g hg => by
  obtain ⟨k, hk, rfl⟩ := List.mem_iff_getElem.1 hg
  obtain ⟨A2, c2, ⟨h1, h2, h3, h4, h5, h6⟩, _⟩ := h.each k _ (List.getElem?_eq_getElem hk)
  exact ⟨by omega, by omega, fun n hn => by have := h5 n hn; omega⟩
theorem GrIn.nw {W : World} {A : Option Addr} {c : Nat} {gs : List (ByteArray × List Nd)} (h : GrIn W A c gs) : ∀ g ∈ gs, ∀ n ∈ g.2, NdW n := fun g hg => by
  obtain ⟨k, hk, rfl⟩ := List.mem_iff_getElem.1 hg
  obtain ⟨A2, c2, ⟨h1, h2, h3, h4, h5, h6⟩, _⟩ := h.each k _ (List.getElem?_eq_getElem hk)
  exact h6
end Go.Proofs.YtnpifgcgjgddoaaGreatDoor.N

namespace Go.Proofs.YtnpifgcgjgddoaaGreatDoor.N
open Go.RowKit
/-- A rule that was lent: it, its pattern's block and room. -/
abbrev Le : Type := (ByteArray × List Nd) × Nat × Nat
def lgV (x : Le) : List Value := [.string x.1.1, .slice (some ⟨x.2.1, 0, none⟩) x.1.2.length x.2.2]
def lgc (l : List Le) : List Value := l.flatMap lgV
theorem lgc_app (a b : List Le) : lgc (a ++ b) = lgc a ++ lgc b := List.flatMap_append
theorem lgc_one (x : Le) : lgc [x] = lgV x := by unfold lgc; rw [List.flatMap_cons, List.flatMap_nil, List.append_nil]
theorem lgc_get (l : List Le) : ∀ (k j : Nat) (x : Le) (u : Value) (ys : List Value), l[k]? = some x → (lgV x)[j]? = some u → (lgc l ++ ys)[k * 2 + j]? = some u := by
  induction l with
  | nil => intro k j x u ys h; cases h
  | cons a l ih =>
    intro k j x u ys h hu
    have e : lgc (a :: l) ++ ys = lgV a ++ (lgc l ++ ys) := by unfold lgc; rw [List.flatMap_cons, List.append_assoc]
    rw [e]
    have hj : j < 2 := (List.getElem?_eq_some_iff.1 hu).1
    cases k with
    | zero =>
      cases h
      rw [Nat.zero_mul, Nat.zero_add, List.getElem?_append_left (by show j < 2; exact hj)]
      exact hu
    | succ k =>
      have h2 : l[k]? = some x := by simpa using h
      have e2 : (lgV a).length = 2 := rfl
      rw [List.getElem?_append_right (by rw [e2]; omega), e2, show (k + 1) * 2 + j - 2 = k * 2 + j from by omega]
      exact ih k j x u ys h2 hu
/-- While a grammar is lent. -/
structure LgI (w wr : World) (a : Value) (v : Value) (ov : List Le) : Prop where
  o : wr.ownsRow w.heap.size 73 2 v ov.length (lgc ov)
  e : ∀ x ∈ ov, T.LentR wr w.heap.size x.2.1 x.2.2 x.1.2
  b : Below w.heap.size w wr
  x : GX wr w.heap.size a
  y : GX wr (w.heap.size + 1) (.slice none 0 0)
theorem LgI.later {w wr W' : World} {a v : Value} {ov : List Le} (h : LgI w wr a v ov) (hb : Below wr.heap.size wr W') : LgI w W' a v ov :=
  ⟨T.own_below h.o hb, fun x hx => (h.e x hx).below hb, h.b.trans (hb.mono h.b.size), h.x.below hb, h.y.below hb⟩
theorem LgI.push {w wr wA w5 : World} {a v u : Value} {ov : List Le} {nm : ByteArray} {L : List Nd} {g cap : Nat} (h : LgI w wr a v ov) (hA : Below wr.heap.size wr wA) (hl : T.LentR wA w.heap.size g cap L) (hg : (wA.alloc (.cells #[.string nm, .slice (some ⟨g, 0, none⟩) L.length cap] 73)).grownBy w5 v.ownBlock) (ho : w5.ownsRow w.heap.size 73 2 u (ov.length + 1) (lgc ov ++ [.string nm, .slice (some ⟨g, 0, none⟩) L.length cap])) : LgI w w5 a u (ov ++ [((nm, L), g, cap)]) := by
  have h2 : LgI w (wA.alloc (.cells #[.string nm, .slice (some ⟨g, 0, none⟩) L.length cap] 73)) a v ov := (h.later hA).later (below_box wA _)
  have hl2 : T.LentR (wA.alloc (.cells #[.string nm, .slice (some ⟨g, 0, none⟩) L.length cap] 73)) w.heap.size g cap L := hl.below (below_box wA _)
  have key : ∀ (y : Le), T.LentR (wA.alloc (.cells #[.string nm, .slice (some ⟨g, 0, none⟩) L.length cap] 73)) w.heap.size y.2.1 y.2.2 y.1.2 → T.LentR w5 w.heap.size y.2.1 y.2.2 y.1.2 := fun y hy =>
    own_same (v := .slice (some ⟨y.2.1, 0, none⟩) (y.1.2.length + 1) y.2.2) hy fun k hk => hg.block k (World.ownsRow.lt hy k hk).2 (fun q => own_apart h2.o hy (by decide) q.symm hk)
  refine ⟨?_, fun y hy => ?_, h2.b.grown hg h2.b.size (fun k e => (h2.o.lt k e).1), h2.x.same (hg.block _ h2.x.lt (fun e => h2.x.ne h2.o (by decide) e.symm rfl)), h2.y.same (hg.block _ h2.y.lt (fun e => h2.y.ne h2.o (by decide) e.symm rfl))⟩
  · rw [List.length_append, lgc_app, lgc_one]
    exact ho
  · rcases List.mem_append.1 hy with q | q
    · exact key y (h2.e y q)
    · rw [List.mem_singleton.1 q]
      exact key ((nm, L), g, cap) hl2
/-- A grammar that was lent, and is as it was. -/
structure LgB (w w' : World) (g cap : Nat) (ov : List Le) : Prop where
  o : w'.ownsRow w.heap.size 73 2 (.slice (some ⟨g, 0, none⟩) (ov.length + 1) cap) (ov.length + 1) (lgc ov ++ [.string ⟨#[115, 112, 97, 114, 101, 32, 114, 111, 111, 109]⟩, .slice none 0 0])
  e : ∀ x ∈ ov, T.LentR w' w.heap.size x.2.1 x.2.2 x.1.2
  b : Below w.heap.size w w'
theorem LgB.later {w wr W' : World} {g cap : Nat} {ov : List Le} (h : LgB w wr g cap ov) (hb : Below wr.heap.size wr W') : LgB w W' g cap ov :=
  ⟨T.own_below h.o hb, fun x hx => (h.e x hx).below hb, h.b.trans (hb.mono h.b.size)⟩
theorem LgB.cell {w wr : World} {g cap : Nat} {ov : List Le} (h : LgB w wr g cap ov) {k : Nat} {x : Le} (hk : ov[k]? = some x) : wr.cell? ⟨g, k * 2, none⟩ = some (.string x.1.1) ∧ wr.cell? ⟨g, k * 2 + 1, none⟩ = some (.slice (some ⟨x.2.1, 0, none⟩) x.1.2.length x.2.2) := by
  have hc := h.o.cells (g := g) rfl
  have q0 := hc (k * 2 + 0) _ (lgc_get ov k 0 x _ _ hk rfl)
  have q1 := hc (k * 2 + 1) _ (lgc_get ov k 1 x _ _ hk rfl)
  rw [Addr.add_lit, Nat.zero_add] at q0 q1
  exact ⟨q0, q1⟩
theorem LgB.last {w wr : World} {g cap : Nat} {ov : List Le} (h : LgB w wr g cap ov) : wr.cell? ⟨g, ov.length * 2, none⟩ = some (.string ⟨#[115, 112, 97, 114, 101, 32, 114, 111, 111, 109]⟩) := by
  have hc := h.o.cells (g := g) rfl
  have hlen : (lgc ov).length = ov.length * 2 := by
    have := h.o.1
    rw [List.length_append] at this
    simp only [List.length_cons, List.length_nil] at this
    omega
  have q0 := hc (ov.length * 2) (.string ⟨#[115, 112, 97, 114, 101, 32, 114, 111, 111, 109]⟩) (by rw [List.getElem?_append_right (by omega), hlen, Nat.sub_self]; rfl)
  rw [Addr.add_lit, Nat.zero_add] at q0
  exact q0
theorem LgB.gr {w wr : World} {g cap : Nat} {ov : List Le} {gs : List (ByteArray × List Nd)} (h : LgB w wr g cap ov) (hm : ov.map (·.1) = gs) : GrD wr (some ⟨g, 0, none⟩) gs := fun k r hr => by
  rw [← hm, List.getElem?_map] at hr
  cases hx : ov[k]? with
  | none => rw [hx] at hr; cases hr
  | some x =>
    rw [hx] at hr
    obtain rfl : x.1 = r := by simpa using hr
    obtain ⟨q0, q1⟩ := h.cell hx
    exact ⟨g, 0, some ⟨x.2.1, 0, none⟩, x.2.2, rfl, (h.o.lt g rfl).2, by rw [Nat.zero_add]; exact q0, by rw [Nat.zero_add]; exact q1, (h.e x (List.mem_of_getElem? hx)).rd⟩
theorem enters8 (args : Array Value) (w : World) : (callFunc 8 args).run Tryz.prog w = .ok (.enter 8 args) w := enters_of Tryz.func8 (by kernel_rfl) rfl args w
set_option maxRecDepth 100000 in
set_option maxHeartbeats 8000000 in
theorem lendG_any (gs : List (ByteArray × List Nd)) (A : Option Addr) (c : Nat) (w : World) (hg : GrIn w A c gs) :
    Calls Tryz.prog 15 #[.agg #[.slice A gs.length c]] w fun e w' => ∃ g cap ov, e = .returned (.agg #[.slice (some ⟨g, 0, none⟩) gs.length cap]) ∧ ov.map (·.1) = gs ∧ LgB w w' g cap ov := by
  obtain ⟨i0, hinf, hz0, hz1, hz2⟩ := info_parts Tryz.info41
  have hl := hg.len
  have HG := (show Hid (∀ k, k < gs.length → ∃ g, gs[k]? = some g ∧ g.2.length * 64 ≤ 140737488351232 ∧ ∃ b o A2 c2, A = some ⟨b, o, none⟩ ∧ b < w.heap.size ∧ w.cell? ⟨b, o + k * 2, none⟩ = some (.string g.1) ∧ w.cell? ⟨b, o + k * 2 + 1, none⟩ = some (.slice A2 g.2.length c2) ∧ T.InP w A2 c2 g.2) from fun k hk => by
    have e : gs[k]? = some gs[k] := List.getElem?_eq_getElem hk
    obtain ⟨b, o, _, _, h1, h2, h3, _, _⟩ := hg.d k _ e
    obtain ⟨A3, c3, h6, h7⟩ := hg.each k _ e
    exact ⟨_, e, h6.2.2.2.1, b, o, A3, c3, h1, h2, h3, h7 b o h1, h6.1, h6.2.1⟩)
  have HA := (show Hid (LgI w ((w.alloc (.cells #[.slice A gs.length c] 33)).alloc (.cells #[.slice none 0 0] 33)) (.slice A gs.length c) (.slice none 0 0) []) from
    ⟨World.ownsRow_nil _ _ _ _, (fun x hx => by cases hx), ((Below.refl _ _).alloc (Nat.le_refl _) _).alloc (by rw [World.size_alloc]; omega) _, (GX.mk (heap_alloc_new w _)).below (below_box _ _), ⟨by have h := heap_alloc_new (w.alloc (.cells #[.slice A gs.length c] 33)) (.cells #[.slice none 0 0] 33); rw [World.size_alloc] at h; exact h⟩⟩)
  clear hg
  go_enter Tryz.func15, Tryz.ntmps15
  go_wp2_with fail
  generalize (w.alloc (.cells #[.slice A gs.length c] 33)).alloc (.cells #[.slice none 0 0] 33) = w1 at *
  go_loopw [3, 4] (fun v t wr => ∃ (k : Nat) (ov : List Le) (Av : Option Addr) (cv : Nat), k ≤ gs.length ∧ t = .int .i64 k ∧ v = .slice Av k cv ∧ Hid (ov.length = k ∧ ov.map (·.1) = gs.take k) ∧ Hid (LgI w wr (.slice A gs.length c) (.slice Av k cv) ov)) (fun _ t _ => gs.length - (intOf t).toNat)
  case atStart => exact ⟨0, [], none, 0, Nat.zero_le _, rfl, rfl, ⟨rfl, rfl⟩, HA⟩
  case round =>
    obtain ⟨k, ov, Av, cv, hk, rfl, rfl, HM, HW⟩ := hrel
    clear HA
    have x0 := HW.out.x.cl
    by_cases hlt : k < gs.length
    · obtain ⟨g, hgk, hgl, b, o, A2, c2, rfl, lb, e0, e1, hin⟩ := HG.out k hlt
      have z0 : (0 : Int) ≤ (k : Int) := by omega
      have z1 : (k : Int) < (gs.length : Int) := by omega
      have hD : Below wr.heap.size wr wr.drew := (Below.refl _ _).drew
      have HLd := (show Hid (LgI w wr.drew (.slice (some ⟨b, o, none⟩) gs.length c) (.slice Av k cv) ov) from HW.out.later hD)
      have d0 := (HLd.out.b.cell (p := ⟨b, o + k * 2, none⟩) lb).trans e0
      have d1 := (HLd.out.b.cell (p := ⟨b, o + k * 2 + 1, none⟩) lb).trans e1
      have dx := HLd.out.x.cl
      have hsz : w.heap.size ≤ wr.heap.size := HW.out.b.size
      have HCall := (show Hid (∀ _ : Unit, Calls Tryz.prog 8 #[.slice A2 g.2.length c2] wr.drew fun e w' => (∃ g9 cap, e = .returned (.slice (some ⟨g9, 0, none⟩) g.2.length cap) ∧ T.LentR w' w.heap.size g9 cap g.2) ∧ Below wr.drew.heap.size wr.drew w') from fun _ => by
        refine (T.lend_any A2 c2 g.2 wr.drew hgl ⟨hin.1.below HLd.out.b (Nat.le_refl _), hin.2⟩).mono ?_
        rintro e w' ⟨⟨g9, cap, rfl, r9⟩, b9⟩
        exact ⟨⟨g9, cap, rfl, T.own_base r9 (by show w.heap.size ≤ wr.heap.size; exact hsz)⟩, b9⟩)
      have HAft := (show Hid (∀ wA, Below wr.drew.heap.size wr.drew wA → wA.cell? ⟨w.heap.size, 0, none⟩ = some (.slice (some ⟨b, o, none⟩) gs.length c) ∧ wA.cell? ⟨b, o + k * 2, none⟩ = some (.string g.1)) from fun wA hA => by
        have h3 := HLd.out.later hA
        exact ⟨h3.x.cl, (h3.b.cell (p := ⟨b, o + k * 2, none⟩) lb).trans e0⟩)
      have HTk := (show Hid (gs.take (k + 1) = gs.take k ++ [g]) from by rw [List.take_add_one, hgk]; rfl)
      have hov := HM.out.1
      have HO := (show Hid (wr.drew.ownsRow w.heap.size 73 2 (.slice Av k cv) k (lgc ov)) from by have h := HLd.out.o; rw [hov] at h; exact h)
      clear hgk hin e0 e1 HG hlt hov
      obtain ⟨nm, L⟩ := g
      simp only at d0 d1 HCall HAft HTk hgl
      go_wp2_with fail
      go_region_law (first
        | (refine T.step_call1 enters8 rfl _ _ (by rfl) (.slice A2 L.length c2) (by rfl) ?_; with_reducible refine (HCall.out ()).mono ?_; rintro e wA ⟨⟨g, cap, rfl, rA⟩, bA⟩; refine ⟨_, rfl, ?_⟩; obtain ⟨ax, a0⟩ := HAft.out wA bA)
        | (refine step_append_lies _ (by rfl) _ _ _ (by rfl) w.heap.size 73 i0 (.agg #[.string ⟨#[]⟩, .slice none 0 0]) 2 40 Tryz.underlying31 hinf hz0 hz1 hz2 rfl (by omega) _ _ (lgc ov) (by rfl) ((T.own_below HO.out bA).alloc _) ⟨wA.heap.size, 0, none⟩ 1 1 [.string nm, .slice (some ⟨g, 0, none⟩) L.length cap] (by rfl) (by rfl) (World.news_of_block (cs := #[.string nm, .slice (some ⟨g, 0, none⟩) L.length cap]) (t := 73) (fr := (0, 0)) (heap_alloc_new wA _)) (by intro u hu; simp only [List.mem_cons, List.not_mem_nil, or_false] at hu; rcases hu with rfl | rfl <;> rfl) (by omega) (by unfold maxLen; omega) (by omega) (by have q1 := bA.size; have q2 : wr.drew.heap.size = wr.heap.size := rfl; rw [World.size_alloc]; omega) (wA.heap.size + 1) (by simp) ?_; intro g3 cap3 w5 hown hgrow hat hltg))
      all_goals
        have HN := (show Hid (LgI w w5 (.slice (some ⟨b, o, none⟩) gs.length c) (.slice (some ⟨g3, 0, none⟩) (k + 1) cap3) (ov ++ [((nm, L), g, cap)])) from by
          have q2 : wr.drew.heap.size = wr.heap.size := rfl
          have hA : Below wr.heap.size wr wA := hD.trans (by rw [← q2]; exact bA)
          exact HW.out.push hA rA hgrow (by rw [HM.out.1]; exact hown))
        clear hown hgrow hat hltg rA bA ax a0 HCall HAft HO HLd HW hD
        go_wp2_with fail
        go_roundw
        case rel => exact ⟨k + 1, _, _, _, by omega, by go_num, rfl, ⟨by rw [List.length_append, HM.out.1]; rfl, by rw [List.map_append, HM.out.2, HTk.out]; rfl⟩, HN⟩
        case measure => simp [intOf]; omega
    · obtain rfl : k = gs.length := by omega
      have hov := HM.out.1
      have hO := HW.out.o
      rw [hov] at hO
      have hsz : w.heap.size ≤ wr.heap.size := HW.out.b.size
      have HMm := (show Hid (ov.map (·.1) = gs) from by have := HM.out.2; rw [List.take_length] at this; exact this)
      have HWl := (show Hid (LgI w (wr.alloc (.cells #[.string ⟨#[115, 112, 97, 114, 101, 32, 114, 111, 111, 109]⟩, .slice none 0 0] 73)) (.slice A gs.length c) (.slice Av gs.length cv) ov) from HW.out.later (below_box _ _))
      have HL := (show Hid (ov.length = gs.length) from hov)
      clear HG hlt hov HM HW
      go_wp2_with (at_builtin; refine wpList_append_lies _ rfl _ _ 31 rfl w.heap.size 73 i0 (.agg #[.string ⟨#[]⟩, .slice none 0 0]) 2 40 Tryz.underlying31 hinf hz0 hz1 hz2 rfl (by decide) _ _ _ rfl (hO.alloc _) ⟨wr.heap.size, 0, none⟩ 1 1 [.string ⟨#[115, 112, 97, 114, 101, 32, 114, 111, 111, 109]⟩, .slice none 0 0] rfl rfl ?c1 ?c2 (by decide) ?c3 ?c4 ?c5 (wr.heap.size + 1) (by simp) ?_)
      case c1 => exact World.news_of_block (cs := #[.string ⟨#[115, 112, 97, 114, 101, 32, 114, 111, 111, 109]⟩, .slice none 0 0]) (t := 73) (fr := (0, 0)) (heap_alloc_new wr _)
      case c2 => intro u hu; simp only [List.mem_cons, List.not_mem_nil, or_false] at hu; rcases hu with rfl | rfl <;> rfl
      case c3 => unfold maxLen; omega
      case c4 => omega
      case c5 => rw [World.size_alloc]; omega
      intro g3 cap3 w5 hown hgrow hat hltg
      have hcap : gs.length + 1 ≤ cap3 := by
        rcases hown.2 with ⟨q, _⟩ | ⟨g2, c2, cur, q, _, _, h3, _⟩
        · cases q
        · cases q; exact h3
      have HF := (show Hid (GX w5 (w.heap.size + 1) (.slice none 0 0) ∧ LgB w w5 g3 cap3 ov) from by
        have h2 := HWl.out
        have key : ∀ (y : Le), T.LentR (wr.alloc (.cells #[.string ⟨#[115, 112, 97, 114, 101, 32, 114, 111, 111, 109]⟩, .slice none 0 0] 73)) w.heap.size y.2.1 y.2.2 y.1.2 → T.LentR w5 w.heap.size y.2.1 y.2.2 y.1.2 := fun y hy =>
          own_same (v := .slice (some ⟨y.2.1, 0, none⟩) (y.1.2.length + 1) y.2.2) hy fun k hk => hgrow.block k (World.ownsRow.lt hy k hk).2 (fun q => own_apart h2.o hy (by decide) q.symm hk)
        refine ⟨h2.y.same (hgrow.block _ h2.y.lt (fun e => h2.y.ne h2.o (by decide) e.symm rfl)), ?_, fun y hy => key y (h2.e y hy), h2.b.grown hgrow h2.b.size (fun k e => (h2.o.lt k e).1)⟩
        rw [HL.out]
        exact hown)
      have hf := HF.out.1.fz
      have hcl := HF.out.1.cl
      have z0 : (0 : Int) ≤ (gs.length : Int) := by omega
      have z1 : (gs.length : Int) ≤ (cap3 : Int) := by omega
      clear hown hgrow hat hltg hO HWl x0
      go_wp2_with fail
      refine ret_gx rfl rfl rfl (HF.out.1.set _) ?_
      have hb := HF.out.2
      have hk : (w5.setCell ⟨w.heap.size + 1, 0, none⟩ (.slice (some ⟨g3, 0, none⟩) gs.length cap3)).heap.size = w5.heap.size := by simp [World.setCell]
      have key : ∀ (j : Nat), j ≠ w.heap.size + 1 → (w5.setCell ⟨w.heap.size + 1, 0, none⟩ (.slice (some ⟨g3, 0, none⟩) gs.length cap3)).heap[j]? = w5.heap[j]? := fun j hj => Below.heap_setCell _ _ _ _ hj
      refine ⟨g3, cap3, ov, rfl, HMm.out, own_same hb.o fun j hj => key j (HF.out.1.ne hb.o (by decide) hj), fun y hy => ?_, hb.b.setCell (p := ⟨w.heap.size + 1, 0, none⟩) (by show w.heap.size ≤ w.heap.size + 1; omega) _⟩
      exact own_same (v := .slice (some ⟨y.2.1, 0, none⟩) (y.1.2.length + 1) y.2.2) (hb.e y hy) fun j hj => key j (HF.out.1.ne (hb.e y hy) (by decide) hj)
end Go.Proofs.YtnpifgcgjgddoaaGreatDoor.N

namespace Go.Proofs.YtnpifgcgjgddoaaGreatDoor.N
open Go.RowKit
set_option maxRecDepth 100000 in
set_option maxHeartbeats 4000000 in
theorem keptq (A : Option Addr) (c g cap B : Nat) (L : List Nd) (hl : L.length * 64 ≤ 140737488351232) (w : World) (h : T.RdN w A L) (ho : T.LentR w B g cap L) :
    Calls Tryz.prog 13 #[.slice (some ⟨g, 0, none⟩) L.length cap, .slice A L.length c] w fun e w' => e = .returned (.bool true) ∧ ∃ m, w' = w.drewN m := by
  have HS : Hid (∀ _ : Unit, Calls Tryz.prog 20 #[.slice (some ⟨g, 0, none⟩) L.length cap, .slice A L.length c] w fun e w' => e = .returned (.bool true) ∧ ∃ m, w' = w.drewN m) := fun _ => sameq (some ⟨g, 0, none⟩) A cap c L (by omega) w ho.rd h
  have hcap := T.own_cap ho
  have HO := (show Hid (∀ w', Below w.heap.size w w' → T.NB w' g (L.length * 7) (T.zN (-77))) from fun w' hb => (ho.below hb).last)
  clear ho h
  have z0 : (0 : Int) ≤ (L.length : Int) := by omega
  have z1 : (L.length : Int) + 1 ≤ (cap : Int) := by omega
  have z2 : (L.length : Int) < (L.length : Int) + 1 := by omega
  have hq := T.node_eql (T.zN (-77)) (T.zN (-77))
  rw [T.ndE_refl] at hq
  generalize L.length = n at *
  go_enter Tryz.func13, Tryz.ntmps13
  go_wp2_with fail
  refine (HS.out ()).mono ?_
  rintro e w1 ⟨rfl, hb⟩
  obtain ⟨c0, c1, c2, c3, c4, c5, c6⟩ := HO.out w1 (by obtain ⟨m, rfl⟩ := hb; exact T.below_drewN (Below.refl _ _) _)
  have HB := (show Hid _ from hb)
  clear hb HS HO
  unfold T.zN at c0 c1 c2 c3 c4 c5 c6 hq
  dsimp only at c0 c1 c2 c3 c4 c5 c6
  go_wp2_with fail
  go_ret
  exact ⟨rfl, HB.out⟩
/-- While a grammar that was lent is held against what it was. -/
structure AtK (w0 w wr : World) (u1 u2 : Value) (A : Option Addr) (gs : List (ByteArray × List Nd)) (g cap : Nat) (ov : List Le) : Prop where
  b : Below w.heap.size w wr
  x1 : GX wr w.heap.size u1
  x2 : GX wr (w.heap.size + 1) u2
  l : LgB w0 wr g cap ov
  d : GrD wr A gs
theorem AtK.later {w0 w wr W' : World} {u1 u2 : Value} {A : Option Addr} {gs : List (ByteArray × List Nd)} {g cap : Nat} {ov : List Le} (h : AtK w0 w wr u1 u2 A gs g cap ov) (hb : Below wr.heap.size wr W') : AtK w0 w W' u1 u2 A gs g cap ov :=
  ⟨h.b.trans (hb.mono h.b.size), h.x1.below hb, h.x2.below hb, h.l.later hb, h.d.later hb⟩
set_option maxRecDepth 100000 in
set_option maxHeartbeats 8000000 in
theorem keptG_any {gs : List (ByteArray × List Nd)} {ov : List Le} (hm : ov.map (·.1) = gs) (hl : ∀ g ∈ gs, g.2.length * 64 ≤ 140737488351232) (hn : gs.length * 40 ≤ 140737488351232) {w0 w : World} {A : Option Addr} {c g cap : Nat} (h1 : LgB w0 w g cap ov) (h2 : GrD w A gs) :
    Calls Tryz.prog 18 #[.agg #[.slice (some ⟨g, 0, none⟩) gs.length cap], .agg #[.slice A gs.length c]] w fun e w' => e = .returned (.bool true) ∧ Below w.heap.size w w' := by
  have hov : ov.length = gs.length := by rw [← hm, List.length_map]
  have HA := (show Hid (AtK w0 w ((w.alloc (.cells #[.slice (some ⟨g, 0, none⟩) gs.length cap] 33)).alloc (.cells #[.slice A gs.length c] 33)) (.slice (some ⟨g, 0, none⟩) gs.length cap) (.slice A gs.length c) A gs g cap ov) from
    ⟨((Below.refl _ _).alloc (Nat.le_refl _) _).alloc (by rw [World.size_alloc]; omega) _, (GX.mk (heap_alloc_new w _)).below (below_box _ _), ⟨by have h := heap_alloc_new (w.alloc (.cells #[.slice (some ⟨g, 0, none⟩) gs.length cap] 33)) (.cells #[.slice A gs.length c] 33); rw [World.size_alloc] at h; exact h⟩, (h1.later (below_box _ _)).later (below_box _ _), (h2.later (below_box _ _)).later (below_box _ _)⟩)
  have hcap : gs.length + 1 ≤ cap := by rw [← hov]; exact T.own_cap h1.o
  have HG := (show Hid (∀ k, k < gs.length → ∃ x, ov[k]? = some x ∧ gs[k]? = some x.1 ∧ x ∈ ov ∧ x.1.2.length * 64 ≤ 140737488351232) from fun k hk => by
    obtain ⟨x, e⟩ : ∃ x, ov[k]? = some x := ⟨_, List.getElem?_eq_getElem (by omega)⟩
    have e2 : gs[k]? = some x.1 := by rw [← hm, List.getElem?_map, e]; rfl
    exact ⟨x, e, e2, List.mem_of_getElem? e, hl _ (List.mem_of_getElem? e2)⟩)
  have q1 := HA.out.x1.cl
  have q2 := HA.out.x2.cl
  have q3 := HA.out.l.last
  rw [hov] at q3
  have z0 : (0 : Int) ≤ (gs.length : Int) := by omega
  have z1 : (gs.length : Int) + 1 ≤ (cap : Int) := by omega
  have z2 : (gs.length : Int) < (gs.length : Int) + 1 := by omega
  clear hl hm h1 h2 hov hcap
  generalize gs.length = n at *
  go_enter Tryz.func18, Tryz.ntmps18
  go_wp2_with fail
  generalize (w.alloc (.cells #[.slice (some ⟨g, 0, none⟩) n cap] 33)).alloc (.cells #[.slice A n c] 33) = w1 at *
  go_wp2_with fail
  clear q1 q2 q3
  go_loopw [6] (fun t wr => ∃ k : Nat, k ≤ n ∧ t = .int .i64 k ∧ Hid (AtK w0 w wr (.slice (some ⟨g, 0, none⟩) n cap) (.slice A n c) A gs g cap ov)) (fun t _ => n - (intOf t).toNat)
  case atStart => exact ⟨0, by omega, by go_num, HA⟩
  case round =>
    obtain ⟨k, hk, rfl, HW⟩ := hrel
    clear HA
    have q1 := HW.out.x1.cl
    have q2 := HW.out.x2.cl
    by_cases hlt : k < n
    · obtain ⟨x, hx, hgx, hxm, hxl⟩ := HG.out k hlt
      obtain ⟨y0, y1⟩ := HW.out.l.cell hx
      obtain ⟨b2, o2, B2, d2, hA2, l2, x0, x1, r2⟩ := HW.out.d k _ hgx
      subst hA2
      have HS : Hid (∀ n, Calls Tryz.prog 13 #[.slice (some ⟨x.2.1, 0, none⟩) x.1.2.length x.2.2, .slice B2 x.1.2.length d2] (wr.drewN n) fun e w' => e = .returned (.bool true) ∧ ∃ m, w' = (wr.drewN n).drewN m) := fun n => keptq B2 d2 x.2.1 x.2.2 w0.heap.size x.1.2 hxl _ (r2.below (T.below_drewN (Below.refl _ _) _) (Nat.le_refl _)) ((HW.out.l.e x hxm).below (T.below_drewN (Below.refl _ _) _))
      have u0 : (0 : Int) ≤ (k : Int) := by omega
      have u1 : (k : Int) < (n : Int) := by omega
      clear HG r2 hx hgx hxm hxl z0 z1 z2
      generalize x.1.2.length = gl at *
      generalize x.1.1 = nm at *
      generalize x.2.1 = xb at *
      generalize x.2.2 = xc at *
      go_wp2_with fail
      go_quiet ((go_at_call 13; exact Calls.quiet_of (HS.out _)))
      have HW2 := (show Hid (AtK w0 w (wr.drewN nq) (.slice (some ⟨g, 0, none⟩) n cap) (.slice (some ⟨b2, o2, none⟩) n c) (some ⟨b2, o2, none⟩) gs g cap ov) from HW.out.later (T.below_drewN (Below.refl _ _) _))
      generalize wr.drewN nq = w2 at *
      clear HW q1 q2 y0 y1 x0 x1
      go_wp2_with fail
      go_roundw
      case rel => exact ⟨k + 1, by omega, by go_num, HW2⟩
      case measure => simp [intOf]; omega
    · obtain rfl : k = n := by omega
      clear HG
      go_wp2_with fail
      go_ret
      exact ⟨rfl, HW.out.b⟩
end Go.Proofs.YtnpifgcgjgddoaaGreatDoor.N

namespace Go.Proofs.YtnpifgcgjgddoaaGreatDoor.N
open Go.RowKit
theorem nw_z {n : Nd} (h : n.s0 = 0 ∧ n.s1 = 0 ∧ n.s2 = 0 ∧ n.s3 = 0) : NdW n := by
  obtain ⟨a, b, c, d⟩ := h
  exact ⟨by omega, by omega, by omega, by omega⟩
end Go.Proofs.YtnpifgcgjgddoaaGreatDoor.N
