/- DERIVED. Plain mathematics and walks, laid together (6). -/
import Derived.Lib.ConvBytes
import Derived.Lib.AtoiErrMem
import Derived.Lib.UnsafeStr
import Derived.Lib.AppendStr
import Derived.Deep.RegionLaw
import Derived.Test.YtppggnmlbcdegaaRg05
namespace Go.Proofs.Ytppggnmlbcdegaa.N
open Go.RowKit Go.Maps
open Go.Proofs.Ytppggnmlbcdegaa.T
theorem tw_fd {gs : GL} {k : Nat} {g : ByteArray × List Nd} (hg : gs[k]? = some g) : tw gs g.1 k = true ↔ fdN gs g.1 < (k : Int) := by
  unfold tw fdN
  cases h : fdG gs g.1 with
  | some i => simp
  | none => exact absurd rfl (fdG_none.1 h g (List.mem_of_getElem? hg))
/-- The boxes of a grammar and of a spot. -/
structure DcS (w wr : World) (u : Value) : Prop where
  b : Below w.heap.size w wr
  x : GX wr w.heap.size u
  s : SX wr (w.heap.size + 1) 0 0
theorem DcS.later {w wr W' : World} {u : Value} (h : DcS w wr u) (hb : Below wr.heap.size wr W') : DcS w W' u := ⟨h.b.trans (hb.mono h.b.size), h.x.below hb, h.s.below hb⟩
set_option maxRecDepth 100000 in
set_option maxHeartbeats 32000000 in
theorem checkD_any (gs : GL) (A : Option Addr) (c : Nat) (w : World) (hp : GI w A gs) :
    Calls Try.prog 11 #[.agg #[.slice A gs.length c]] w fun e w' => e = .returned (.tuple #[.agg #[.int .i64 (ckG gs).1.1, .int .i64 (ckG gs).1.2], .int .i64 (ckG gs).2]) ∧ Below w.heap.size w w' := by
  obtain ⟨w1, hw1⟩ : ∃ w1, w1 = (w.alloc (.cells #[.slice A gs.length c] 24)).alloc (.cells #[.int .i64 0, .int .i64 0] 27) := ⟨_, rfl⟩
  have HS : Hid (DcS w w1 (.slice A gs.length c)) := by
    show DcS _ _ _
    rw [hw1]
    exact ⟨((Below.refl _ _).alloc (Nat.le_refl _) _).alloc (by rw [World.size_alloc]; omega) _, (GX.mk (heap_alloc_new w _)).below (below_box _ _), ⟨by have h := heap_alloc_new (w.alloc (.cells #[.slice A gs.length c] 24)) (.cells #[.int .i64 0, .int .i64 0] 27); rw [World.size_alloc] at h; exact h⟩⟩
  have q1 := HS.out.x.cl
  have hl := hp.l
  by_cases h0 : gs.length = 0
  · have HF := (show Hid (ckG gs = ((0, 0), 3)) from by show ckG gs = _; unfold ckG; rw [if_pos h0])
    have t0 : ((gs.length : Int) == 0) = true := beq_iff_eq.2 (by omega)
    have HBz := (show Hid (Below w.heap.size w w1) from HS.out.b)
    have c0 := HS.out.s.c0
    have c1 := HS.out.s.c1
    have f0 := HS.out.s.fz 0
    have f1 := HS.out.s.fz 1
    clear h0 hp HS
    go_enter Try.func11, Try.ntmps11
    go_wp2_with fail
    rw [← hw1]
    go_wp2_with fail
    refine bodyPost_ret (v := .tuple #[.agg #[.int .i64 0, .int .i64 0], .int .i64 3]) (by simp [results, Try.results11, go_sem, c0, c1]) rfl ⟨by rw [HF.out]; try rfl, HBz.out⟩
  have t0 : ((gs.length : Int) == 0) = false := beq_eq_false_iff_ne.2 (by omega)
  by_cases h2 : 200 < gs.length
  · have HF := (show Hid (ckG gs = ((0, 0), 2)) from by show ckG gs = _; unfold ckG; rw [if_neg h0, if_pos h2])
    have t2 : (200 : Int) < (gs.length : Int) := by omega
    have HBz := (show Hid (Below w.heap.size w w1) from HS.out.b)
    have c0 := HS.out.s.c0
    have c1 := HS.out.s.c1
    have f0 := HS.out.s.fz 0
    have f1 := HS.out.s.fz 1
    clear h0 hp h2 HS
    go_enter Try.func11, Try.ntmps11
    go_wp2_with fail
    rw [← hw1]
    go_wp2_with fail
    refine bodyPost_ret (v := .tuple #[.agg #[.int .i64 0, .int .i64 0], .int .i64 2]) (by simp [results, Try.results11, go_sem, c0, c1]) rfl ⟨by rw [HF.out]; try rfl, HBz.out⟩
  have t2 : ¬ (200 : Int) < (gs.length : Int) := by omega
  have hl200 : gs.length ≤ 200 := by omega
  have HE := (show Hid (∀ r, c1G gs 0 0 gs = r → r.2 ≠ 0 → ckG gs = r) from ckG_err h0 h2)
  have HEu := (show Hid (c1G gs 0 0 gs = ((0, 0), 0) → ckG gs = unG gs 0 gs) from ckG_un h0 h2)
  have HP := (show Hid (GI w A gs) from hp)
  have HG := (show Hid (∀ k, k < gs.length → ∃ g, gs[k]? = some g ∧ g.1.size ≤ 140737488355328 ∧ g.2.length ≤ 140737488355328 ∧ (∀ n ∈ g.2, n.tx.size ≤ 140737488355328) ∧ gs.drop k = g :: gs.drop (k + 1)) from fun k hk => ⟨_, List.getElem?_eq_getElem hk, (hp.t _ (List.getElem_mem hk)).1, (hp.t _ (List.getElem_mem hk)).2.1, (hp.t _ (List.getElem_mem hk)).2.2, List.drop_eq_getElem_cons hk⟩)
  clear h0 hp h2
  go_enter Try.func11, Try.ntmps11
  go_wp2_with fail
  rw [← hw1]
  clear hw1
  go_wp2_with fail
  clear q1
  go_loopw [4, 5] (fun v t wr => ∃ k m : Nat, k ≤ gs.length ∧ t = .int .i64 k ∧ v = .int .i64 m ∧ m ≤ 2048 ∧ Hid (c1G gs 0 0 gs = c1G gs k m (gs.drop k)) ∧ Hid (DcS w wr (.slice A gs.length c))) (fun _ t _ => gs.length - (intOf t).toNat)
  case atStart => exact ⟨0, 0, by omega, by go_num, by go_num, by omega, rfl, HS⟩
  case round =>
    obtain ⟨k, m, hk, rfl, rfl, hm, HX0, HW⟩ := hrel
    clear HS
    have q1 := HW.out.x.cl
    by_cases hlt : k < gs.length
    · obtain ⟨g, hg, s1, s2, s3, hd⟩ := HG.out k hlt
      obtain ⟨b, o, A2, c2, rfl, lb, x0, x1, r2⟩ := HP.out.d k g hg
      have x0' := (HW.out.b.cell (p := ⟨b, o + k * 2, none⟩) lb).trans x0
      have x1' := (HW.out.b.cell (p := ⟨b, o + k * 2 + 1, none⟩) lb).trans x1
      clear x0 x1
      have z0 : (0 : Int) ≤ (k : Int) := by omega
      have z1 : (k : Int) < (gs.length : Int) := by omega
      have HR0 := (show Hid (RB (wr.alloc (.cells #[.string g.1, .slice A2 g.2.length c2] 57)) wr.heap.size g.1 (.slice A2 g.2.length c2)) from ⟨heap_alloc_new wr _⟩)
      have HS0 := (show Hid (DcS w (wr.alloc (.cells #[.string g.1, .slice A2 g.2.length c2] 57)) (.slice (some ⟨b, o, none⟩) gs.length c)) from HW.out.later (below_box _ _))
      have HNm : Hid (∀ W, Calls Try.prog 14 #[.string g.1] W fun e W' => e = .returned (.bool (nmB g.1)) ∧ W' = W) := fun W => nameR_any g.1 s1 W
      have HFi : Hid (∀ W, Below w.heap.size w W → Calls Try.prog 35 #[.agg #[.slice (some ⟨b, o, none⟩) gs.length c], .string g.1] W fun e w' => e = .returned (.int .i64 (fdN gs g.1)) ∧ Below W.heap.size W w') := fun W hW => find_any gs (some ⟨b, o, none⟩) c g.1 W (HP.out.later hW)
      have HCk : Hid (∀ W, Below w.heap.size w W → Calls Try.prog 36 #[.slice A2 g.2.length c2] W fun e w' => e = .returned (.tuple #[.int .i64 (ck g.2).1, .int .i64 (ck g.2).2]) ∧ Below W.heap.size W w') := fun W hW => checkR_any g.2 A2 c2 s2 s3 W (r2.below hW (Nat.le_refl _))
      have hgk := hg
      have HX1 := (show Hid (c1G gs 0 0 gs = if ¬ (nmB g.1 = true ∨ (g.1.size = 0 ∧ gs.length = 1)) then ((k, 0), 6) else if tw gs g.1 k = true then ((k, 0), 80) else if (ck g.2).2 ≠ 0 then ((k, (ck g.2).1), (ck g.2).2) else if 2048 < m + g.2.length then ((k, 0), 2) else c1G gs (k + 1) (m + g.2.length) (gs.drop (k + 1))) from by show c1G gs 0 0 gs = _; rw [HX0.out, hd, c1G])
      clear hg r2 s2 s3 HW HX0 hd s1
      have q3 := HS0.out.x.cl
      have q4 := HR0.out.c0
      cases hnb : nmB g.1
      · rw [hnb] at HNm
        by_cases hs0 : g.1.size = 0
        · have te : (g.1.toList == []) = true := by
            have e := emp_t hs0
            rw [List.isEmpty_iff] at e
            rw [e]; rfl
          have te2 := emp_t hs0
          by_cases hl1 : gs.length = 1
          · have tl : ((gs.length : Int) == 1) = true := beq_iff_eq.2 (by omega)
            have HX := (show Hid (c1G gs 0 0 gs = if tw gs g.1 k = true then ((k, 0), 80) else if (ck g.2).2 ≠ 0 then ((k, (ck g.2).1), (ck g.2).2) else if 2048 < m + g.2.length then ((k, 0), 2) else c1G gs (k + 1) (m + g.2.length) (gs.drop (k + 1))) from by show c1G gs 0 0 gs = _; rw [HX1.out, if_neg (fun q => q (.inr ⟨hs0, hl1⟩))])
            clear HX1 hl1 hs0 hnb HEu
            go_wp2_with fail
            refine (HNm.out _).mono ?_
            rintro e wX ⟨rfl, rfl⟩
            have HS := HS0
            have HR := HR0
            clear HNm HR0 HS0
            go_wp2_with fail
            refine (HFi.out _ HS.out.b).mono ?_
            rintro e w4 ⟨rfl, b4⟩
            have HS4 := (show Hid (DcS w w4 (.slice (some ⟨b, o, none⟩) gs.length c)) from HS.out.later b4)
            have HR4 := (show Hid (RB w4 wr.heap.size g.1 (.slice A2 g.2.length c2)) from HR.out.later b4)
            have y1 := HR4.out.c1
            clear HFi b4 HS HR
            have HS := HS4
            clear HS4
            by_cases htw : tw gs g.1 k = true
            · have HF := (show Hid (ckG gs = ((k, 0), 80)) from HE.out _ (by rw [HX.out, if_pos htw]) (by show (80 : Int) ≠ 0; decide))
              have tt : fdN gs g.1 < (k : Int) := (tw_fd hgk).1 htw
              clear HX HE HCk HR4 HG HP htw hgk y1
              have HZ := (show Hid (SX ((w4.setCell ⟨w.heap.size + 1, 0, none⟩ (.int .i64 (k : Int))).setCell ⟨w.heap.size + 1, 1, none⟩ (.int .i64 0)) (w.heap.size + 1) (k : Int) 0) from HS.out.s.set _ _)
              have HBz := (show Hid (Below w.heap.size w ((w4.setCell ⟨w.heap.size + 1, 0, none⟩ (.int .i64 (k : Int))).setCell ⟨w.heap.size + 1, 1, none⟩ (.int .i64 0))) from set_below (set_below HS.out.b (Nat.le_succ _)) (Nat.le_succ _))
              have c0 := HS.out.s.c0
              have c1 := HS.out.s.c1
              have f0 := HS.out.s.fz 0
              have f1 := HS.out.s.fz 1
              clear HS
              go_wp2_with fail
              have d0 := HZ.out.c0
              have d1 := HZ.out.c1
              clear c0 c1 f0 f1
              generalize (w4.setCell ⟨w.heap.size + 1, 0, none⟩ (.int .i64 (k : Int))).setCell ⟨w.heap.size + 1, 1, none⟩ (.int .i64 0) = wZ at *
              refine bodyPost_ret (v := .tuple #[.agg #[.int .i64 (k : Int), .int .i64 0], .int .i64 80]) (by simp [results, Try.results11, go_sem, d0, d1]) rfl ⟨by rw [HF.out]; try rfl, HBz.out⟩
            · have tt : ¬ fdN gs g.1 < (k : Int) := fun q => htw ((tw_fd hgk).2 q)
              have HX2 := (show Hid (c1G gs 0 0 gs = if (ck g.2).2 ≠ 0 then ((k, (ck g.2).1), (ck g.2).2) else if 2048 < m + g.2.length then ((k, 0), 2) else c1G gs (k + 1) (m + g.2.length) (gs.drop (k + 1))) from by show c1G gs 0 0 gs = _; rw [HX.out, if_neg htw])
              clear HX htw hgk
              go_wp2_with fail
              refine (HCk.out _ HS.out.b).mono ?_
              rintro e w5 ⟨rfl, b5⟩
              have HS5 := (show Hid (DcS w w5 (.slice (some ⟨b, o, none⟩) gs.length c)) from HS.out.later b5)
              have y1' := (HR4.out.later b5).c1
              clear HCk b5 HS HR4 y1 tt
              have HS := HS5
              clear HS5
              by_cases hc : (ck g.2).2 = 0
              · have tc : ((ck g.2).2 != 0) = false := by rw [hc]; rfl
                have hg3 : g.2.length ≤ 2048 := by
                  by_cases q : g.2.length ≤ 2048
                  · exact q
                  · have := ck_long (L := g.2) (by omega)
                    rw [this] at hc
                    exact absurd hc (by decide)
                have HV := (show Hid (c1G gs 0 0 gs = if 2048 < m + g.2.length then ((k, 0), 2) else c1G gs (k + 1) (m + g.2.length) (gs.drop (k + 1))) from by show c1G gs 0 0 gs = _; rw [HX2.out, if_neg (by rw [hc]; simp)])
                generalize hcc : (ck g.2).2 = cc2 at *
                clear hcc HX2
                by_cases hn : 2048 < m + g.2.length
                · have HF := (show Hid (ckG gs = ((k, 0), 2)) from HE.out _ (by rw [HV.out, if_pos hn]) (by show (2 : Int) ≠ 0; decide))
                  have tn : (2048 : Int) < (m : Int) + (g.2.length : Int) := by omega
                  clear HV HE HG HP hn
                  have HZ := (show Hid (SX ((w5.setCell ⟨w.heap.size + 1, 0, none⟩ (.int .i64 (k : Int))).setCell ⟨w.heap.size + 1, 1, none⟩ (.int .i64 0)) (w.heap.size + 1) (k : Int) 0) from HS.out.s.set _ _)
                  have HBz := (show Hid (Below w.heap.size w ((w5.setCell ⟨w.heap.size + 1, 0, none⟩ (.int .i64 (k : Int))).setCell ⟨w.heap.size + 1, 1, none⟩ (.int .i64 0))) from set_below (set_below HS.out.b (Nat.le_succ _)) (Nat.le_succ _))
                  have c0 := HS.out.s.c0
                  have c1 := HS.out.s.c1
                  have f0 := HS.out.s.fz 0
                  have f1 := HS.out.s.fz 1
                  clear HS
                  go_wp2_with fail
                  have d0 := HZ.out.c0
                  have d1 := HZ.out.c1
                  clear c0 c1 f0 f1
                  generalize (w5.setCell ⟨w.heap.size + 1, 0, none⟩ (.int .i64 (k : Int))).setCell ⟨w.heap.size + 1, 1, none⟩ (.int .i64 0) = wZ at *
                  refine bodyPost_ret (v := .tuple #[.agg #[.int .i64 (k : Int), .int .i64 0], .int .i64 2]) (by simp [results, Try.results11, go_sem, d0, d1]) rfl ⟨by rw [HF.out]; try rfl, HBz.out⟩
                · have HX3 := (show Hid (c1G gs 0 0 gs = c1G gs (k + 1) (m + g.2.length) (gs.drop (k + 1))) from by show c1G gs 0 0 gs = _; rw [HV.out, if_neg hn])
                  have tn : ¬ (2048 : Int) < (m : Int) + (g.2.length : Int) := by omega
                  clear HV
                  go_wp2_with fail
                  go_roundw
                  case rel => exact ⟨k + 1, m + g.2.length, by omega, by go_num, by go_num, by omega, HX3, HS⟩
                  case measure => simp [intOf]; omega
              · have tc : ((ck g.2).2 != 0) = true := by rw [bne, beq_eq_false_iff_ne.2 hc]; rfl
                have HF := (show Hid (ckG gs = ((k, (ck g.2).1), (ck g.2).2)) from HE.out _ (by rw [HX2.out, if_pos hc]) hc)
                clear HX2 HE HG HP hc
                generalize hcc : (ck g.2).2 = cc2 at *
                generalize hcd : (ck g.2).1 = cc1 at *
                clear hcc hcd
                have HZ := (show Hid (SX ((w5.setCell ⟨w.heap.size + 1, 0, none⟩ (.int .i64 (k : Int))).setCell ⟨w.heap.size + 1, 1, none⟩ (.int .i64 (cc1 : Int))) (w.heap.size + 1) (k : Int) (cc1 : Int)) from HS.out.s.set _ _)
                have HBz := (show Hid (Below w.heap.size w ((w5.setCell ⟨w.heap.size + 1, 0, none⟩ (.int .i64 (k : Int))).setCell ⟨w.heap.size + 1, 1, none⟩ (.int .i64 (cc1 : Int)))) from set_below (set_below HS.out.b (Nat.le_succ _)) (Nat.le_succ _))
                have c0 := HS.out.s.c0
                have c1 := HS.out.s.c1
                have f0 := HS.out.s.fz 0
                have f1 := HS.out.s.fz 1
                clear HS
                go_wp2_with fail
                have d0 := HZ.out.c0
                have d1 := HZ.out.c1
                clear c0 c1 f0 f1
                generalize (w5.setCell ⟨w.heap.size + 1, 0, none⟩ (.int .i64 (k : Int))).setCell ⟨w.heap.size + 1, 1, none⟩ (.int .i64 (cc1 : Int)) = wZ at *
                refine bodyPost_ret (v := .tuple #[.agg #[.int .i64 (k : Int), .int .i64 (cc1 : Int)], .int .i64 cc2]) (by simp [results, Try.results11, go_sem, d0, d1]) rfl ⟨by rw [HF.out]; try rfl, HBz.out⟩
          · have tl : ((gs.length : Int) == 1) = false := beq_eq_false_iff_ne.2 (by omega)
            have HF := (show Hid (ckG gs = ((k, 0), 6)) from HE.out _ (by rw [HX1.out, if_pos (by rintro (q | q); rw [hnb] at q; cases q; exact hl1 q.2)]) (by show (6 : Int) ≠ 0; decide))
            clear HX1 HE HG HP hl1 hs0 hgk HCk HEu HFi hnb
            go_wp2_with fail
            refine (HNm.out _).mono ?_
            rintro e wX ⟨rfl, rfl⟩
            have HS := HS0
            clear HNm HR0 HS0
            have HZ := (show Hid (SX (((wr.alloc (.cells #[.string g.1, .slice A2 g.2.length c2] 57)).setCell ⟨w.heap.size + 1, 0, none⟩ (.int .i64 (k : Int))).setCell ⟨w.heap.size + 1, 1, none⟩ (.int .i64 0)) (w.heap.size + 1) (k : Int) 0) from HS.out.s.set _ _)
            have HBz := (show Hid (Below w.heap.size w (((wr.alloc (.cells #[.string g.1, .slice A2 g.2.length c2] 57)).setCell ⟨w.heap.size + 1, 0, none⟩ (.int .i64 (k : Int))).setCell ⟨w.heap.size + 1, 1, none⟩ (.int .i64 0))) from set_below (set_below HS.out.b (Nat.le_succ _)) (Nat.le_succ _))
            have c0 := HS.out.s.c0
            have c1 := HS.out.s.c1
            have f0 := HS.out.s.fz 0
            have f1 := HS.out.s.fz 1
            clear HS
            go_wp2_with fail
            have d0 := HZ.out.c0
            have d1 := HZ.out.c1
            clear c0 c1 f0 f1
            generalize ((wr.alloc (.cells #[.string g.1, .slice A2 g.2.length c2] 57)).setCell ⟨w.heap.size + 1, 0, none⟩ (.int .i64 (k : Int))).setCell ⟨w.heap.size + 1, 1, none⟩ (.int .i64 0) = wZ at *
            refine bodyPost_ret (v := .tuple #[.agg #[.int .i64 (k : Int), .int .i64 0], .int .i64 6]) (by simp [results, Try.results11, go_sem, d0, d1]) rfl ⟨by rw [HF.out]; try rfl, HBz.out⟩
        · have te : (g.1.toList == []) = false := by
            have e := emp_f hs0
            cases hl : g.1.toList with
            | nil => rw [hl] at e; cases e
            | cons x r => rfl
          have te2 := emp_f hs0
          have HF := (show Hid (ckG gs = ((k, 0), 6)) from HE.out _ (by rw [HX1.out, if_pos (by rintro (q | q); rw [hnb] at q; cases q; exact hs0 q.1)]) (by show (6 : Int) ≠ 0; decide))
          clear HX1 HE HG HP hs0 hgk HCk HEu HFi hnb
          go_wp2_with fail
          refine (HNm.out _).mono ?_
          rintro e wX ⟨rfl, rfl⟩
          have HS := HS0
          clear HNm HR0 HS0
          have HZ := (show Hid (SX (((wr.alloc (.cells #[.string g.1, .slice A2 g.2.length c2] 57)).setCell ⟨w.heap.size + 1, 0, none⟩ (.int .i64 (k : Int))).setCell ⟨w.heap.size + 1, 1, none⟩ (.int .i64 0)) (w.heap.size + 1) (k : Int) 0) from HS.out.s.set _ _)
          have HBz := (show Hid (Below w.heap.size w (((wr.alloc (.cells #[.string g.1, .slice A2 g.2.length c2] 57)).setCell ⟨w.heap.size + 1, 0, none⟩ (.int .i64 (k : Int))).setCell ⟨w.heap.size + 1, 1, none⟩ (.int .i64 0))) from set_below (set_below HS.out.b (Nat.le_succ _)) (Nat.le_succ _))
          have c0 := HS.out.s.c0
          have c1 := HS.out.s.c1
          have f0 := HS.out.s.fz 0
          have f1 := HS.out.s.fz 1
          clear HS
          go_wp2_with fail
          have d0 := HZ.out.c0
          have d1 := HZ.out.c1
          clear c0 c1 f0 f1
          generalize ((wr.alloc (.cells #[.string g.1, .slice A2 g.2.length c2] 57)).setCell ⟨w.heap.size + 1, 0, none⟩ (.int .i64 (k : Int))).setCell ⟨w.heap.size + 1, 1, none⟩ (.int .i64 0) = wZ at *
          refine bodyPost_ret (v := .tuple #[.agg #[.int .i64 (k : Int), .int .i64 0], .int .i64 6]) (by simp [results, Try.results11, go_sem, d0, d1]) rfl ⟨by rw [HF.out]; try rfl, HBz.out⟩
      · rw [hnb] at HNm
        have HX := (show Hid (c1G gs 0 0 gs = if tw gs g.1 k = true then ((k, 0), 80) else if (ck g.2).2 ≠ 0 then ((k, (ck g.2).1), (ck g.2).2) else if 2048 < m + g.2.length then ((k, 0), 2) else c1G gs (k + 1) (m + g.2.length) (gs.drop (k + 1))) from by show c1G gs 0 0 gs = _; rw [HX1.out, if_neg (fun q => q (.inl hnb))])
        clear HX1 hnb HEu
        go_wp2_with fail
        refine (HNm.out _).mono ?_
        rintro e wX ⟨rfl, rfl⟩
        have HS := HS0
        have HR := HR0
        clear HNm HR0 HS0
        go_wp2_with fail
        refine (HFi.out _ HS.out.b).mono ?_
        rintro e w4 ⟨rfl, b4⟩
        have HS4 := (show Hid (DcS w w4 (.slice (some ⟨b, o, none⟩) gs.length c)) from HS.out.later b4)
        have HR4 := (show Hid (RB w4 wr.heap.size g.1 (.slice A2 g.2.length c2)) from HR.out.later b4)
        have y1 := HR4.out.c1
        clear HFi b4 HS HR
        have HS := HS4
        clear HS4
        by_cases htw : tw gs g.1 k = true
        · have HF := (show Hid (ckG gs = ((k, 0), 80)) from HE.out _ (by rw [HX.out, if_pos htw]) (by show (80 : Int) ≠ 0; decide))
          have tt : fdN gs g.1 < (k : Int) := (tw_fd hgk).1 htw
          clear HX HE HCk HR4 HG HP htw hgk y1
          have HZ := (show Hid (SX ((w4.setCell ⟨w.heap.size + 1, 0, none⟩ (.int .i64 (k : Int))).setCell ⟨w.heap.size + 1, 1, none⟩ (.int .i64 0)) (w.heap.size + 1) (k : Int) 0) from HS.out.s.set _ _)
          have HBz := (show Hid (Below w.heap.size w ((w4.setCell ⟨w.heap.size + 1, 0, none⟩ (.int .i64 (k : Int))).setCell ⟨w.heap.size + 1, 1, none⟩ (.int .i64 0))) from set_below (set_below HS.out.b (Nat.le_succ _)) (Nat.le_succ _))
          have c0 := HS.out.s.c0
          have c1 := HS.out.s.c1
          have f0 := HS.out.s.fz 0
          have f1 := HS.out.s.fz 1
          clear HS
          go_wp2_with fail
          have d0 := HZ.out.c0
          have d1 := HZ.out.c1
          clear c0 c1 f0 f1
          generalize (w4.setCell ⟨w.heap.size + 1, 0, none⟩ (.int .i64 (k : Int))).setCell ⟨w.heap.size + 1, 1, none⟩ (.int .i64 0) = wZ at *
          refine bodyPost_ret (v := .tuple #[.agg #[.int .i64 (k : Int), .int .i64 0], .int .i64 80]) (by simp [results, Try.results11, go_sem, d0, d1]) rfl ⟨by rw [HF.out]; try rfl, HBz.out⟩
        · have tt : ¬ fdN gs g.1 < (k : Int) := fun q => htw ((tw_fd hgk).2 q)
          have HX2 := (show Hid (c1G gs 0 0 gs = if (ck g.2).2 ≠ 0 then ((k, (ck g.2).1), (ck g.2).2) else if 2048 < m + g.2.length then ((k, 0), 2) else c1G gs (k + 1) (m + g.2.length) (gs.drop (k + 1))) from by show c1G gs 0 0 gs = _; rw [HX.out, if_neg htw])
          clear HX htw hgk
          go_wp2_with fail
          refine (HCk.out _ HS.out.b).mono ?_
          rintro e w5 ⟨rfl, b5⟩
          have HS5 := (show Hid (DcS w w5 (.slice (some ⟨b, o, none⟩) gs.length c)) from HS.out.later b5)
          have y1' := (HR4.out.later b5).c1
          clear HCk b5 HS HR4 y1 tt
          have HS := HS5
          clear HS5
          by_cases hc : (ck g.2).2 = 0
          · have tc : ((ck g.2).2 != 0) = false := by rw [hc]; rfl
            have hg3 : g.2.length ≤ 2048 := by
              by_cases q : g.2.length ≤ 2048
              · exact q
              · have := ck_long (L := g.2) (by omega)
                rw [this] at hc
                exact absurd hc (by decide)
            have HV := (show Hid (c1G gs 0 0 gs = if 2048 < m + g.2.length then ((k, 0), 2) else c1G gs (k + 1) (m + g.2.length) (gs.drop (k + 1))) from by show c1G gs 0 0 gs = _; rw [HX2.out, if_neg (by rw [hc]; simp)])
            generalize hcc : (ck g.2).2 = cc2 at *
            clear hcc HX2
            by_cases hn : 2048 < m + g.2.length
            · have HF := (show Hid (ckG gs = ((k, 0), 2)) from HE.out _ (by rw [HV.out, if_pos hn]) (by show (2 : Int) ≠ 0; decide))
              have tn : (2048 : Int) < (m : Int) + (g.2.length : Int) := by omega
              clear HV HE HG HP hn
              have HZ := (show Hid (SX ((w5.setCell ⟨w.heap.size + 1, 0, none⟩ (.int .i64 (k : Int))).setCell ⟨w.heap.size + 1, 1, none⟩ (.int .i64 0)) (w.heap.size + 1) (k : Int) 0) from HS.out.s.set _ _)
              have HBz := (show Hid (Below w.heap.size w ((w5.setCell ⟨w.heap.size + 1, 0, none⟩ (.int .i64 (k : Int))).setCell ⟨w.heap.size + 1, 1, none⟩ (.int .i64 0))) from set_below (set_below HS.out.b (Nat.le_succ _)) (Nat.le_succ _))
              have c0 := HS.out.s.c0
              have c1 := HS.out.s.c1
              have f0 := HS.out.s.fz 0
              have f1 := HS.out.s.fz 1
              clear HS
              go_wp2_with fail
              have d0 := HZ.out.c0
              have d1 := HZ.out.c1
              clear c0 c1 f0 f1
              generalize (w5.setCell ⟨w.heap.size + 1, 0, none⟩ (.int .i64 (k : Int))).setCell ⟨w.heap.size + 1, 1, none⟩ (.int .i64 0) = wZ at *
              refine bodyPost_ret (v := .tuple #[.agg #[.int .i64 (k : Int), .int .i64 0], .int .i64 2]) (by simp [results, Try.results11, go_sem, d0, d1]) rfl ⟨by rw [HF.out]; try rfl, HBz.out⟩
            · have HX3 := (show Hid (c1G gs 0 0 gs = c1G gs (k + 1) (m + g.2.length) (gs.drop (k + 1))) from by show c1G gs 0 0 gs = _; rw [HV.out, if_neg hn])
              have tn : ¬ (2048 : Int) < (m : Int) + (g.2.length : Int) := by omega
              clear HV
              go_wp2_with fail
              go_roundw
              case rel => exact ⟨k + 1, m + g.2.length, by omega, by go_num, by go_num, by omega, HX3, HS⟩
              case measure => simp [intOf]; omega
          · have tc : ((ck g.2).2 != 0) = true := by rw [bne, beq_eq_false_iff_ne.2 hc]; rfl
            have HF := (show Hid (ckG gs = ((k, (ck g.2).1), (ck g.2).2)) from HE.out _ (by rw [HX2.out, if_pos hc]) hc)
            clear HX2 HE HG HP hc
            generalize hcc : (ck g.2).2 = cc2 at *
            generalize hcd : (ck g.2).1 = cc1 at *
            clear hcc hcd
            have HZ := (show Hid (SX ((w5.setCell ⟨w.heap.size + 1, 0, none⟩ (.int .i64 (k : Int))).setCell ⟨w.heap.size + 1, 1, none⟩ (.int .i64 (cc1 : Int))) (w.heap.size + 1) (k : Int) (cc1 : Int)) from HS.out.s.set _ _)
            have HBz := (show Hid (Below w.heap.size w ((w5.setCell ⟨w.heap.size + 1, 0, none⟩ (.int .i64 (k : Int))).setCell ⟨w.heap.size + 1, 1, none⟩ (.int .i64 (cc1 : Int)))) from set_below (set_below HS.out.b (Nat.le_succ _)) (Nat.le_succ _))
            have c0 := HS.out.s.c0
            have c1 := HS.out.s.c1
            have f0 := HS.out.s.fz 0
            have f1 := HS.out.s.fz 1
            clear HS
            go_wp2_with fail
            have d0 := HZ.out.c0
            have d1 := HZ.out.c1
            clear c0 c1 f0 f1
            generalize (w5.setCell ⟨w.heap.size + 1, 0, none⟩ (.int .i64 (k : Int))).setCell ⟨w.heap.size + 1, 1, none⟩ (.int .i64 (cc1 : Int)) = wZ at *
            refine bodyPost_ret (v := .tuple #[.agg #[.int .i64 (k : Int), .int .i64 (cc1 : Int)], .int .i64 cc2]) (by simp [results, Try.results11, go_sem, d0, d1]) rfl ⟨by rw [HF.out]; try rfl, HBz.out⟩
    · obtain rfl : k = gs.length := by omega
      have HE2 := (show Hid (ckG gs = unG gs 0 gs) from HEu.out (by rw [HX0.out, List.drop_length]; rfl))
      clear HX0 HE HEu
      go_wp2_with fail
      clear q1
      go_loopw [9] (fun t wr => ∃ k : Nat, k ≤ gs.length ∧ t = .int .i64 k ∧ Hid (unG gs 0 gs = unG gs k (gs.drop k)) ∧ Hid (DcS w wr (.slice A gs.length c))) (fun t _ => gs.length - (intOf t).toNat)
      case atStart => exact ⟨0, by omega, by go_num, rfl, HW⟩
      case round =>
        obtain ⟨k, hk, rfl, HX, HW⟩ := hrel
        have q1 := HW.out.x.cl
        by_cases hlt : k < gs.length
        · obtain ⟨g, hg, s1, s2, s3, hd⟩ := HG.out k hlt
          obtain ⟨b, o, A2, c2, rfl, lb, x0, x1, r2⟩ := HP.out.d k g hg
          have z0 : (0 : Int) ≤ (k : Int) := by omega
          have z1 : (k : Int) < (gs.length : Int) := by omega
          have HLb := (show Hid (b < w.heap.size ∧ w.cell? ⟨b, o + k * 2 + 1, none⟩ = some (.slice A2 g.2.length c2)) from ⟨lb, x1⟩)
          have HR2 := (show Hid (RdN w A2 g.2) from r2)
          have HU := (show Hid (unG gs 0 gs = match unN gs 0 g.2 with
            | some j => ((k, j), 81)
            | none => unG gs (k + 1) (gs.drop (k + 1))) from by show unG gs 0 gs = _; rw [HX.out, hd, unG_cons]; try rfl)
          have HN := (show Hid (∀ j, j < g.2.length → ∃ n, g.2[j]? = some n ∧ g.2 ≠ [] ∧ n.tx.size ≤ 140737488355328 ∧ g.2.drop j = n :: g.2.drop (j + 1)) from fun j hj => ⟨_, List.getElem?_eq_getElem hj, by (intro q; rw [q] at hj; simp at hj), s3 _ (List.getElem_mem hj), List.drop_eq_getElem_cons hj⟩)
          clear hg r2 s3 HX hd s1 x0 x1 lb
          go_wp2_with fail
          clear q1
          go_loopw [10] (fun t wr => ∃ j : Nat, j ≤ g.2.length ∧ t = .int .i64 j ∧ Hid (unN gs 0 g.2 = unN gs j (g.2.drop j)) ∧ Hid (DcS w wr (.slice (some ⟨b, o, none⟩) gs.length c))) (fun t _ => g.2.length - (intOf t).toNat)
          case atStart => exact ⟨0, by omega, by go_num, rfl, HW⟩
          case round =>
            obtain ⟨j, hj, rfl, HX, HW⟩ := hrel
            have q1 := HW.out.x.cl
            have x1' := (HW.out.b.cell (p := ⟨b, o + k * 2 + 1, none⟩) HLb.out.1).trans HLb.out.2
            by_cases hjl : j < g.2.length
            · obtain ⟨n, hn, nl, st, hd⟩ := HN.out j hjl
              obtain ⟨g1, o1, rfl, l1, q2⟩ := HR2.out nl
              obtain ⟨a0, a1, a2, a3, a4, a5, a6⟩ := (q2.same (HW.out.b.block g1 l1)) j n hn
              have y0 : (0 : Int) ≤ (j : Int) := by omega
              have y1 : (j : Int) < (g.2.length : Int) := by omega
              have HW2 := (show Hid (DcS w (wr.alloc (ndO n)) (.slice (some ⟨b, o, none⟩) gs.length c)) from HW.out.later (below_box _ _))
              have q3 := HW2.out.x.cl
              clear HN HR2 HG q2 HW nl hn st
              by_cases h6 : n.op = 6
              · have t6 : (n.op == 6) = true := by rw [h6]; rfl
                have HFi : Hid (∀ W, Below w.heap.size w W → Calls Try.prog 35 #[.agg #[.slice (some ⟨b, o, none⟩) gs.length c], .string n.tx] W fun e w' => e = .returned (.int .i64 (fdN gs n.tx)) ∧ Below W.heap.size W w') := fun W hW => find_any gs (some ⟨b, o, none⟩) c n.tx W (HP.out.later hW)
                cases hf : fdG gs n.tx with
                | none =>
                  have tf : fdN gs n.tx < 0 := by rw [fdN_none hf]; decide
                  have HF := (show Hid (ckG gs = ((k, j), 81)) from by show ckG gs = _; rw [HE2.out, HU.out, HX.out, hd, unN_cons, if_pos ⟨h6, hf⟩])
                  clear HX HU hd hf h6 HP HE2
                  go_wp2_with fail
                  refine (HFi.out _ HW2.out.b).mono ?_
                  rintro e w4 ⟨rfl, b4⟩
                  have HS := (show Hid (DcS w w4 (.slice (some ⟨b, o, none⟩) gs.length c)) from HW2.out.later b4)
                  clear HFi b4 HW2
                  have HZ := (show Hid (SX ((w4.setCell ⟨w.heap.size + 1, 0, none⟩ (.int .i64 (k : Int))).setCell ⟨w.heap.size + 1, 1, none⟩ (.int .i64 (j : Int))) (w.heap.size + 1) (k : Int) (j : Int)) from HS.out.s.set _ _)
                  have HBz := (show Hid (Below w.heap.size w ((w4.setCell ⟨w.heap.size + 1, 0, none⟩ (.int .i64 (k : Int))).setCell ⟨w.heap.size + 1, 1, none⟩ (.int .i64 (j : Int)))) from set_below (set_below HS.out.b (Nat.le_succ _)) (Nat.le_succ _))
                  have c0 := HS.out.s.c0
                  have c1 := HS.out.s.c1
                  have f0 := HS.out.s.fz 0
                  have f1 := HS.out.s.fz 1
                  clear HS
                  go_wp2_with fail
                  have d0 := HZ.out.c0
                  have d1 := HZ.out.c1
                  clear c0 c1 f0 f1
                  generalize (w4.setCell ⟨w.heap.size + 1, 0, none⟩ (.int .i64 (k : Int))).setCell ⟨w.heap.size + 1, 1, none⟩ (.int .i64 (j : Int)) = wZ at *
                  refine bodyPost_ret (v := .tuple #[.agg #[.int .i64 (k : Int), .int .i64 (j : Int)], .int .i64 81]) (by simp [results, Try.results11, go_sem, d0, d1]) rfl ⟨by rw [HF.out]; try rfl, HBz.out⟩
                | some i =>
                  have tf : ¬ fdN gs n.tx < 0 := by rw [fdN_some hf]; omega
                  have HX2 := (show Hid (unN gs 0 g.2 = unN gs (j + 1) (g.2.drop (j + 1))) from by show unN gs 0 g.2 = _; rw [HX.out, hd, unN_cons, if_neg (by rintro ⟨_, q⟩; rw [hf] at q; cases q)])
                  clear HX HU hd hf h6 HP HE2
                  go_wp2_with fail
                  refine (HFi.out _ HW2.out.b).mono ?_
                  rintro e w4 ⟨rfl, b4⟩
                  have HS := (show Hid (DcS w w4 (.slice (some ⟨b, o, none⟩) gs.length c)) from HW2.out.later b4)
                  clear HFi b4 HW2
                  go_wp2_with fail
                  go_roundw
                  case rel => exact ⟨j + 1, by omega, by go_num, HX2, HS⟩
                  case measure => simp [intOf]; omega
              · have t6 : (n.op == 6) = false := beq_eq_false_iff_ne.2 h6
                have HX2 := (show Hid (unN gs 0 g.2 = unN gs (j + 1) (g.2.drop (j + 1))) from by show unN gs 0 g.2 = _; rw [HX.out, hd, unN_cons, if_neg (by rintro ⟨q, _⟩; exact h6 q)])
                clear HX HU hd h6 HP HE2
                go_wp2_with fail
                go_roundw
                case rel => exact ⟨j + 1, by omega, by go_num, HX2, HW2⟩
                case measure => simp [intOf]; omega
            · obtain rfl : j = g.2.length := by omega
              have HX2 := (show Hid (unG gs 0 gs = unG gs (k + 1) (gs.drop (k + 1))) from by show unG gs 0 gs = _; rw [HU.out, HX.out, List.drop_length]; rfl)
              clear HX HU HN HR2 HP HE2
              go_wp2_with fail
              go_roundw
              case rel => exact ⟨k + 1, by omega, by go_num, HX2, HW⟩
              case measure => simp [intOf]; omega
        · obtain rfl : k = gs.length := by omega
          have HF := (show Hid (ckG gs = ((0, 0), 0)) from by show ckG gs = _; rw [HE2.out, HX.out, List.drop_length]; rfl)
          have HS := HW
          clear HX HG HP HE2 HW
          have HZ := (show Hid (SX ((wr.setCell ⟨w.heap.size + 1, 0, none⟩ (.int .i64 0)).setCell ⟨w.heap.size + 1, 1, none⟩ (.int .i64 0)) (w.heap.size + 1) 0 0) from HS.out.s.set _ _)
          have HBz := (show Hid (Below w.heap.size w ((wr.setCell ⟨w.heap.size + 1, 0, none⟩ (.int .i64 0)).setCell ⟨w.heap.size + 1, 1, none⟩ (.int .i64 0))) from set_below (set_below HS.out.b (Nat.le_succ _)) (Nat.le_succ _))
          have c0 := HS.out.s.c0
          have c1 := HS.out.s.c1
          have f0 := HS.out.s.fz 0
          have f1 := HS.out.s.fz 1
          clear HS
          go_wp2_with fail
          have d0 := HZ.out.c0
          have d1 := HZ.out.c1
          clear c0 c1 f0 f1
          generalize (wr.setCell ⟨w.heap.size + 1, 0, none⟩ (.int .i64 0)).setCell ⟨w.heap.size + 1, 1, none⟩ (.int .i64 0) = wZ at *
          refine bodyPost_ret (v := .tuple #[.agg #[.int .i64 0, .int .i64 0], .int .i64 0]) (by simp [results, Try.results11, go_sem, d0, d1]) rfl ⟨by rw [HF.out]; try rfl, HBz.out⟩
end Go.Proofs.Ytppggnmlbcdegaa.N

namespace Go.Proofs.Ytppggnmlbcdegaa.N
open Go.RowKit
open Go.Proofs.Ytppggnmlbcdegaa.T (RdN below_drewN below_box node_neq ndE)
set_option maxRecDepth 100000 in
set_option maxHeartbeats 8000000 in
theorem sameq (A1 A2 : Option Addr) (c1 c2 : Nat) (L : List Nd) (hl : L.length ≤ 140737488355328) (w : World) (h1 : RdN w A1 L) (h2 : RdN w A2 L) :
    Calls Try.prog 54 #[.slice A1 L.length c1, .slice A2 L.length c2] w fun e w' => e = .returned (.bool true) ∧ ∃ m, w' = w.drewN m := by
  have H1 := (show Hid _ from h1)
  have H2 := (show Hid _ from h2)
  have HG := (show Hid (∀ k, k < L.length → ∃ m, L[k]? = some m ∧ L ≠ []) from fun k hk => ⟨_, List.getElem?_eq_getElem hk, by rintro rfl; simp at hk⟩)
  clear h1 h2
  go_enter Try.func54, Try.ntmps54
  go_wp2_with fail
  go_loopw [5] (fun t wr => ∃ k : Nat, k ≤ L.length ∧ t = .int .i64 k ∧ Hid (∃ m, wr = w.drewN m)) (fun t _ => L.length - (intOf t).toNat)
  case atStart => exact ⟨0, by omega, by go_num, ⟨0, rfl⟩⟩
  case round =>
    obtain ⟨k, hk, rfl, HW⟩ := hrel
    by_cases hlt : k < L.length
    · obtain ⟨n, hn1, nl⟩ := HG.out k hlt
      have hB : Below w.heap.size w wr := by obtain ⟨m, rfl⟩ := HW.out; exact below_drewN (Below.refl _ _) _
      obtain ⟨g1, o1, rfl, l1, q1⟩ := H1.out nl
      obtain ⟨g2, o2, rfl, l2, q2⟩ := H2.out nl
      obtain ⟨a0, a1, a2, a3, a4, a5, a6⟩ := (q1.same (hB.block g1 l1)) k n hn1
      obtain ⟨d0, d1, d2, d3, d4, d5, d6⟩ := (q2.same (hB.block g2 l2)) k n hn1
      have z0 : (0 : Int) ≤ (k : Int) := by omega
      have z1 : (k : Int) < (L.length : Int) := by omega
      clear HG H1 H2 q1 q2 nl hn1 hB
      have hneq := node_neq n n
      rw [T.ndE_refl] at hneq
      go_wp2_with fail
      go_quiet (fail)
      have HW2 := (show Hid (∃ m, wr.drewN nq = w.drewN m) from by obtain ⟨m, e⟩ := HW.out; exact ⟨m + nq, by rw [e, World.drewN_drewN]⟩)
      generalize wr.drewN nq = w2 at *
      clear hneq a0 a1 a2 a3 a4 a5 a6 d0 d1 d2 d3 d4 d5 d6 HW
      go_wp2_with fail
      go_roundw
      case rel => exact ⟨k + 1, by omega, by go_num, HW2⟩
      case measure => simp [intOf]; omega
    · obtain rfl : k = L.length := by omega
      clear HG H1 H2
      go_wp2_with fail
      go_ret
      exact ⟨rfl, HW.out⟩
end Go.Proofs.Ytppggnmlbcdegaa.N

namespace Go.Proofs.Ytppggnmlbcdegaa.T
open Go.RowKit
def asText (l : List Int) : ByteArray := l.foldl (fun r n => r.push (UInt8.ofNat n.toNat)) ByteArray.empty
theorem asText_data (l : List Int) : (asText l).data.toList = l.map (fun n => UInt8.ofNat n.toNat) := by
  have key : ∀ (l : List Int) (s : ByteArray), (l.foldl (fun r n => r.push (UInt8.ofNat n.toNat)) s).data.toList = s.data.toList ++ l.map (fun n => UInt8.ofNat n.toNat) := by
    intro l
    induction l with
    | nil => intro s; simp
    | cons b l ih => intro s; rw [List.foldl_cons, ih]; simp [ByteArray.push]
  have := key l ByteArray.empty
  simpa [asText] using this
theorem asText_eq (l : List Int) : asText l = ⟨(l.map fun n => UInt8.ofNat n.toNat).toArray⟩ := by
  have h := asText_data l
  cases ht : asText l with
  | mk d =>
    rw [ht] at h
    cases d with
    | mk x => simp at h; rw [h]
def byl (s : ByteArray) : List Int := s.data.toList.map fun c => (c.toNat : Int)
theorem byl_len (s : ByteArray) : (byl s).length = s.size := by unfold byl; rw [List.length_map]; rfl
theorem byl_get (s : ByteArray) (k : Nat) (h : k < s.size) : (byl s)[k]? = some (s[k].toNat : Int) := by
  unfold byl
  rw [List.getElem?_map, List.getElem?_eq_getElem (by simpa using h)]
  rfl
theorem asText_byl (s : ByteArray) : asText (byl s) = s := by
  rw [asText_eq]
  unfold byl
  rw [List.map_map]
  have : (List.map ((fun n : Int => UInt8.ofNat n.toNat) ∘ fun c : UInt8 => (c.toNat : Int)) s.data.toList) = s.data.toList := by
    conv => rhs; rw [← List.map_id s.data.toList]
    refine List.map_congr_left fun c _ => ?_
    simp
  rw [this]
theorem conv_bytes (s : ByteArray) (w : World) : (convert 9 112 (.string s)).run Try.prog w = .ok (.slice (some ⟨w.heap.size, 0, none⟩) s.size (grownCap w s.size 0 5)) (Lib.bytesWorld w 5 s) :=
  Lib.run_convert_string_bytes w 9 112 5 s Try.underlying9 Try.underlying112 Try.underlying5
theorem conv_again (s : ByteArray) (w : World) (c : Nat) : (convert 112 9 (.slice (some ⟨w.heap.size, 0, none⟩) s.size c)).run Try.prog (Lib.bytesWorld w 5 s) = .ok (.string s) (Lib.bytesWorld w 5 s) := by
  rw [run_convert_bytes_string _ 112 9 5 _ _ _ Try.underlying112 Try.underlying5 Try.underlying9]
  have h := run_bytesToString (P := Try.prog) (Lib.bytesWorld w 5 s) ⟨w.heap.size, 0, none⟩ s.size c (byl s) ?_
  · rw [h]; exact congrArg (fun x => Result.ok (Value.string x) _) (asText_byl s)
  · have h2 := run_loadCells_list (P := Try.prog) (w := Lib.bytesWorld w 5 s) ⟨w.heap.size, 0, none⟩ ((byl s).map (Value.int .u8)) (fun j u hj => by
      rw [List.getElem?_map] at hj
      have hlt : j < s.size := by
        by_cases q : j < s.size
        · exact q
        · rw [List.getElem?_eq_none (by rw [byl_len]; omega)] at hj; cases hj
      rw [byl_get s j hlt] at hj
      cases hj
      have h3 := Lib.bytesWorld_cell w 5 s j hlt
      rw [Addr.add_lit, Nat.zero_add, h3]
      have : s.data.toList.getD j 0 = s[j] := by
        rw [List.getD_eq_getElem?_getD, List.getElem?_eq_getElem (by simpa using hlt)]; rfl
      rw [this])
    rwa [List.length_map, byl_len] at h2

/-- A node in a box that is the call's own. -/
structure NX (W : World) (b : Nat) (n : Nd) : Prop where
  heap : W.heap[b]? = some (.cells #[.int .i64 n.op, .int .i64 n.nn, .string n.tx, .int .u64 n.s0, .int .u64 n.s1, .int .u64 n.s2, .int .u64 n.s3] 68 (0, 0))
theorem NX.lt {W : World} {b : Nat} {n : Nd} (h : NX W b n) : b < W.heap.size := (Array.getElem?_eq_some_iff.1 h.heap).1
theorem NX.same {W W' : World} {b : Nat} {n : Nd} (h : NX W b n) (hb : W'.heap[b]? = W.heap[b]?) : NX W' b n := ⟨hb.trans h.heap⟩
theorem NX.nb {W : World} {b : Nat} {n : Nd} (h : NX W b n) : NB W b 0 n := by
  have key : ∀ (j : Nat) u, (#[Value.int .i64 n.op, .int .i64 n.nn, .string n.tx, .int .u64 n.s0, .int .u64 n.s1, .int .u64 n.s2, .int .u64 n.s3] : Array Value)[j]? = some u → W.cell? ⟨b, j, none⟩ = some u := fun j u hu => by
    rw [cell_of_row W b j _ 68 (0, 0) h.heap]
    exact hu
  exact ⟨key 0 _ rfl, key 1 _ rfl, key 2 _ rfl, key 3 _ rfl, key 4 _ rfl, key 5 _ rfl, key 6 _ rfl⟩
theorem NX.fz {W : World} {b : Nat} {n : Nd} (h : NX W b n) (j : Nat) : W.frozen? ⟨b, j, none⟩ = false := frozen_of_row W b j _ 68 h.heap
theorem NX.tx {W : World} {b : Nat} {n : Nd} (h : NX W b n) : NX (W.setCell ⟨b, 2, none⟩ (.string n.tx)) b n := ⟨by rw [heap_setCell_same W b 2 _ 68 _ h.heap]; rfl⟩

set_option maxRecDepth 100000 in
set_option maxHeartbeats 4000000 in
theorem copied_any (n : Nd) (w : World) : Calls Try.prog 87 #[ndG n] w fun e w' => e = .returned (ndG n) ∧ Below w.heap.size w w' := by
  obtain ⟨W2, hW2⟩ : ∃ W2, W2 = (w.alloc (.cells #[.int .i64 n.op, .int .i64 n.nn, .string n.tx, .int .u64 n.s0, .int .u64 n.s1, .int .u64 n.s2, .int .u64 n.s3] 68)).alloc (.cells #[.int .i64 0, .int .i64 0, .string ⟨#[]⟩, .int .u64 0, .int .u64 0, .int .u64 0, .int .u64 0] 68) := ⟨_, rfl⟩
  have hx1 : NX W2 w.heap.size n := by
    rw [hW2]
    exact NX.same ⟨heap_alloc_new w _⟩ ((below_box (w.alloc (ndO n)) _).block _ (by simp))
  have hx2 : NX W2 (w.heap.size + 1) (zN 0) := by
    rw [hW2]
    have h := heap_alloc_new (w.alloc (ndO n)) (ndO (zN 0))
    rw [World.size_alloc] at h
    exact ⟨h⟩
  have hB : Below w.heap.size w W2 := by rw [hW2]; exact (below_box w _).alloc (below_box w _).size _
  have hs2 : W2.heap.size = w.heap.size + 2 := by rw [hW2]; simp
  have hb3 := Lib.bytesWorld_below W2 5 n.tx
  have hx1' : NX (Lib.bytesWorld W2 5 n.tx) w.heap.size n := hx1.same (hb3.block _ hx1.lt)
  have hx2' : NX (Lib.bytesWorld W2 5 n.tx) (w.heap.size + 1) (zN 0) := hx2.same (hb3.block _ hx2.lt)
  have HB3 := (show Hid (Below w.heap.size w (Lib.bytesWorld W2 5 n.tx)) from hB.trans (hb3.mono (by omega)))
  have hc1 := conv_bytes n.tx
  have hc2 : ∀ c, (convert 112 9 (.slice (some ⟨w.heap.size + 1 + 1, 0, none⟩) n.tx.size c)).run Try.prog (Lib.bytesWorld W2 5 n.tx) = .ok (.string n.tx) (Lib.bytesWorld W2 5 n.tx) := fun c => by
    have h := conv_again n.tx W2 c
    rw [hs2] at h
    exact h
  have HX1 := (show Hid (NX (Lib.bytesWorld W2 5 n.tx) w.heap.size n) from hx1')
  have HX2 := (show Hid (NX (Lib.bytesWorld W2 5 n.tx) (w.heap.size + 1) (zN 0)) from hx2')
  have HY1 := (show Hid (NX ((Lib.bytesWorld W2 5 n.tx).setCell ⟨w.heap.size, 2, none⟩ (.string n.tx)) w.heap.size n) from HX1.out.tx)
  have HY2 := (show Hid (NX ((Lib.bytesWorld W2 5 n.tx).setCell ⟨w.heap.size, 2, none⟩ (.string n.tx)) (w.heap.size + 1) (zN 0)) from HX2.out.same (heap_setCell_other _ _ _ _ (by simp)))
  have HY3 := (show Hid (NX (((((((((Lib.bytesWorld W2 5 n.tx).setCell ⟨w.heap.size, 2, none⟩ (.string n.tx)).setCell ⟨w.heap.size + 1, 0, none⟩ (.int .i64 n.op)).setCell ⟨w.heap.size + 1, 1, none⟩ (.int .i64 n.nn)).setCell ⟨w.heap.size + 1, 2, none⟩ (.string n.tx)).setCell ⟨w.heap.size + 1, 3, none⟩ (.int .u64 n.s0)).setCell ⟨w.heap.size + 1, 4, none⟩ (.int .u64 n.s1)).setCell ⟨w.heap.size + 1, 5, none⟩ (.int .u64 n.s2)).setCell ⟨w.heap.size + 1, 6, none⟩ (.int .u64 n.s3)) (w.heap.size + 1) n) from ⟨by
    have h := HY2.out.heap
    have h0 := heap_setCell_same _ (w.heap.size + 1) 0 _ 68 (.int .i64 n.op) h
    have h1 := heap_setCell_same _ (w.heap.size + 1) 1 _ 68 (.int .i64 n.nn) h0
    have h2 := heap_setCell_same _ (w.heap.size + 1) 2 _ 68 (.string n.tx) h1
    have h3 := heap_setCell_same _ (w.heap.size + 1) 3 _ 68 (.int .u64 n.s0) h2
    have h4 := heap_setCell_same _ (w.heap.size + 1) 4 _ 68 (.int .u64 n.s1) h3
    have h5 := heap_setCell_same _ (w.heap.size + 1) 5 _ 68 (.int .u64 n.s2) h4
    have h6 := heap_setCell_same _ (w.heap.size + 1) 6 _ 68 (.int .u64 n.s3) h5
    rw [h6]; rfl⟩)
  have HU := (show Hid (Below w.heap.size w (((((((((Lib.bytesWorld W2 5 n.tx).setCell ⟨w.heap.size, 2, none⟩ (.string n.tx)).setCell ⟨w.heap.size + 1, 0, none⟩ (.int .i64 n.op)).setCell ⟨w.heap.size + 1, 1, none⟩ (.int .i64 n.nn)).setCell ⟨w.heap.size + 1, 2, none⟩ (.string n.tx)).setCell ⟨w.heap.size + 1, 3, none⟩ (.int .u64 n.s0)).setCell ⟨w.heap.size + 1, 4, none⟩ (.int .u64 n.s1)).setCell ⟨w.heap.size + 1, 5, none⟩ (.int .u64 n.s2)).setCell ⟨w.heap.size + 1, 6, none⟩ (.int .u64 n.s3))) from (((((((HB3.out.setCell (by simp) _).setCell (by simp) _).setCell (by simp) _).setCell (by simp) _).setCell (by simp) _).setCell (by simp) _).setCell (by simp) _).setCell (by simp) _)
  have k2 := HX1.out.nb.c2
  have f2 := HX1.out.fz 2
  rw [Nat.zero_add] at k2
  obtain ⟨c0, c1, c2, c3, c4, c5, c6⟩ := HY1.out.nb
  obtain ⟨d0, d1, d2, d3, d4, d5, d6⟩ := HY2.out.nb
  simp only [Nat.zero_add, zN] at c0 c1 c2 c3 c4 c5 c6 d0 d1 d2 d3 d4 d5 d6
  have g0 := HY2.out.fz 0
  have g1 := HY2.out.fz 1
  have g2 := HY2.out.fz 2
  have g3 := HY2.out.fz 3
  have g4 := HY2.out.fz 4
  have g5 := HY2.out.fz 5
  have g6 := HY2.out.fz 6
  clear hx1 hx2 hB hb3 hx1' hx2' hs2 HX1 HX2 HB3 HY1 HY2
  subst hW2
  go_enter Try.func87, Try.ntmps87
  go_wp2_with fail
  generalize (((((((((Lib.bytesWorld ((w.alloc (.cells #[.int .i64 n.op, .int .i64 n.nn, .string n.tx, .int .u64 n.s0, .int .u64 n.s1, .int .u64 n.s2, .int .u64 n.s3] 68)).alloc (.cells #[.int .i64 0, .int .i64 0, .string ⟨#[]⟩, .int .u64 0, .int .u64 0, .int .u64 0, .int .u64 0] 68)) 5 n.tx).setCell ⟨w.heap.size, 2, none⟩ (.string n.tx)).setCell ⟨w.heap.size + 1, 0, none⟩ (.int .i64 n.op)).setCell ⟨w.heap.size + 1, 1, none⟩ (.int .i64 n.nn)).setCell ⟨w.heap.size + 1, 2, none⟩ (.string n.tx)).setCell ⟨w.heap.size + 1, 3, none⟩ (.int .u64 n.s0)).setCell ⟨w.heap.size + 1, 4, none⟩ (.int .u64 n.s1)).setCell ⟨w.heap.size + 1, 5, none⟩ (.int .u64 n.s2)).setCell ⟨w.heap.size + 1, 6, none⟩ (.int .u64 n.s3)) = W9 at *
  clear c0 c1 c2 c3 c4 c5 c6 d0 d1 d2 d3 d4 d5 d6 g0 g1 g2 g3 g4 g5 g6 k2 f2 hc1 hc2
  obtain ⟨c0, c1, c2, c3, c4, c5, c6⟩ := HY3.out.nb
  simp only [Nat.zero_add] at c0 c1 c2 c3 c4 c5 c6
  refine bodyPost_ret (v := ndG n) (by simp [results, Try.results87, go_sem, c0, c1, c2, c3, c4, c5, c6]) rfl ⟨rfl, HU.out⟩
end Go.Proofs.Ytppggnmlbcdegaa.T

namespace Go.Proofs.Ytppggnmlbcdegaa.T
open Go.RowKit
theorem enters47 (args : Array Value) (w : World) : (callFunc 87 args).run Try.prog w = .ok (.enter 87 args) w := enters_of Try.func87 (by kernel_rfl) rfl args w
theorem step_call47 {ops : Array Oper} {o : Oper} {a : Act} {w : World} {K : Act → World → Prop} {Q : Exit → Act → World → Prop} {E : Prop} (hgd : o.guard = none) (x : Operand) (ho : o.op = .call { callee := .value (.func 87), args := #[x], argTypes := #[68] }) (v : Value) (hx : a.eval x = v)
    (hc : Calls Try.prog 87 #[v] w fun e w' => ∃ r, e = .returned r ∧ K (a.put o.dst r) w') :
    if Region.wanted o (yielded ops a.tmps) = true then Oper.wp Try.prog o a w K Q else E := by
  have hw : Region.wanted o (yielded ops a.tmps) = true := by simp [Region.wanted, hgd]
  rw [if_pos hw]
  have h47 := enters47
  have he : (execOp a.eval o).run Try.prog w = .ok (.enter 87 #[v]) w := by
    unfold execOp
    simp [ho, go_sem, invoke, h47]
    rw [← hx]
    cases x <;> simp [Act.eval]
  unfold Oper.wp
  rw [he, Oper.upon_enter]
  refine hc.mono ?_
  rintro e w' ⟨r, rfl, hk⟩
  exact hk
end Go.Proofs.Ytppggnmlbcdegaa.T

namespace Go.Proofs.Ytppggnmlbcdegaa.N
open Go.RowKit
open Go.Proofs.Ytppggnmlbcdegaa.T (below_box)
theorem ret_gx {fn : Func} {R : Ending → World → Prop} {act : Act} {W : World} {k : Nat} {a : Value} (hF : fn.results = #[.cell 2 24]) (hd : act.defers = []) (h2 : act.tmps.getD 2 undef = .pointer (some ⟨k, 0, none⟩)) (hT : GX W k a) (hR : R (.returned (.agg #[a])) W) : bodyPost Try.prog fn R .ret act W := by
  have c0 := hT.cl
  refine bodyPost_ret (v := .agg #[a]) ?_ hd hR
  simp only [Array.getD_eq_getD_getElem?] at h2
  simp [results, hF, go_sem, h2, c0]
/-- A call with one argument as a step of a region that draws its order. -/
theorem step_call1 {F : Nat} (hen : ∀ args w, (callFunc F args).run Try.prog w = .ok (.enter F args) w) {ops : Array Oper} {o : Oper} {a : Act} {w : World} {K : Act → World → Prop} {Q : Exit → Act → World → Prop} {E : Prop} (hgd : o.guard = none) (x : Operand) (T : TypeId) (ho : o.op = .call { callee := .value (.func F), args := #[x], argTypes := #[T] }) (v : Value) (hx : a.eval x = v)
    (hc : Calls Try.prog F #[v] w fun e w' => ∃ r, e = .returned r ∧ K (a.put o.dst r) w') :
    if Region.wanted o (yielded ops a.tmps) = true then Oper.wp Try.prog o a w K Q else E := by
  have hw : Region.wanted o (yielded ops a.tmps) = true := by simp [Region.wanted, hgd]
  rw [if_pos hw]
  have he : (execOp a.eval o).run Try.prog w = .ok (.enter F #[v]) w := by
    unfold execOp
    simp [ho, go_sem, invoke, hen]
    rw [← hx]
    cases x <;> simp [Act.eval]
  unfold Oper.wp
  rw [he, Oper.upon_enter]
  refine hc.mono ?_
  rintro e w' ⟨r, rfl, hk⟩
  exact hk


/-- A rule that was lent: it, its pattern's block and room. -/
abbrev Le : Type := (ByteArray × List Nd) × Nat × Nat
def lgV (x : Le) : List Value := [.string x.1.1, .slice (some ⟨x.2.1, 0, none⟩) x.1.2.length x.2.2]
def lgc (l : List Le) : List Value := l.flatMap lgV
theorem lgc_app (a b : List Le) : lgc (a ++ b) = lgc a ++ lgc b := List.flatMap_append
theorem lgc_one (x : Le) : lgc [x] = lgV x := by unfold lgc; rw [List.flatMap_cons, List.flatMap_nil, List.append_nil]
theorem lgc_get (l : List Le) : ∀ (k j : Nat) (x : Le) (u : Value) (ys : List Value), l[k]? = some x → (lgV x)[j]? = some u → (lgc l ++ ys)[k * 2 + j]? = some u := by
  induction l with
  | nil => intro k j x u ys h; cases h
  | cons a l ih =>
    intro k j x u ys h hu
    have e : lgc (a :: l) ++ ys = lgV a ++ (lgc l ++ ys) := by unfold lgc; rw [List.flatMap_cons, List.append_assoc]
    rw [e]
    have hj : j < 2 := (List.getElem?_eq_some_iff.1 hu).1
    cases k with
    | zero =>
      cases h
      rw [Nat.zero_mul, Nat.zero_add, List.getElem?_append_left (by show j < 2; exact hj)]
      exact hu
    | succ k =>
      have h2 : l[k]? = some x := by simpa using h
      have e2 : (lgV a).length = 2 := rfl
      rw [List.getElem?_append_right (by rw [e2]; omega), e2, show (k + 1) * 2 + j - 2 = k * 2 + j from by omega]
      exact ih k j x u ys h2 hu
/-- While a grammar is lent. -/
structure LgI (w wr : World) (a : Value) (v : Value) (ov : List Le) : Prop where
  o : wr.ownsRow w.heap.size 57 2 v ov.length (lgc ov)
  e : ∀ x ∈ ov, T.LentR wr w.heap.size x.2.1 x.2.2 x.1.2
  b : Below w.heap.size w wr
  x : GX wr w.heap.size a
  y : GX wr (w.heap.size + 1) (.slice none 0 0)
theorem LgI.later {w wr W' : World} {a v : Value} {ov : List Le} (h : LgI w wr a v ov) (hb : Below wr.heap.size wr W') : LgI w W' a v ov :=
  ⟨T.own_below h.o hb, fun x hx => (h.e x hx).below hb, h.b.trans (hb.mono h.b.size), h.x.below hb, h.y.below hb⟩
theorem LgI.push {w wr wA w5 : World} {a v u : Value} {ov : List Le} {nm : ByteArray} {L : List Nd} {g cap : Nat} (h : LgI w wr a v ov) (hA : Below wr.heap.size wr wA) (hl : T.LentR wA w.heap.size g cap L) (hg : (wA.alloc (.cells #[.string nm, .slice (some ⟨g, 0, none⟩) L.length cap] 57)).grownBy w5 v.ownBlock) (ho : w5.ownsRow w.heap.size 57 2 u (ov.length + 1) (lgc ov ++ [.string nm, .slice (some ⟨g, 0, none⟩) L.length cap])) : LgI w w5 a u (ov ++ [((nm, L), g, cap)]) := by
  have h2 : LgI w (wA.alloc (.cells #[.string nm, .slice (some ⟨g, 0, none⟩) L.length cap] 57)) a v ov := (h.later hA).later (below_box wA _)
  have hl2 : T.LentR (wA.alloc (.cells #[.string nm, .slice (some ⟨g, 0, none⟩) L.length cap] 57)) w.heap.size g cap L := hl.below (below_box wA _)
  have key : ∀ (y : Le), T.LentR (wA.alloc (.cells #[.string nm, .slice (some ⟨g, 0, none⟩) L.length cap] 57)) w.heap.size y.2.1 y.2.2 y.1.2 → T.LentR w5 w.heap.size y.2.1 y.2.2 y.1.2 := fun y hy =>
    own_same (v := .slice (some ⟨y.2.1, 0, none⟩) (y.1.2.length + 1) y.2.2) hy fun k hk => hg.block k (World.ownsRow.lt hy k hk).2 (fun q => own_apart h2.o hy (by decide) q.symm hk)
  refine ⟨?_, fun y hy => ?_, h2.b.grown hg h2.b.size (fun k e => (h2.o.lt k e).1), h2.x.same (hg.block _ h2.x.lt (fun e => h2.x.ne h2.o (by decide) e.symm rfl)), h2.y.same (hg.block _ h2.y.lt (fun e => h2.y.ne h2.o (by decide) e.symm rfl))⟩
  · rw [List.length_append, lgc_app, lgc_one]
    exact ho
  · rcases List.mem_append.1 hy with q | q
    · exact key y (h2.e y q)
    · rw [List.mem_singleton.1 q]
      exact key ((nm, L), g, cap) hl2
/-- A grammar that was lent, and is as it was. -/
structure LgB (w w' : World) (g cap : Nat) (ov : List Le) : Prop where
  o : w'.ownsRow w.heap.size 57 2 (.slice (some ⟨g, 0, none⟩) (ov.length + 1) cap) (ov.length + 1) (lgc ov ++ [.string ⟨#[115, 112, 97, 114, 101, 32, 114, 111, 111, 109]⟩, .slice none 0 0])
  e : ∀ x ∈ ov, T.LentR w' w.heap.size x.2.1 x.2.2 x.1.2
  b : Below w.heap.size w w'
theorem LgB.later {w wr W' : World} {g cap : Nat} {ov : List Le} (h : LgB w wr g cap ov) (hb : Below wr.heap.size wr W') : LgB w W' g cap ov :=
  ⟨T.own_below h.o hb, fun x hx => (h.e x hx).below hb, h.b.trans (hb.mono h.b.size)⟩
theorem LgB.cell {w wr : World} {g cap : Nat} {ov : List Le} (h : LgB w wr g cap ov) {k : Nat} {x : Le} (hk : ov[k]? = some x) : wr.cell? ⟨g, k * 2, none⟩ = some (.string x.1.1) ∧ wr.cell? ⟨g, k * 2 + 1, none⟩ = some (.slice (some ⟨x.2.1, 0, none⟩) x.1.2.length x.2.2) := by
  have hc := h.o.cells (g := g) rfl
  have q0 := hc (k * 2 + 0) _ (lgc_get ov k 0 x _ _ hk rfl)
  have q1 := hc (k * 2 + 1) _ (lgc_get ov k 1 x _ _ hk rfl)
  rw [Addr.add_lit, Nat.zero_add] at q0 q1
  exact ⟨q0, q1⟩
theorem LgB.last {w wr : World} {g cap : Nat} {ov : List Le} (h : LgB w wr g cap ov) : wr.cell? ⟨g, ov.length * 2, none⟩ = some (.string ⟨#[115, 112, 97, 114, 101, 32, 114, 111, 111, 109]⟩) := by
  have hc := h.o.cells (g := g) rfl
  have hlen : (lgc ov).length = ov.length * 2 := by
    have := h.o.1
    rw [List.length_append] at this
    simp only [List.length_cons, List.length_nil] at this
    omega
  have q0 := hc (ov.length * 2) (.string ⟨#[115, 112, 97, 114, 101, 32, 114, 111, 111, 109]⟩) (by rw [List.getElem?_append_right (by omega), hlen, Nat.sub_self]; rfl)
  rw [Addr.add_lit, Nat.zero_add] at q0
  exact q0
theorem LgB.gr {w wr : World} {g cap : Nat} {ov : List Le} {gs : List (ByteArray × List Nd)} (h : LgB w wr g cap ov) (hm : ov.map (·.1) = gs) : GrD wr (some ⟨g, 0, none⟩) gs := fun k r hr => by
  rw [← hm, List.getElem?_map] at hr
  cases hx : ov[k]? with
  | none => rw [hx] at hr; cases hr
  | some x =>
    rw [hx] at hr
    obtain rfl : x.1 = r := by simpa using hr
    obtain ⟨q0, q1⟩ := h.cell hx
    exact ⟨g, 0, some ⟨x.2.1, 0, none⟩, x.2.2, rfl, (h.o.lt g rfl).2, by rw [Nat.zero_add]; exact q0, by rw [Nat.zero_add]; exact q1, (h.e x (List.mem_of_getElem? hx)).rd⟩
theorem enters8 (args : Array Value) (w : World) : (callFunc 33 args).run Try.prog w = .ok (.enter 33 args) w := enters_of Try.func33 (by kernel_rfl) rfl args w
set_option maxRecDepth 100000 in
set_option maxHeartbeats 8000000 in
theorem lendG_any (gs : List (ByteArray × List Nd)) (A : Option Addr) (c : Nat) (w : World) (hg : GrIn w A c gs) :
    Calls Try.prog 9 #[.agg #[.slice A gs.length c]] w fun e w' => ∃ g cap ov, e = .returned (.agg #[.slice (some ⟨g, 0, none⟩) gs.length cap]) ∧ ov.map (·.1) = gs ∧ LgB w w' g cap ov := by
  obtain ⟨i0, hinf, hz0, hz1, hz2⟩ := info_parts Try.info41
  have hl := hg.len
  have HG := (show Hid (∀ k, k < gs.length → ∃ g, gs[k]? = some g ∧ g.2.length * 64 ≤ 140737488351232 ∧ ∃ b o A2 c2, A = some ⟨b, o, none⟩ ∧ b < w.heap.size ∧ w.cell? ⟨b, o + k * 2, none⟩ = some (.string g.1) ∧ w.cell? ⟨b, o + k * 2 + 1, none⟩ = some (.slice A2 g.2.length c2) ∧ T.InP w A2 c2 g.2) from fun k hk => by
    have e : gs[k]? = some gs[k] := List.getElem?_eq_getElem hk
    obtain ⟨b, o, _, _, h1, h2, h3, _, _⟩ := hg.d k _ e
    obtain ⟨A3, c3, h6, h7⟩ := hg.each k _ e
    exact ⟨_, e, h6.2.2.2.1, b, o, A3, c3, h1, h2, h3, h7 b o h1, h6.1, h6.2.1⟩)
  have HA := (show Hid (LgI w ((w.alloc (.cells #[.slice A gs.length c] 24)).alloc (.cells #[.slice none 0 0] 24)) (.slice A gs.length c) (.slice none 0 0) []) from
    ⟨World.ownsRow_nil _ _ _ _, (fun x hx => by cases hx), ((Below.refl _ _).alloc (Nat.le_refl _) _).alloc (by rw [World.size_alloc]; omega) _, (GX.mk (heap_alloc_new w _)).below (below_box _ _), ⟨by have h := heap_alloc_new (w.alloc (.cells #[.slice A gs.length c] 24)) (.cells #[.slice none 0 0] 24); rw [World.size_alloc] at h; exact h⟩⟩)
  clear hg
  go_enter Try.func9, Try.ntmps9
  go_wp2_with fail
  generalize (w.alloc (.cells #[.slice A gs.length c] 24)).alloc (.cells #[.slice none 0 0] 24) = w1 at *
  go_loopw [3, 4] (fun v t wr => ∃ (k : Nat) (ov : List Le) (Av : Option Addr) (cv : Nat), k ≤ gs.length ∧ t = .int .i64 k ∧ v = .slice Av k cv ∧ Hid (ov.length = k ∧ ov.map (·.1) = gs.take k) ∧ Hid (LgI w wr (.slice A gs.length c) (.slice Av k cv) ov)) (fun _ t _ => gs.length - (intOf t).toNat)
  case atStart => exact ⟨0, [], none, 0, Nat.zero_le _, rfl, rfl, ⟨rfl, rfl⟩, HA⟩
  case round =>
    obtain ⟨k, ov, Av, cv, hk, rfl, rfl, HM, HW⟩ := hrel
    clear HA
    have x0 := HW.out.x.cl
    by_cases hlt : k < gs.length
    · obtain ⟨g, hgk, hgl, b, o, A2, c2, rfl, lb, e0, e1, hin⟩ := HG.out k hlt
      have z0 : (0 : Int) ≤ (k : Int) := by omega
      have z1 : (k : Int) < (gs.length : Int) := by omega
      have hD : Below wr.heap.size wr wr.drew := (Below.refl _ _).drew
      have HLd := (show Hid (LgI w wr.drew (.slice (some ⟨b, o, none⟩) gs.length c) (.slice Av k cv) ov) from HW.out.later hD)
      have d0 := (HLd.out.b.cell (p := ⟨b, o + k * 2, none⟩) lb).trans e0
      have d1 := (HLd.out.b.cell (p := ⟨b, o + k * 2 + 1, none⟩) lb).trans e1
      have dx := HLd.out.x.cl
      have hsz : w.heap.size ≤ wr.heap.size := HW.out.b.size
      have HCall := (show Hid (∀ _ : Unit, Calls Try.prog 33 #[.slice A2 g.2.length c2] wr.drew fun e w' => (∃ g9 cap, e = .returned (.slice (some ⟨g9, 0, none⟩) g.2.length cap) ∧ T.LentR w' w.heap.size g9 cap g.2) ∧ Below wr.drew.heap.size wr.drew w') from fun _ => by
        refine (T.lend_any A2 c2 g.2 wr.drew hgl ⟨hin.1.below HLd.out.b (Nat.le_refl _), hin.2⟩).mono ?_
        rintro e w' ⟨⟨g9, cap, rfl, r9⟩, b9⟩
        exact ⟨⟨g9, cap, rfl, T.own_base r9 (by show w.heap.size ≤ wr.heap.size; exact hsz)⟩, b9⟩)
      have HAft := (show Hid (∀ wA, Below wr.drew.heap.size wr.drew wA → wA.cell? ⟨w.heap.size, 0, none⟩ = some (.slice (some ⟨b, o, none⟩) gs.length c) ∧ wA.cell? ⟨b, o + k * 2, none⟩ = some (.string g.1)) from fun wA hA => by
        have h3 := HLd.out.later hA
        exact ⟨h3.x.cl, (h3.b.cell (p := ⟨b, o + k * 2, none⟩) lb).trans e0⟩)
      have HTk := (show Hid (gs.take (k + 1) = gs.take k ++ [g]) from by rw [List.take_add_one, hgk]; rfl)
      have hov := HM.out.1
      have HO := (show Hid (wr.drew.ownsRow w.heap.size 57 2 (.slice Av k cv) k (lgc ov)) from by have h := HLd.out.o; rw [hov] at h; exact h)
      clear hgk hin e0 e1 HG hlt hov
      obtain ⟨nm, L⟩ := g
      simp only at d0 d1 HCall HAft HTk hgl
      go_wp2_with fail
      go_region_law (first
        | (refine step_call1 enters8 rfl _ _ (by rfl) (.slice A2 L.length c2) (by rfl) ?_; with_reducible refine (HCall.out ()).mono ?_; rintro e wA ⟨⟨g, cap, rfl, rA⟩, bA⟩; refine ⟨_, rfl, ?_⟩; obtain ⟨ax, a0⟩ := HAft.out wA bA)
        | (refine step_append_lies _ (by rfl) _ _ _ (by rfl) w.heap.size 57 i0 (.agg #[.string ⟨#[]⟩, .slice none 0 0]) 2 40 Try.underlying22 hinf hz0 hz1 hz2 rfl (by omega) _ _ (lgc ov) (by rfl) ((T.own_below HO.out bA).alloc _) ⟨wA.heap.size, 0, none⟩ 1 1 [.string nm, .slice (some ⟨g, 0, none⟩) L.length cap] (by rfl) (by rfl) (World.news_of_block (cs := #[.string nm, .slice (some ⟨g, 0, none⟩) L.length cap]) (t := 57) (fr := (0, 0)) (heap_alloc_new wA _)) (by intro u hu; simp only [List.mem_cons, List.not_mem_nil, or_false] at hu; rcases hu with rfl | rfl <;> rfl) (by omega) (by unfold maxLen; omega) (by omega) (by have q1 := bA.size; have q2 : wr.drew.heap.size = wr.heap.size := rfl; rw [World.size_alloc]; omega) (wA.heap.size + 1) (by simp) ?_; intro g3 cap3 w5 hown hgrow hat hltg))
      all_goals
        have HN := (show Hid (LgI w w5 (.slice (some ⟨b, o, none⟩) gs.length c) (.slice (some ⟨g3, 0, none⟩) (k + 1) cap3) (ov ++ [((nm, L), g, cap)])) from by
          have q2 : wr.drew.heap.size = wr.heap.size := rfl
          have hA : Below wr.heap.size wr wA := hD.trans (by rw [← q2]; exact bA)
          exact HW.out.push hA rA hgrow (by rw [HM.out.1]; exact hown))
        clear hown hgrow hat hltg rA bA ax a0 HCall HAft HO HLd HW hD
        go_wp2_with fail
        go_roundw
        case rel => exact ⟨k + 1, _, _, _, by omega, by go_num, rfl, ⟨by rw [List.length_append, HM.out.1]; rfl, by rw [List.map_append, HM.out.2, HTk.out]; rfl⟩, HN⟩
        case measure => simp [intOf]; omega
    · obtain rfl : k = gs.length := by omega
      have hov := HM.out.1
      have hO := HW.out.o
      rw [hov] at hO
      have hsz : w.heap.size ≤ wr.heap.size := HW.out.b.size
      have HMm := (show Hid (ov.map (·.1) = gs) from by have := HM.out.2; rw [List.take_length] at this; exact this)
      have HWl := (show Hid (LgI w (wr.alloc (.cells #[.string ⟨#[115, 112, 97, 114, 101, 32, 114, 111, 111, 109]⟩, .slice none 0 0] 57)) (.slice A gs.length c) (.slice Av gs.length cv) ov) from HW.out.later (below_box _ _))
      have HL := (show Hid (ov.length = gs.length) from hov)
      clear HG hlt hov HM HW
      go_wp2_with (at_builtin; refine wpList_append_lies _ rfl _ _ 22 rfl w.heap.size 57 i0 (.agg #[.string ⟨#[]⟩, .slice none 0 0]) 2 40 Try.underlying22 hinf hz0 hz1 hz2 rfl (by decide) _ _ _ rfl (hO.alloc _) ⟨wr.heap.size, 0, none⟩ 1 1 [.string ⟨#[115, 112, 97, 114, 101, 32, 114, 111, 111, 109]⟩, .slice none 0 0] rfl rfl ?c1 ?c2 (by decide) ?c3 ?c4 ?c5 (wr.heap.size + 1) (by simp) ?_)
      case c1 => exact World.news_of_block (cs := #[.string ⟨#[115, 112, 97, 114, 101, 32, 114, 111, 111, 109]⟩, .slice none 0 0]) (t := 57) (fr := (0, 0)) (heap_alloc_new wr _)
      case c2 => intro u hu; simp only [List.mem_cons, List.not_mem_nil, or_false] at hu; rcases hu with rfl | rfl <;> rfl
      case c3 => unfold maxLen; omega
      case c4 => omega
      case c5 => rw [World.size_alloc]; omega
      intro g3 cap3 w5 hown hgrow hat hltg
      have hcap : gs.length + 1 ≤ cap3 := by
        rcases hown.2 with ⟨q, _⟩ | ⟨g2, c2, cur, q, _, _, h3, _⟩
        · cases q
        · cases q; exact h3
      have HF := (show Hid (GX w5 (w.heap.size + 1) (.slice none 0 0) ∧ LgB w w5 g3 cap3 ov) from by
        have h2 := HWl.out
        have key : ∀ (y : Le), T.LentR (wr.alloc (.cells #[.string ⟨#[115, 112, 97, 114, 101, 32, 114, 111, 111, 109]⟩, .slice none 0 0] 57)) w.heap.size y.2.1 y.2.2 y.1.2 → T.LentR w5 w.heap.size y.2.1 y.2.2 y.1.2 := fun y hy =>
          own_same (v := .slice (some ⟨y.2.1, 0, none⟩) (y.1.2.length + 1) y.2.2) hy fun k hk => hgrow.block k (World.ownsRow.lt hy k hk).2 (fun q => own_apart h2.o hy (by decide) q.symm hk)
        refine ⟨h2.y.same (hgrow.block _ h2.y.lt (fun e => h2.y.ne h2.o (by decide) e.symm rfl)), ?_, fun y hy => key y (h2.e y hy), h2.b.grown hgrow h2.b.size (fun k e => (h2.o.lt k e).1)⟩
        rw [HL.out]
        exact hown)
      have hf := HF.out.1.fz
      have hcl := HF.out.1.cl
      have z0 : (0 : Int) ≤ (gs.length : Int) := by omega
      have z1 : (gs.length : Int) ≤ (cap3 : Int) := by omega
      clear hown hgrow hat hltg hO HWl x0
      go_wp2_with fail
      refine ret_gx rfl rfl rfl (HF.out.1.set _) ?_
      have hb := HF.out.2
      have hk : (w5.setCell ⟨w.heap.size + 1, 0, none⟩ (.slice (some ⟨g3, 0, none⟩) gs.length cap3)).heap.size = w5.heap.size := by simp [World.setCell]
      have key : ∀ (j : Nat), j ≠ w.heap.size + 1 → (w5.setCell ⟨w.heap.size + 1, 0, none⟩ (.slice (some ⟨g3, 0, none⟩) gs.length cap3)).heap[j]? = w5.heap[j]? := fun j hj => Below.heap_setCell _ _ _ _ hj
      refine ⟨g3, cap3, ov, rfl, HMm.out, own_same hb.o fun j hj => key j (HF.out.1.ne hb.o (by decide) hj), fun y hy => ?_, hb.b.setCell (p := ⟨w.heap.size + 1, 0, none⟩) (by show w.heap.size ≤ w.heap.size + 1; omega) _⟩
      exact own_same (v := .slice (some ⟨y.2.1, 0, none⟩) (y.1.2.length + 1) y.2.2) (hb.e y hy) fun j hj => key j (HF.out.1.ne (hb.e y hy) (by decide) hj)
end Go.Proofs.Ytppggnmlbcdegaa.N

namespace Go.Proofs.Ytppggnmlbcdegaa.N
open Go.RowKit
open Go.Proofs.Ytppggnmlbcdegaa.T (below_box)
set_option maxRecDepth 100000 in
set_option maxHeartbeats 4000000 in
theorem keptq (A : Option Addr) (c g cap B : Nat) (L : List Nd) (hl : L.length * 64 ≤ 140737488351232) (w : World) (h : T.RdN w A L) (ho : T.LentR w B g cap L) :
    Calls Try.prog 38 #[.slice (some ⟨g, 0, none⟩) L.length cap, .slice A L.length c] w fun e w' => e = .returned (.bool true) ∧ ∃ m, w' = w.drewN m := by
  have HS : Hid (∀ _ : Unit, Calls Try.prog 54 #[.slice (some ⟨g, 0, none⟩) L.length cap, .slice A L.length c] w fun e w' => e = .returned (.bool true) ∧ ∃ m, w' = w.drewN m) := fun _ => sameq (some ⟨g, 0, none⟩) A cap c L (by omega) w ho.rd h
  have hcap := T.own_cap ho
  have HO := (show Hid (∀ w', Below w.heap.size w w' → T.NB w' g (L.length * 7) (T.zN (-77))) from fun w' hb => (ho.below hb).last)
  clear ho h
  have z0 : (0 : Int) ≤ (L.length : Int) := by omega
  have z1 : (L.length : Int) + 1 ≤ (cap : Int) := by omega
  have z2 : (L.length : Int) < (L.length : Int) + 1 := by omega
  have hq := T.node_eql (T.zN (-77)) (T.zN (-77))
  rw [T.ndE_refl] at hq
  generalize L.length = n at *
  go_enter Try.func38, Try.ntmps38
  go_wp2_with fail
  refine (HS.out ()).mono ?_
  rintro e w1 ⟨rfl, hb⟩
  obtain ⟨c0, c1, c2, c3, c4, c5, c6⟩ := HO.out w1 (by obtain ⟨m, rfl⟩ := hb; exact T.below_drewN (Below.refl _ _) _)
  have HB := (show Hid _ from hb)
  clear hb HS HO
  unfold T.zN at c0 c1 c2 c3 c4 c5 c6 hq
  dsimp only at c0 c1 c2 c3 c4 c5 c6
  go_wp2_with fail
  go_ret
  exact ⟨rfl, HB.out⟩
/-- While a grammar that was lent is held against what it was. -/
structure AtK (w0 w wr : World) (u1 u2 : Value) (A : Option Addr) (gs : List (ByteArray × List Nd)) (g cap : Nat) (ov : List Le) : Prop where
  b : Below w.heap.size w wr
  x1 : GX wr w.heap.size u1
  x2 : GX wr (w.heap.size + 1) u2
  l : LgB w0 wr g cap ov
  d : GrD wr A gs
theorem AtK.later {w0 w wr W' : World} {u1 u2 : Value} {A : Option Addr} {gs : List (ByteArray × List Nd)} {g cap : Nat} {ov : List Le} (h : AtK w0 w wr u1 u2 A gs g cap ov) (hb : Below wr.heap.size wr W') : AtK w0 w W' u1 u2 A gs g cap ov :=
  ⟨h.b.trans (hb.mono h.b.size), h.x1.below hb, h.x2.below hb, h.l.later hb, h.d.later hb⟩
set_option maxRecDepth 100000 in
set_option maxHeartbeats 8000000 in
theorem keptG_any {gs : List (ByteArray × List Nd)} {ov : List Le} (hm : ov.map (·.1) = gs) (hl : ∀ g ∈ gs, g.2.length * 64 ≤ 140737488351232) (hn : gs.length * 40 ≤ 140737488351232) {w0 w : World} {A : Option Addr} {c g cap : Nat} (h1 : LgB w0 w g cap ov) (h2 : GrD w A gs) :
    Calls Try.prog 15 #[.agg #[.slice (some ⟨g, 0, none⟩) gs.length cap], .agg #[.slice A gs.length c]] w fun e w' => e = .returned (.bool true) ∧ Below w.heap.size w w' := by
  have hov : ov.length = gs.length := by rw [← hm, List.length_map]
  have HA := (show Hid (AtK w0 w ((w.alloc (.cells #[.slice (some ⟨g, 0, none⟩) gs.length cap] 24)).alloc (.cells #[.slice A gs.length c] 24)) (.slice (some ⟨g, 0, none⟩) gs.length cap) (.slice A gs.length c) A gs g cap ov) from
    ⟨((Below.refl _ _).alloc (Nat.le_refl _) _).alloc (by rw [World.size_alloc]; omega) _, (GX.mk (heap_alloc_new w _)).below (below_box _ _), ⟨by have h := heap_alloc_new (w.alloc (.cells #[.slice (some ⟨g, 0, none⟩) gs.length cap] 24)) (.cells #[.slice A gs.length c] 24); rw [World.size_alloc] at h; exact h⟩, (h1.later (below_box _ _)).later (below_box _ _), (h2.later (below_box _ _)).later (below_box _ _)⟩)
  have hcap : gs.length + 1 ≤ cap := by rw [← hov]; exact T.own_cap h1.o
  have HG := (show Hid (∀ k, k < gs.length → ∃ x, ov[k]? = some x ∧ gs[k]? = some x.1 ∧ x ∈ ov ∧ x.1.2.length * 64 ≤ 140737488351232) from fun k hk => by
    obtain ⟨x, e⟩ : ∃ x, ov[k]? = some x := ⟨_, List.getElem?_eq_getElem (by omega)⟩
    have e2 : gs[k]? = some x.1 := by rw [← hm, List.getElem?_map, e]; rfl
    exact ⟨x, e, e2, List.mem_of_getElem? e, hl _ (List.mem_of_getElem? e2)⟩)
  have q1 := HA.out.x1.cl
  have q2 := HA.out.x2.cl
  have q3 := HA.out.l.last
  rw [hov] at q3
  have z0 : (0 : Int) ≤ (gs.length : Int) := by omega
  have z1 : (gs.length : Int) + 1 ≤ (cap : Int) := by omega
  have z2 : (gs.length : Int) < (gs.length : Int) + 1 := by omega
  clear hl hm h1 h2 hov hcap
  generalize gs.length = n at *
  go_enter Try.func15, Try.ntmps15
  go_wp2_with fail
  generalize (w.alloc (.cells #[.slice (some ⟨g, 0, none⟩) n cap] 24)).alloc (.cells #[.slice A n c] 24) = w1 at *
  go_wp2_with fail
  clear q1 q2 q3
  go_loopw [6] (fun t wr => ∃ k : Nat, k ≤ n ∧ t = .int .i64 k ∧ Hid (AtK w0 w wr (.slice (some ⟨g, 0, none⟩) n cap) (.slice A n c) A gs g cap ov)) (fun t _ => n - (intOf t).toNat)
  case atStart => exact ⟨0, by omega, by go_num, HA⟩
  case round =>
    obtain ⟨k, hk, rfl, HW⟩ := hrel
    clear HA
    have q1 := HW.out.x1.cl
    have q2 := HW.out.x2.cl
    by_cases hlt : k < n
    · obtain ⟨x, hx, hgx, hxm, hxl⟩ := HG.out k hlt
      obtain ⟨y0, y1⟩ := HW.out.l.cell hx
      obtain ⟨b2, o2, B2, d2, hA2, l2, x0, x1, r2⟩ := HW.out.d k _ hgx
      subst hA2
      have HS : Hid (∀ n, Calls Try.prog 38 #[.slice (some ⟨x.2.1, 0, none⟩) x.1.2.length x.2.2, .slice B2 x.1.2.length d2] (wr.drewN n) fun e w' => e = .returned (.bool true) ∧ ∃ m, w' = (wr.drewN n).drewN m) := fun n => keptq B2 d2 x.2.1 x.2.2 w0.heap.size x.1.2 hxl _ (r2.below (T.below_drewN (Below.refl _ _) _) (Nat.le_refl _)) ((HW.out.l.e x hxm).below (T.below_drewN (Below.refl _ _) _))
      have u0 : (0 : Int) ≤ (k : Int) := by omega
      have u1 : (k : Int) < (n : Int) := by omega
      clear HG r2 hx hgx hxm hxl z0 z1 z2
      generalize x.1.2.length = gl at *
      generalize x.1.1 = nm at *
      generalize x.2.1 = xb at *
      generalize x.2.2 = xc at *
      go_wp2_with fail
      go_quiet ((go_at_call 38; exact Calls.quiet_of (HS.out _)))
      have HW2 := (show Hid (AtK w0 w (wr.drewN nq) (.slice (some ⟨g, 0, none⟩) n cap) (.slice (some ⟨b2, o2, none⟩) n c) (some ⟨b2, o2, none⟩) gs g cap ov) from HW.out.later (T.below_drewN (Below.refl _ _) _))
      generalize wr.drewN nq = w2 at *
      clear HW q1 q2 y0 y1 x0 x1
      go_wp2_with fail
      go_roundw
      case rel => exact ⟨k + 1, by omega, by go_num, HW2⟩
      case measure => simp [intOf]; omega
    · obtain rfl : k = n := by omega
      clear HG
      go_wp2_with fail
      go_ret
      exact ⟨rfl, HW.out.b⟩
end Go.Proofs.Ytppggnmlbcdegaa.N

namespace Go.Proofs.Ytppggnmlbcdegaa.N
open Go.RowKit Go.Maps
open Go.Proofs.Ytppggnmlbcdegaa.T
theorem nmB_s : nmB ⟨#[115]⟩ = true := by kernel_rfl
theorem ckG_one : ckG [((⟨#[115]⟩ : ByteArray), [zN 3])] = ((0, 0), 0) := by
  have h1 : c1G [((⟨#[115]⟩ : ByteArray), [zN 3])] 0 0 [((⟨#[115]⟩ : ByteArray), [zN 3])] = ((0, 0), 0) := by
    rw [c1G, if_neg (fun q => q (.inl nmB_s)), if_neg, if_neg (by rw [ck_any1]; decide), if_neg (by show ¬ 2048 < 0 + 1; decide), c1G]
    unfold tw
    have : fdG [((⟨#[115]⟩ : ByteArray), [zN 3])] ⟨#[115]⟩ = some 0 := by rw [fdG, if_pos rfl]
    rw [this]
    decide
  rw [ckG_un (by decide) (by decide) h1, unG_cons]
  have : unN [((⟨#[115]⟩ : ByteArray), [zN 3])] 0 [zN 3] = none := by
    rw [unN_cons, if_neg (by rintro ⟨q, _⟩; exact absurd q (show ¬ (3 : Int) = 6 by decide))]
    rfl
  rw [this]
  rfl
theorem ckG_nil : ckG [] = ((0, 0), 3) := rfl
theorem gi_one (w : World) : GI ((w.alloc (ndO (zN 3))).alloc (.cells #[.string ⟨#[115]⟩, .slice (some ⟨w.heap.size, 0, none⟩) 1 1] 57)) (some ⟨w.heap.size + 1, 0, none⟩) [((⟨#[115]⟩ : ByteArray), [zN 3])] := by
  have hr : RB ((w.alloc (ndO (zN 3))).alloc (.cells #[.string ⟨#[115]⟩, .slice (some ⟨w.heap.size, 0, none⟩) 1 1] 57)) (w.heap.size + 1) ⟨#[115]⟩ (.slice (some ⟨w.heap.size, 0, none⟩) 1 1) := ⟨by
    have h := heap_alloc_new (w.alloc (ndO (zN 3))) (.cells #[.string ⟨#[115]⟩, .slice (some ⟨w.heap.size, 0, none⟩) 1 1] 57)
    rw [World.size_alloc] at h
    exact h⟩
  refine ⟨fun k g hg => ?_, by show 1 ≤ _; omega, fun g hg => ?_⟩
  · cases k with
    | succ k => simp at hg
    | zero =>
      cases hg
      exact ⟨w.heap.size + 1, 0, some ⟨w.heap.size, 0, none⟩, 1, rfl, hr.lt, hr.c0, hr.c1, (rd_one w (zN 3)).below (below_box _ _) (Nat.le_refl _)⟩
  · rw [List.mem_singleton] at hg
    subst hg
    exact ⟨by show 1 ≤ _; omega, one_len _, one_tx 3⟩
theorem gi_nil (w : World) : GI w none [] := ⟨fun k g hg => by simp at hg, by show 0 ≤ _; omega, fun g hg => by cases hg⟩
set_option maxRecDepth 100000 in
set_option maxHeartbeats 4000000 in
theorem lives_any (w : World) : Calls Try.prog 12 #[] w fun e w' => e = .returned (.bool true) ∧ Below w.heap.size w w' := by
  obtain ⟨w2, hw2⟩ : ∃ w2, w2 = (w.alloc (ndO (zN 3))).alloc (.cells #[.string ⟨#[115]⟩, .slice (some ⟨w.heap.size, 0, none⟩) 1 1] 57) := ⟨_, rfl⟩
  have HB2 : Hid (Below w.heap.size w w2) := by show Below _ _ _; rw [hw2]; exact (below_box w _).alloc (below_box w _).size _
  have H1 : Hid (∀ _ : Unit, Calls Try.prog 10 #[.agg #[.slice (some ⟨w.heap.size + 1, 0, none⟩) 1 1]] w2 fun e w' => e = .returned (.tuple #[.agg #[.int .i64 0, .int .i64 0], .int .i64 0]) ∧ Below w2.heap.size w2 w') := fun _ => by
    have h := checkP_any [((⟨#[115]⟩ : ByteArray), [zN 3])] (some ⟨w.heap.size + 1, 0, none⟩) 1 w2 (by rw [hw2]; exact gi_one w)
    rw [ckG_one] at h
    exact h
  have H2 : Hid (∀ W : World, Calls Try.prog 10 #[.agg #[.slice none 0 0]] W fun e w' => e = .returned (.tuple #[.agg #[.int .i64 0, .int .i64 0], .int .i64 3]) ∧ Below W.heap.size W w') := fun W => by
    have h := checkP_any [] none 0 W (gi_nil W)
    rw [ckG_nil] at h
    exact h
  have H3 : Hid (∀ W : World, Calls Try.prog 13 #[.string ⟨#[115]⟩] W fun e w' => e = .returned (.bool true) ∧ Below W.heap.size W w') := fun W => by
    have h := nameP_any ⟨#[115]⟩ (by show 1 ≤ _; omega) W
    rw [nmB_s] at h
    exact h
  go_enter Try.func12, Try.ntmps12
  go_wp2_with fail
  have e2 : (w.alloc (ndO (zN 3))).alloc (.cells #[.string ⟨#[115]⟩, .slice (some ⟨w.heap.size, 0, none⟩) 1 1] 57) = w2 := hw2.symm
  unfold zN ndO at e2
  rw [e2]
  clear e2 hw2
  refine (H1.out ()).mono ?_
  rintro e w3 ⟨rfl, b3⟩
  have HB3 := (show Hid (Below w.heap.size w w3) from HB2.out.trans (b3.mono HB2.out.size))
  clear b3 HB2 H1
  have HB4 := (show Hid (Below w.heap.size w (w3.alloc (.cells #[.int .i64 0, .int .i64 0] 27))) from HB3.out.alloc HB3.out.size _)
  clear HB3
  go_wp2_with fail
  refine (H2.out _).mono ?_
  rintro e w5 ⟨rfl, b5⟩
  have HB5 := (show Hid (Below w.heap.size w w5) from HB4.out.trans (b5.mono HB4.out.size))
  clear b5 HB4 H2
  have HB6 := (show Hid (Below w.heap.size w (w5.alloc (.cells #[.int .i64 0, .int .i64 0] 27))) from HB5.out.alloc HB5.out.size _)
  clear HB5
  go_wp2_with fail
  refine (H3.out _).mono ?_
  rintro e w7 ⟨rfl, b7⟩
  have HB7 := (show Hid (Below w.heap.size w w7) from HB6.out.trans (b7.mono HB6.out.size))
  clear b7 HB6 H3
  go_wp2_with fail
  go_ret
  exact ⟨rfl, HB7.out⟩
end Go.Proofs.Ytppggnmlbcdegaa.N

namespace Go.Proofs.Ytppggnmlbcdegaa.N
open Go.RowKit Go.Maps
open Go.Proofs.Ytppggnmlbcdegaa.T
/-- While a grammar is lent: its box, the lent one's, and what was lent. -/
structure LyS (w0 wr : World) (wb k : Nat) (u1 u2 : Value) (g cap : Nat) (ov : List Le) : Prop where
  l : LgB w0 wr g cap ov
  x1 : GX wr wb u1
  x2 : GX wr k u2
theorem LyS.later {w0 wr W' : World} {wb k : Nat} {u1 u2 : Value} {g cap : Nat} {ov : List Le} (h : LyS w0 wr wb k u1 u2 g cap ov) (hb : Below wr.heap.size wr W') : LyS w0 W' wb k u1 u2 g cap ov := ⟨h.l.later hb, h.x1.below hb, h.x2.below hb⟩
end Go.Proofs.Ytppggnmlbcdegaa.N
