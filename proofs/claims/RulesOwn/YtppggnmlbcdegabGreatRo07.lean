/- DERIVED. Plain mathematics and walks, laid together (7). -/
import Derived.Shelf.Strconv.Clone
import Derived.Test.YtppggnmlbcdegabGreatProg
import Derived.Lib.ConvBytes
import Derived.Lib.AtoiErrMem
import Derived.Lib.UnsafeStr
import Derived.Lib.AppendStr
import Derived.Deep.RegionLaw
import Derived.Test.YtppggnmlbcdegabGreatRo06
namespace Go.Proofs.YtppggnmlbcdegabGreat.N
open Go.RowKit Go.Maps
open Go.Proofs.YtppggnmlbcdegabGreat.T
theorem tw_fd {gs : GL} {k : Nat} {g : ByteArray × List Nd} (hg : gs[k]? = some g) : tw gs g.1 k = true ↔ fdN gs g.1 < (k : Int) := by
  unfold tw fdN
  cases h : fdG gs g.1 with
  | some i => simp
  | none => exact absurd rfl (fdG_none.1 h g (List.mem_of_getElem? hg))
/-- The boxes of a grammar and of a spot. -/
structure DcS (w wr : World) (u : Value) : Prop where
  b : Below w.heap.size w wr
  x : GX wr w.heap.size u
  s : SX wr (w.heap.size + 1) 0 0
theorem DcS.later {w wr W' : World} {u : Value} (h : DcS w wr u) (hb : Below wr.heap.size wr W') : DcS w W' u := ⟨h.b.trans (hb.mono h.b.size), h.x.below hb, h.s.below hb⟩
set_option maxRecDepth 100000 in
set_option maxHeartbeats 32000000 in
theorem checkD_any (gs : GL) (A : Option Addr) (c : Nat) (w : World) (hp : GI w A gs) :
    Calls Tryz.prog 44 #[.agg #[.slice A gs.length c]] w fun e w' => e = .returned (.tuple #[.agg #[.int .i64 (ckG gs).1.1, .int .i64 (ckG gs).1.2], .int .i64 (ckG gs).2]) ∧ Below w.heap.size w w' := by
  obtain ⟨w1, hw1⟩ : ∃ w1, w1 = (w.alloc (.cells #[.slice A gs.length c] 24)).alloc (.cells #[.int .i64 0, .int .i64 0] 61) := ⟨_, rfl⟩
  have HS : Hid (DcS w w1 (.slice A gs.length c)) := by
    show DcS _ _ _
    rw [hw1]
    exact ⟨((Below.refl _ _).alloc (Nat.le_refl _) _).alloc (by rw [World.size_alloc]; omega) _, (GX.mk (heap_alloc_new w _)).below (below_box _ _), ⟨by have h := heap_alloc_new (w.alloc (.cells #[.slice A gs.length c] 24)) (.cells #[.int .i64 0, .int .i64 0] 61); rw [World.size_alloc] at h; exact h⟩⟩
  have q1 := HS.out.x.cl
  have hl := hp.l
  by_cases h0 : gs.length = 0
  · have HF := (show Hid (ckG gs = ((0, 0), 3)) from by show ckG gs = _; unfold ckG; rw [if_pos h0])
    have t0 : ((gs.length : Int) == 0) = true := beq_iff_eq.2 (by omega)
    have HBz := (show Hid (Below w.heap.size w w1) from HS.out.b)
    have c0 := HS.out.s.c0
    have c1 := HS.out.s.c1
    have f0 := HS.out.s.fz 0
    have f1 := HS.out.s.fz 1
    clear h0 hp HS
    go_enter Tryz.func44, Tryz.ntmps44
    go_wp2_with fail
    rw [← hw1]
    go_wp2_with fail
    refine bodyPost_ret (v := .tuple #[.agg #[.int .i64 0, .int .i64 0], .int .i64 3]) (by simp [results, Tryz.results44, go_sem, c0, c1]) rfl ⟨by rw [HF.out]; try rfl, HBz.out⟩
  have t0 : ((gs.length : Int) == 0) = false := beq_eq_false_iff_ne.2 (by omega)
  by_cases h2 : 200 < gs.length
  · have HF := (show Hid (ckG gs = ((0, 0), 2)) from by show ckG gs = _; unfold ckG; rw [if_neg h0, if_pos h2])
    have t2 : (200 : Int) < (gs.length : Int) := by omega
    have HBz := (show Hid (Below w.heap.size w w1) from HS.out.b)
    have c0 := HS.out.s.c0
    have c1 := HS.out.s.c1
    have f0 := HS.out.s.fz 0
    have f1 := HS.out.s.fz 1
    clear h0 hp h2 HS
    go_enter Tryz.func44, Tryz.ntmps44
    go_wp2_with fail
    rw [← hw1]
    go_wp2_with fail
    refine bodyPost_ret (v := .tuple #[.agg #[.int .i64 0, .int .i64 0], .int .i64 2]) (by simp [results, Tryz.results44, go_sem, c0, c1]) rfl ⟨by rw [HF.out]; try rfl, HBz.out⟩
  have t2 : ¬ (200 : Int) < (gs.length : Int) := by omega
  have hl200 : gs.length ≤ 200 := by omega
  have HE := (show Hid (∀ r, c1G gs 0 0 gs = r → r.2 ≠ 0 → ckG gs = r) from ckG_err h0 h2)
  have HEu := (show Hid (c1G gs 0 0 gs = ((0, 0), 0) → ckG gs = unG gs 0 gs) from ckG_un h0 h2)
  have HP := (show Hid (GI w A gs) from hp)
  have HG := (show Hid (∀ k, k < gs.length → ∃ g, gs[k]? = some g ∧ g.1.size ≤ 140737488355328 ∧ g.2.length ≤ 140737488355328 ∧ (∀ n ∈ g.2, n.tx.size ≤ 140737488355328) ∧ gs.drop k = g :: gs.drop (k + 1)) from fun k hk => ⟨_, List.getElem?_eq_getElem hk, (hp.t _ (List.getElem_mem hk)).1, (hp.t _ (List.getElem_mem hk)).2.1, (hp.t _ (List.getElem_mem hk)).2.2, List.drop_eq_getElem_cons hk⟩)
  clear h0 hp h2
  go_enter Tryz.func44, Tryz.ntmps44
  go_wp2_with fail
  rw [← hw1]
  clear hw1
  go_wp2_with fail
  clear q1
  go_loopw [4, 5] (fun v t wr => ∃ k m : Nat, k ≤ gs.length ∧ t = .int .i64 k ∧ v = .int .i64 m ∧ m ≤ 2048 ∧ Hid (c1G gs 0 0 gs = c1G gs k m (gs.drop k)) ∧ Hid (DcS w wr (.slice A gs.length c))) (fun _ t _ => gs.length - (intOf t).toNat)
  case atStart => exact ⟨0, 0, by omega, by go_num, by go_num, by omega, rfl, HS⟩
  case round =>
    obtain ⟨k, m, hk, rfl, rfl, hm, HX0, HW⟩ := hrel
    clear HS
    have q1 := HW.out.x.cl
    by_cases hlt : k < gs.length
    · obtain ⟨g, hg, s1, s2, s3, hd⟩ := HG.out k hlt
      obtain ⟨b, o, A2, c2, rfl, lb, x0, x1, r2⟩ := HP.out.d k g hg
      have x0' := (HW.out.b.cell (p := ⟨b, o + k * 2, none⟩) lb).trans x0
      have x1' := (HW.out.b.cell (p := ⟨b, o + k * 2 + 1, none⟩) lb).trans x1
      clear x0 x1
      have z0 : (0 : Int) ≤ (k : Int) := by omega
      have z1 : (k : Int) < (gs.length : Int) := by omega
      have HR0 := (show Hid (RB (wr.alloc (.cells #[.string g.1, .slice A2 g.2.length c2] 44)) wr.heap.size g.1 (.slice A2 g.2.length c2)) from ⟨heap_alloc_new wr _⟩)
      have HS0 := (show Hid (DcS w (wr.alloc (.cells #[.string g.1, .slice A2 g.2.length c2] 44)) (.slice (some ⟨b, o, none⟩) gs.length c)) from HW.out.later (below_box _ _))
      have HNm : Hid (∀ W, Calls Tryz.prog 18 #[.string g.1] W fun e W' => e = .returned (.bool (nmB g.1)) ∧ W' = W) := fun W => nameR_any g.1 s1 W
      have HFi : Hid (∀ W, Below w.heap.size w W → Calls Tryz.prog 19 #[.agg #[.slice (some ⟨b, o, none⟩) gs.length c], .string g.1] W fun e w' => e = .returned (.int .i64 (fdN gs g.1)) ∧ Below W.heap.size W w') := fun W hW => find_any gs (some ⟨b, o, none⟩) c g.1 W (HP.out.later hW)
      have HCk : Hid (∀ W, Below w.heap.size w W → Calls Tryz.prog 58 #[.slice A2 g.2.length c2] W fun e w' => e = .returned (.tuple #[.int .i64 (ck g.2).1, .int .i64 (ck g.2).2]) ∧ Below W.heap.size W w') := fun W hW => checkR_any g.2 A2 c2 s2 s3 W (r2.below hW (Nat.le_refl _))
      have hgk := hg
      have HX1 := (show Hid (c1G gs 0 0 gs = if ¬ (nmB g.1 = true ∨ (g.1.size = 0 ∧ gs.length = 1)) then ((k, 0), 6) else if tw gs g.1 k = true then ((k, 0), 80) else if (ck g.2).2 ≠ 0 then ((k, (ck g.2).1), (ck g.2).2) else if 2048 < m + g.2.length then ((k, 0), 2) else c1G gs (k + 1) (m + g.2.length) (gs.drop (k + 1))) from by show c1G gs 0 0 gs = _; rw [HX0.out, hd, c1G])
      clear hg r2 s2 s3 HW HX0 hd s1
      have q3 := HS0.out.x.cl
      have q4 := HR0.out.c0
      cases hnb : nmB g.1
      · rw [hnb] at HNm
        by_cases hs0 : g.1.size = 0
        · have te : (g.1.toList == []) = true := by
            have e := emp_t hs0
            rw [List.isEmpty_iff] at e
            rw [e]; rfl
          have te2 := emp_t hs0
          by_cases hl1 : gs.length = 1
          · have tl : ((gs.length : Int) == 1) = true := beq_iff_eq.2 (by omega)
            have HX := (show Hid (c1G gs 0 0 gs = if tw gs g.1 k = true then ((k, 0), 80) else if (ck g.2).2 ≠ 0 then ((k, (ck g.2).1), (ck g.2).2) else if 2048 < m + g.2.length then ((k, 0), 2) else c1G gs (k + 1) (m + g.2.length) (gs.drop (k + 1))) from by show c1G gs 0 0 gs = _; rw [HX1.out, if_neg (fun q => q (.inr ⟨hs0, hl1⟩))])
            clear HX1 hl1 hs0 hnb HEu
            go_wp2_with fail
            refine (HNm.out _).mono ?_
            rintro e wX ⟨rfl, rfl⟩
            have HS := HS0
            have HR := HR0
            clear HNm HR0 HS0
            go_wp2_with fail
            refine (HFi.out _ HS.out.b).mono ?_
            rintro e w4 ⟨rfl, b4⟩
            have HS4 := (show Hid (DcS w w4 (.slice (some ⟨b, o, none⟩) gs.length c)) from HS.out.later b4)
            have HR4 := (show Hid (RB w4 wr.heap.size g.1 (.slice A2 g.2.length c2)) from HR.out.later b4)
            have y1 := HR4.out.c1
            clear HFi b4 HS HR
            have HS := HS4
            clear HS4
            by_cases htw : tw gs g.1 k = true
            · have HF := (show Hid (ckG gs = ((k, 0), 80)) from HE.out _ (by rw [HX.out, if_pos htw]) (by show (80 : Int) ≠ 0; decide))
              have tt : fdN gs g.1 < (k : Int) := (tw_fd hgk).1 htw
              clear HX HE HCk HR4 HG HP htw hgk y1
              have HZ := (show Hid (SX ((w4.setCell ⟨w.heap.size + 1, 0, none⟩ (.int .i64 (k : Int))).setCell ⟨w.heap.size + 1, 1, none⟩ (.int .i64 0)) (w.heap.size + 1) (k : Int) 0) from HS.out.s.set _ _)
              have HBz := (show Hid (Below w.heap.size w ((w4.setCell ⟨w.heap.size + 1, 0, none⟩ (.int .i64 (k : Int))).setCell ⟨w.heap.size + 1, 1, none⟩ (.int .i64 0))) from set_below (set_below HS.out.b (Nat.le_succ _)) (Nat.le_succ _))
              have c0 := HS.out.s.c0
              have c1 := HS.out.s.c1
              have f0 := HS.out.s.fz 0
              have f1 := HS.out.s.fz 1
              clear HS
              go_wp2_with fail
              have d0 := HZ.out.c0
              have d1 := HZ.out.c1
              clear c0 c1 f0 f1
              generalize (w4.setCell ⟨w.heap.size + 1, 0, none⟩ (.int .i64 (k : Int))).setCell ⟨w.heap.size + 1, 1, none⟩ (.int .i64 0) = wZ at *
              refine bodyPost_ret (v := .tuple #[.agg #[.int .i64 (k : Int), .int .i64 0], .int .i64 80]) (by simp [results, Tryz.results44, go_sem, d0, d1]) rfl ⟨by rw [HF.out]; try rfl, HBz.out⟩
            · have tt : ¬ fdN gs g.1 < (k : Int) := fun q => htw ((tw_fd hgk).2 q)
              have HX2 := (show Hid (c1G gs 0 0 gs = if (ck g.2).2 ≠ 0 then ((k, (ck g.2).1), (ck g.2).2) else if 2048 < m + g.2.length then ((k, 0), 2) else c1G gs (k + 1) (m + g.2.length) (gs.drop (k + 1))) from by show c1G gs 0 0 gs = _; rw [HX.out, if_neg htw])
              clear HX htw hgk
              go_wp2_with fail
              refine (HCk.out _ HS.out.b).mono ?_
              rintro e w5 ⟨rfl, b5⟩
              have HS5 := (show Hid (DcS w w5 (.slice (some ⟨b, o, none⟩) gs.length c)) from HS.out.later b5)
              have y1' := (HR4.out.later b5).c1
              clear HCk b5 HS HR4 y1 tt
              have HS := HS5
              clear HS5
              by_cases hc : (ck g.2).2 = 0
              · have tc : ((ck g.2).2 != 0) = false := by rw [hc]; rfl
                have hg3 : g.2.length ≤ 2048 := by
                  by_cases q : g.2.length ≤ 2048
                  · exact q
                  · have := ck_long (L := g.2) (by omega)
                    rw [this] at hc
                    exact absurd hc (by decide)
                have HV := (show Hid (c1G gs 0 0 gs = if 2048 < m + g.2.length then ((k, 0), 2) else c1G gs (k + 1) (m + g.2.length) (gs.drop (k + 1))) from by show c1G gs 0 0 gs = _; rw [HX2.out, if_neg (by rw [hc]; simp)])
                generalize hcc : (ck g.2).2 = cc2 at *
                clear hcc HX2
                by_cases hn : 2048 < m + g.2.length
                · have HF := (show Hid (ckG gs = ((k, 0), 2)) from HE.out _ (by rw [HV.out, if_pos hn]) (by show (2 : Int) ≠ 0; decide))
                  have tn : (2048 : Int) < (m : Int) + (g.2.length : Int) := by omega
                  clear HV HE HG HP hn
                  have HZ := (show Hid (SX ((w5.setCell ⟨w.heap.size + 1, 0, none⟩ (.int .i64 (k : Int))).setCell ⟨w.heap.size + 1, 1, none⟩ (.int .i64 0)) (w.heap.size + 1) (k : Int) 0) from HS.out.s.set _ _)
                  have HBz := (show Hid (Below w.heap.size w ((w5.setCell ⟨w.heap.size + 1, 0, none⟩ (.int .i64 (k : Int))).setCell ⟨w.heap.size + 1, 1, none⟩ (.int .i64 0))) from set_below (set_below HS.out.b (Nat.le_succ _)) (Nat.le_succ _))
                  have c0 := HS.out.s.c0
                  have c1 := HS.out.s.c1
                  have f0 := HS.out.s.fz 0
                  have f1 := HS.out.s.fz 1
                  clear HS
                  go_wp2_with fail
                  have d0 := HZ.out.c0
                  have d1 := HZ.out.c1
                  clear c0 c1 f0 f1
                  generalize (w5.setCell ⟨w.heap.size + 1, 0, none⟩ (.int .i64 (k : Int))).setCell ⟨w.heap.size + 1, 1, none⟩ (.int .i64 0) = wZ at *
                  refine bodyPost_ret (v := .tuple #[.agg #[.int .i64 (k : Int), .int .i64 0], .int .i64 2]) (by simp [results, Tryz.results44, go_sem, d0, d1]) rfl ⟨by rw [HF.out]; try rfl, HBz.out⟩
                · have HX3 := (show Hid (c1G gs 0 0 gs = c1G gs (k + 1) (m + g.2.length) (gs.drop (k + 1))) from by show c1G gs 0 0 gs = _; rw [HV.out, if_neg hn])
                  have tn : ¬ (2048 : Int) < (m : Int) + (g.2.length : Int) := by omega
                  clear HV
                  go_wp2_with fail
                  go_roundw
                  case rel => exact ⟨k + 1, m + g.2.length, by omega, by go_num, by go_num, by omega, HX3, HS⟩
                  case measure => simp [intOf]; omega
              · have tc : ((ck g.2).2 != 0) = true := by rw [bne, beq_eq_false_iff_ne.2 hc]; rfl
                have HF := (show Hid (ckG gs = ((k, (ck g.2).1), (ck g.2).2)) from HE.out _ (by rw [HX2.out, if_pos hc]) hc)
                clear HX2 HE HG HP hc
                generalize hcc : (ck g.2).2 = cc2 at *
                generalize hcd : (ck g.2).1 = cc1 at *
                clear hcc hcd
                have HZ := (show Hid (SX ((w5.setCell ⟨w.heap.size + 1, 0, none⟩ (.int .i64 (k : Int))).setCell ⟨w.heap.size + 1, 1, none⟩ (.int .i64 (cc1 : Int))) (w.heap.size + 1) (k : Int) (cc1 : Int)) from HS.out.s.set _ _)
                have HBz := (show Hid (Below w.heap.size w ((w5.setCell ⟨w.heap.size + 1, 0, none⟩ (.int .i64 (k : Int))).setCell ⟨w.heap.size + 1, 1, none⟩ (.int .i64 (cc1 : Int)))) from set_below (set_below HS.out.b (Nat.le_succ _)) (Nat.le_succ _))
                have c0 := HS.out.s.c0
                have c1 := HS.out.s.c1
                have f0 := HS.out.s.fz 0
                have f1 := HS.out.s.fz 1
                clear HS
                go_wp2_with fail
                have d0 := HZ.out.c0
                have d1 := HZ.out.c1
                clear c0 c1 f0 f1
                generalize (w5.setCell ⟨w.heap.size + 1, 0, none⟩ (.int .i64 (k : Int))).setCell ⟨w.heap.size + 1, 1, none⟩ (.int .i64 (cc1 : Int)) = wZ at *
                refine bodyPost_ret (v := .tuple #[.agg #[.int .i64 (k : Int), .int .i64 (cc1 : Int)], .int .i64 cc2]) (by simp [results, Tryz.results44, go_sem, d0, d1]) rfl ⟨by rw [HF.out]; try rfl, HBz.out⟩
          · have tl : ((gs.length : Int) == 1) = false := beq_eq_false_iff_ne.2 (by omega)
            have HF := (show Hid (ckG gs = ((k, 0), 6)) from HE.out _ (by rw [HX1.out, if_pos (by rintro (q | q); rw [hnb] at q; cases q; exact hl1 q.2)]) (by show (6 : Int) ≠ 0; decide))
            clear HX1 HE HG HP hl1 hs0 hgk HCk HEu HFi hnb
            go_wp2_with fail
            refine (HNm.out _).mono ?_
            rintro e wX ⟨rfl, rfl⟩
            have HS := HS0
            clear HNm HR0 HS0
            have HZ := (show Hid (SX (((wr.alloc (.cells #[.string g.1, .slice A2 g.2.length c2] 44)).setCell ⟨w.heap.size + 1, 0, none⟩ (.int .i64 (k : Int))).setCell ⟨w.heap.size + 1, 1, none⟩ (.int .i64 0)) (w.heap.size + 1) (k : Int) 0) from HS.out.s.set _ _)
            have HBz := (show Hid (Below w.heap.size w (((wr.alloc (.cells #[.string g.1, .slice A2 g.2.length c2] 44)).setCell ⟨w.heap.size + 1, 0, none⟩ (.int .i64 (k : Int))).setCell ⟨w.heap.size + 1, 1, none⟩ (.int .i64 0))) from set_below (set_below HS.out.b (Nat.le_succ _)) (Nat.le_succ _))
            have c0 := HS.out.s.c0
            have c1 := HS.out.s.c1
            have f0 := HS.out.s.fz 0
            have f1 := HS.out.s.fz 1
            clear HS
            go_wp2_with fail
            have d0 := HZ.out.c0
            have d1 := HZ.out.c1
            clear c0 c1 f0 f1
            generalize ((wr.alloc (.cells #[.string g.1, .slice A2 g.2.length c2] 44)).setCell ⟨w.heap.size + 1, 0, none⟩ (.int .i64 (k : Int))).setCell ⟨w.heap.size + 1, 1, none⟩ (.int .i64 0) = wZ at *
            refine bodyPost_ret (v := .tuple #[.agg #[.int .i64 (k : Int), .int .i64 0], .int .i64 6]) (by simp [results, Tryz.results44, go_sem, d0, d1]) rfl ⟨by rw [HF.out]; try rfl, HBz.out⟩
        · have te : (g.1.toList == []) = false := by
            have e := emp_f hs0
            cases hl : g.1.toList with
            | nil => rw [hl] at e; cases e
            | cons x r => rfl
          have te2 := emp_f hs0
          have HF := (show Hid (ckG gs = ((k, 0), 6)) from HE.out _ (by rw [HX1.out, if_pos (by rintro (q | q); rw [hnb] at q; cases q; exact hs0 q.1)]) (by show (6 : Int) ≠ 0; decide))
          clear HX1 HE HG HP hs0 hgk HCk HEu HFi hnb
          go_wp2_with fail
          refine (HNm.out _).mono ?_
          rintro e wX ⟨rfl, rfl⟩
          have HS := HS0
          clear HNm HR0 HS0
          have HZ := (show Hid (SX (((wr.alloc (.cells #[.string g.1, .slice A2 g.2.length c2] 44)).setCell ⟨w.heap.size + 1, 0, none⟩ (.int .i64 (k : Int))).setCell ⟨w.heap.size + 1, 1, none⟩ (.int .i64 0)) (w.heap.size + 1) (k : Int) 0) from HS.out.s.set _ _)
          have HBz := (show Hid (Below w.heap.size w (((wr.alloc (.cells #[.string g.1, .slice A2 g.2.length c2] 44)).setCell ⟨w.heap.size + 1, 0, none⟩ (.int .i64 (k : Int))).setCell ⟨w.heap.size + 1, 1, none⟩ (.int .i64 0))) from set_below (set_below HS.out.b (Nat.le_succ _)) (Nat.le_succ _))
          have c0 := HS.out.s.c0
          have c1 := HS.out.s.c1
          have f0 := HS.out.s.fz 0
          have f1 := HS.out.s.fz 1
          clear HS
          go_wp2_with fail
          have d0 := HZ.out.c0
          have d1 := HZ.out.c1
          clear c0 c1 f0 f1
          generalize ((wr.alloc (.cells #[.string g.1, .slice A2 g.2.length c2] 44)).setCell ⟨w.heap.size + 1, 0, none⟩ (.int .i64 (k : Int))).setCell ⟨w.heap.size + 1, 1, none⟩ (.int .i64 0) = wZ at *
          refine bodyPost_ret (v := .tuple #[.agg #[.int .i64 (k : Int), .int .i64 0], .int .i64 6]) (by simp [results, Tryz.results44, go_sem, d0, d1]) rfl ⟨by rw [HF.out]; try rfl, HBz.out⟩
      · rw [hnb] at HNm
        have HX := (show Hid (c1G gs 0 0 gs = if tw gs g.1 k = true then ((k, 0), 80) else if (ck g.2).2 ≠ 0 then ((k, (ck g.2).1), (ck g.2).2) else if 2048 < m + g.2.length then ((k, 0), 2) else c1G gs (k + 1) (m + g.2.length) (gs.drop (k + 1))) from by show c1G gs 0 0 gs = _; rw [HX1.out, if_neg (fun q => q (.inl hnb))])
        clear HX1 hnb HEu
        go_wp2_with fail
        refine (HNm.out _).mono ?_
        rintro e wX ⟨rfl, rfl⟩
        have HS := HS0
        have HR := HR0
        clear HNm HR0 HS0
        go_wp2_with fail
        refine (HFi.out _ HS.out.b).mono ?_
        rintro e w4 ⟨rfl, b4⟩
        have HS4 := (show Hid (DcS w w4 (.slice (some ⟨b, o, none⟩) gs.length c)) from HS.out.later b4)
        have HR4 := (show Hid (RB w4 wr.heap.size g.1 (.slice A2 g.2.length c2)) from HR.out.later b4)
        have y1 := HR4.out.c1
        clear HFi b4 HS HR
        have HS := HS4
        clear HS4
        by_cases htw : tw gs g.1 k = true
        · have HF := (show Hid (ckG gs = ((k, 0), 80)) from HE.out _ (by rw [HX.out, if_pos htw]) (by show (80 : Int) ≠ 0; decide))
          have tt : fdN gs g.1 < (k : Int) := (tw_fd hgk).1 htw
          clear HX HE HCk HR4 HG HP htw hgk y1
          have HZ := (show Hid (SX ((w4.setCell ⟨w.heap.size + 1, 0, none⟩ (.int .i64 (k : Int))).setCell ⟨w.heap.size + 1, 1, none⟩ (.int .i64 0)) (w.heap.size + 1) (k : Int) 0) from HS.out.s.set _ _)
          have HBz := (show Hid (Below w.heap.size w ((w4.setCell ⟨w.heap.size + 1, 0, none⟩ (.int .i64 (k : Int))).setCell ⟨w.heap.size + 1, 1, none⟩ (.int .i64 0))) from set_below (set_below HS.out.b (Nat.le_succ _)) (Nat.le_succ _))
          have c0 := HS.out.s.c0
          have c1 := HS.out.s.c1
          have f0 := HS.out.s.fz 0
          have f1 := HS.out.s.fz 1
          clear HS
          go_wp2_with fail
          have d0 := HZ.out.c0
          have d1 := HZ.out.c1
          clear c0 c1 f0 f1
          generalize (w4.setCell ⟨w.heap.size + 1, 0, none⟩ (.int .i64 (k : Int))).setCell ⟨w.heap.size + 1, 1, none⟩ (.int .i64 0) = wZ at *
          refine bodyPost_ret (v := .tuple #[.agg #[.int .i64 (k : Int), .int .i64 0], .int .i64 80]) (by simp [results, Tryz.results44, go_sem, d0, d1]) rfl ⟨by rw [HF.out]; try rfl, HBz.out⟩
        · have tt : ¬ fdN gs g.1 < (k : Int) := fun q => htw ((tw_fd hgk).2 q)
          have HX2 := (show Hid (c1G gs 0 0 gs = if (ck g.2).2 ≠ 0 then ((k, (ck g.2).1), (ck g.2).2) else if 2048 < m + g.2.length then ((k, 0), 2) else c1G gs (k + 1) (m + g.2.length) (gs.drop (k + 1))) from by show c1G gs 0 0 gs = _; rw [HX.out, if_neg htw])
          clear HX htw hgk
          go_wp2_with fail
          refine (HCk.out _ HS.out.b).mono ?_
          rintro e w5 ⟨rfl, b5⟩
          have HS5 := (show Hid (DcS w w5 (.slice (some ⟨b, o, none⟩) gs.length c)) from HS.out.later b5)
          have y1' := (HR4.out.later b5).c1
          clear HCk b5 HS HR4 y1 tt
          have HS := HS5
          clear HS5
          by_cases hc : (ck g.2).2 = 0
          · have tc : ((ck g.2).2 != 0) = false := by rw [hc]; rfl
            have hg3 : g.2.length ≤ 2048 := by
              by_cases q : g.2.length ≤ 2048
              · exact q
              · have := ck_long (L := g.2) (by omega)
                rw [this] at hc
                exact absurd hc (by decide)
            have HV := (show Hid (c1G gs 0 0 gs = if 2048 < m + g.2.length then ((k, 0), 2) else c1G gs (k + 1) (m + g.2.length) (gs.drop (k + 1))) from by show c1G gs 0 0 gs = _; rw [HX2.out, if_neg (by rw [hc]; simp)])
            generalize hcc : (ck g.2).2 = cc2 at *
            clear hcc HX2
            by_cases hn : 2048 < m + g.2.length
            · have HF := (show Hid (ckG gs = ((k, 0), 2)) from HE.out _ (by rw [HV.out, if_pos hn]) (by show (2 : Int) ≠ 0; decide))
              have tn : (2048 : Int) < (m : Int) + (g.2.length : Int) := by omega
              clear HV HE HG HP hn
              have HZ := (show Hid (SX ((w5.setCell ⟨w.heap.size + 1, 0, none⟩ (.int .i64 (k : Int))).setCell ⟨w.heap.size + 1, 1, none⟩ (.int .i64 0)) (w.heap.size + 1) (k : Int) 0) from HS.out.s.set _ _)
              have HBz := (show Hid (Below w.heap.size w ((w5.setCell ⟨w.heap.size + 1, 0, none⟩ (.int .i64 (k : Int))).setCell ⟨w.heap.size + 1, 1, none⟩ (.int .i64 0))) from set_below (set_below HS.out.b (Nat.le_succ _)) (Nat.le_succ _))
              have c0 := HS.out.s.c0
              have c1 := HS.out.s.c1
              have f0 := HS.out.s.fz 0
              have f1 := HS.out.s.fz 1
              clear HS
              go_wp2_with fail
              have d0 := HZ.out.c0
              have d1 := HZ.out.c1
              clear c0 c1 f0 f1
              generalize (w5.setCell ⟨w.heap.size + 1, 0, none⟩ (.int .i64 (k : Int))).setCell ⟨w.heap.size + 1, 1, none⟩ (.int .i64 0) = wZ at *
              refine bodyPost_ret (v := .tuple #[.agg #[.int .i64 (k : Int), .int .i64 0], .int .i64 2]) (by simp [results, Tryz.results44, go_sem, d0, d1]) rfl ⟨by rw [HF.out]; try rfl, HBz.out⟩
            · have HX3 := (show Hid (c1G gs 0 0 gs = c1G gs (k + 1) (m + g.2.length) (gs.drop (k + 1))) from by show c1G gs 0 0 gs = _; rw [HV.out, if_neg hn])
              have tn : ¬ (2048 : Int) < (m : Int) + (g.2.length : Int) := by omega
              clear HV
              go_wp2_with fail
              go_roundw
              case rel => exact ⟨k + 1, m + g.2.length, by omega, by go_num, by go_num, by omega, HX3, HS⟩
              case measure => simp [intOf]; omega
          · have tc : ((ck g.2).2 != 0) = true := by rw [bne, beq_eq_false_iff_ne.2 hc]; rfl
            have HF := (show Hid (ckG gs = ((k, (ck g.2).1), (ck g.2).2)) from HE.out _ (by rw [HX2.out, if_pos hc]) hc)
            clear HX2 HE HG HP hc
            generalize hcc : (ck g.2).2 = cc2 at *
            generalize hcd : (ck g.2).1 = cc1 at *
            clear hcc hcd
            have HZ := (show Hid (SX ((w5.setCell ⟨w.heap.size + 1, 0, none⟩ (.int .i64 (k : Int))).setCell ⟨w.heap.size + 1, 1, none⟩ (.int .i64 (cc1 : Int))) (w.heap.size + 1) (k : Int) (cc1 : Int)) from HS.out.s.set _ _)
            have HBz := (show Hid (Below w.heap.size w ((w5.setCell ⟨w.heap.size + 1, 0, none⟩ (.int .i64 (k : Int))).setCell ⟨w.heap.size + 1, 1, none⟩ (.int .i64 (cc1 : Int)))) from set_below (set_below HS.out.b (Nat.le_succ _)) (Nat.le_succ _))
            have c0 := HS.out.s.c0
            have c1 := HS.out.s.c1
            have f0 := HS.out.s.fz 0
            have f1 := HS.out.s.fz 1
            clear HS
            go_wp2_with fail
            have d0 := HZ.out.c0
            have d1 := HZ.out.c1
            clear c0 c1 f0 f1
            generalize (w5.setCell ⟨w.heap.size + 1, 0, none⟩ (.int .i64 (k : Int))).setCell ⟨w.heap.size + 1, 1, none⟩ (.int .i64 (cc1 : Int)) = wZ at *
            refine bodyPost_ret (v := .tuple #[.agg #[.int .i64 (k : Int), .int .i64 (cc1 : Int)], .int .i64 cc2]) (by simp [results, Tryz.results44, go_sem, d0, d1]) rfl ⟨by rw [HF.out]; try rfl, HBz.out⟩
    · obtain rfl : k = gs.length := by omega
      have HE2 := (show Hid (ckG gs = unG gs 0 gs) from HEu.out (by rw [HX0.out, List.drop_length]; rfl))
      clear HX0 HE HEu
      go_wp2_with fail
      clear q1
      go_loopw [9] (fun t wr => ∃ k : Nat, k ≤ gs.length ∧ t = .int .i64 k ∧ Hid (unG gs 0 gs = unG gs k (gs.drop k)) ∧ Hid (DcS w wr (.slice A gs.length c))) (fun t _ => gs.length - (intOf t).toNat)
      case atStart => exact ⟨0, by omega, by go_num, rfl, HW⟩
      case round =>
        obtain ⟨k, hk, rfl, HX, HW⟩ := hrel
        have q1 := HW.out.x.cl
        by_cases hlt : k < gs.length
        · obtain ⟨g, hg, s1, s2, s3, hd⟩ := HG.out k hlt
          obtain ⟨b, o, A2, c2, rfl, lb, x0, x1, r2⟩ := HP.out.d k g hg
          have z0 : (0 : Int) ≤ (k : Int) := by omega
          have z1 : (k : Int) < (gs.length : Int) := by omega
          have HLb := (show Hid (b < w.heap.size ∧ w.cell? ⟨b, o + k * 2 + 1, none⟩ = some (.slice A2 g.2.length c2)) from ⟨lb, x1⟩)
          have HR2 := (show Hid (RdN w A2 g.2) from r2)
          have HU := (show Hid (unG gs 0 gs = match unN gs 0 g.2 with
            | some j => ((k, j), 81)
            | none => unG gs (k + 1) (gs.drop (k + 1))) from by show unG gs 0 gs = _; rw [HX.out, hd, unG_cons]; try rfl)
          have HN := (show Hid (∀ j, j < g.2.length → ∃ n, g.2[j]? = some n ∧ g.2 ≠ [] ∧ n.tx.size ≤ 140737488355328 ∧ g.2.drop j = n :: g.2.drop (j + 1)) from fun j hj => ⟨_, List.getElem?_eq_getElem hj, by (intro q; rw [q] at hj; simp at hj), s3 _ (List.getElem_mem hj), List.drop_eq_getElem_cons hj⟩)
          clear hg r2 s3 HX hd s1 x0 x1 lb
          go_wp2_with fail
          clear q1
          go_loopw [10] (fun t wr => ∃ j : Nat, j ≤ g.2.length ∧ t = .int .i64 j ∧ Hid (unN gs 0 g.2 = unN gs j (g.2.drop j)) ∧ Hid (DcS w wr (.slice (some ⟨b, o, none⟩) gs.length c))) (fun t _ => g.2.length - (intOf t).toNat)
          case atStart => exact ⟨0, by omega, by go_num, rfl, HW⟩
          case round =>
            obtain ⟨j, hj, rfl, HX, HW⟩ := hrel
            have q1 := HW.out.x.cl
            have x1' := (HW.out.b.cell (p := ⟨b, o + k * 2 + 1, none⟩) HLb.out.1).trans HLb.out.2
            by_cases hjl : j < g.2.length
            · obtain ⟨n, hn, nl, st, hd⟩ := HN.out j hjl
              obtain ⟨g1, o1, rfl, l1, q2⟩ := HR2.out nl
              obtain ⟨a0, a1, a2, a3, a4, a5, a6⟩ := (q2.same (HW.out.b.block g1 l1)) j n hn
              have y0 : (0 : Int) ≤ (j : Int) := by omega
              have y1 : (j : Int) < (g.2.length : Int) := by omega
              have HW2 := (show Hid (DcS w (wr.alloc (ndO n)) (.slice (some ⟨b, o, none⟩) gs.length c)) from HW.out.later (below_box _ _))
              have q3 := HW2.out.x.cl
              clear HN HR2 HG q2 HW nl hn st
              by_cases h6 : n.op = 6
              · have t6 : (n.op == 6) = true := by rw [h6]; rfl
                have HFi : Hid (∀ W, Below w.heap.size w W → Calls Tryz.prog 19 #[.agg #[.slice (some ⟨b, o, none⟩) gs.length c], .string n.tx] W fun e w' => e = .returned (.int .i64 (fdN gs n.tx)) ∧ Below W.heap.size W w') := fun W hW => find_any gs (some ⟨b, o, none⟩) c n.tx W (HP.out.later hW)
                cases hf : fdG gs n.tx with
                | none =>
                  have tf : fdN gs n.tx < 0 := by rw [fdN_none hf]; decide
                  have HF := (show Hid (ckG gs = ((k, j), 81)) from by show ckG gs = _; rw [HE2.out, HU.out, HX.out, hd, unN_cons, if_pos ⟨h6, hf⟩])
                  clear HX HU hd hf h6 HP HE2
                  go_wp2_with fail
                  refine (HFi.out _ HW2.out.b).mono ?_
                  rintro e w4 ⟨rfl, b4⟩
                  have HS := (show Hid (DcS w w4 (.slice (some ⟨b, o, none⟩) gs.length c)) from HW2.out.later b4)
                  clear HFi b4 HW2
                  have HZ := (show Hid (SX ((w4.setCell ⟨w.heap.size + 1, 0, none⟩ (.int .i64 (k : Int))).setCell ⟨w.heap.size + 1, 1, none⟩ (.int .i64 (j : Int))) (w.heap.size + 1) (k : Int) (j : Int)) from HS.out.s.set _ _)
                  have HBz := (show Hid (Below w.heap.size w ((w4.setCell ⟨w.heap.size + 1, 0, none⟩ (.int .i64 (k : Int))).setCell ⟨w.heap.size + 1, 1, none⟩ (.int .i64 (j : Int)))) from set_below (set_below HS.out.b (Nat.le_succ _)) (Nat.le_succ _))
                  have c0 := HS.out.s.c0
                  have c1 := HS.out.s.c1
                  have f0 := HS.out.s.fz 0
                  have f1 := HS.out.s.fz 1
                  clear HS
                  go_wp2_with fail
                  have d0 := HZ.out.c0
                  have d1 := HZ.out.c1
                  clear c0 c1 f0 f1
                  generalize (w4.setCell ⟨w.heap.size + 1, 0, none⟩ (.int .i64 (k : Int))).setCell ⟨w.heap.size + 1, 1, none⟩ (.int .i64 (j : Int)) = wZ at *
                  refine bodyPost_ret (v := .tuple #[.agg #[.int .i64 (k : Int), .int .i64 (j : Int)], .int .i64 81]) (by simp [results, Tryz.results44, go_sem, d0, d1]) rfl ⟨by rw [HF.out]; try rfl, HBz.out⟩
                | some i =>
                  have tf : ¬ fdN gs n.tx < 0 := by rw [fdN_some hf]; omega
                  have HX2 := (show Hid (unN gs 0 g.2 = unN gs (j + 1) (g.2.drop (j + 1))) from by show unN gs 0 g.2 = _; rw [HX.out, hd, unN_cons, if_neg (by rintro ⟨_, q⟩; rw [hf] at q; cases q)])
                  clear HX HU hd hf h6 HP HE2
                  go_wp2_with fail
                  refine (HFi.out _ HW2.out.b).mono ?_
                  rintro e w4 ⟨rfl, b4⟩
                  have HS := (show Hid (DcS w w4 (.slice (some ⟨b, o, none⟩) gs.length c)) from HW2.out.later b4)
                  clear HFi b4 HW2
                  go_wp2_with fail
                  go_roundw
                  case rel => exact ⟨j + 1, by omega, by go_num, HX2, HS⟩
                  case measure => simp [intOf]; omega
              · have t6 : (n.op == 6) = false := beq_eq_false_iff_ne.2 h6
                have HX2 := (show Hid (unN gs 0 g.2 = unN gs (j + 1) (g.2.drop (j + 1))) from by show unN gs 0 g.2 = _; rw [HX.out, hd, unN_cons, if_neg (by rintro ⟨q, _⟩; exact h6 q)])
                clear HX HU hd h6 HP HE2
                go_wp2_with fail
                go_roundw
                case rel => exact ⟨j + 1, by omega, by go_num, HX2, HW2⟩
                case measure => simp [intOf]; omega
            · obtain rfl : j = g.2.length := by omega
              have HX2 := (show Hid (unG gs 0 gs = unG gs (k + 1) (gs.drop (k + 1))) from by show unG gs 0 gs = _; rw [HU.out, HX.out, List.drop_length]; rfl)
              clear HX HU HN HR2 HP HE2
              go_wp2_with fail
              go_roundw
              case rel => exact ⟨k + 1, by omega, by go_num, HX2, HW⟩
              case measure => simp [intOf]; omega
        · obtain rfl : k = gs.length := by omega
          have HF := (show Hid (ckG gs = ((0, 0), 0)) from by show ckG gs = _; rw [HE2.out, HX.out, List.drop_length]; rfl)
          have HS := HW
          clear HX HG HP HE2 HW
          have HZ := (show Hid (SX ((wr.setCell ⟨w.heap.size + 1, 0, none⟩ (.int .i64 0)).setCell ⟨w.heap.size + 1, 1, none⟩ (.int .i64 0)) (w.heap.size + 1) 0 0) from HS.out.s.set _ _)
          have HBz := (show Hid (Below w.heap.size w ((wr.setCell ⟨w.heap.size + 1, 0, none⟩ (.int .i64 0)).setCell ⟨w.heap.size + 1, 1, none⟩ (.int .i64 0))) from set_below (set_below HS.out.b (Nat.le_succ _)) (Nat.le_succ _))
          have c0 := HS.out.s.c0
          have c1 := HS.out.s.c1
          have f0 := HS.out.s.fz 0
          have f1 := HS.out.s.fz 1
          clear HS
          go_wp2_with fail
          have d0 := HZ.out.c0
          have d1 := HZ.out.c1
          clear c0 c1 f0 f1
          generalize (wr.setCell ⟨w.heap.size + 1, 0, none⟩ (.int .i64 0)).setCell ⟨w.heap.size + 1, 1, none⟩ (.int .i64 0) = wZ at *
          refine bodyPost_ret (v := .tuple #[.agg #[.int .i64 0, .int .i64 0], .int .i64 0]) (by simp [results, Tryz.results44, go_sem, d0, d1]) rfl ⟨by rw [HF.out]; try rfl, HBz.out⟩
end Go.Proofs.YtppggnmlbcdegabGreat.N

namespace Go.Proofs.YtppggnmlbcdegabGreat.N
open Go.RowKit Go.Maps
open Go.Proofs.YtppggnmlbcdegabGreat.T
set_option maxRecDepth 100000 in
set_option maxHeartbeats 4000000 in
theorem findD_any (gs : GL) (A : Option Addr) (c : Nat) (s : ByteArray) (w : World) (hp : GI w A gs) :
    Calls Tryz.prog 39 #[.agg #[.slice A gs.length c], .string s] w fun e w' => e = .returned (.tuple #[.int .i64 (fnR gs s).1, .int .i64 (fnR gs s).2]) ∧ Below w.heap.size w w' := by
  obtain ⟨w1, hw1⟩ : ∃ w1, w1 = (w.alloc (.cells #[.slice A gs.length c] 24)) := ⟨_, rfl⟩
  have HB1 : Hid (Below w.heap.size w w1) := by show Below _ _ _; rw [hw1]; exact below_box _ _
  have HG1 : Hid (GX w1 w.heap.size (.slice A gs.length c)) := by show GX _ _ _; rw [hw1]; exact GX.mk (heap_alloc_new w _)
  have HP := (show Hid (GI w A gs) from hp)
  have HN := (show Hid (∀ _ : Unit, Calls Tryz.prog 44 #[.agg #[.slice A gs.length c]] w1 fun e w' => e = .returned (.tuple #[.agg #[.int .i64 (ckG gs).1.1, .int .i64 (ckG gs).1.2], .int .i64 (ckG gs).2]) ∧ Below w1.heap.size w1 w') from fun _ => checkD_any gs A c w1 (hp.later HB1.out))
  clear hp
  go_enter Tryz.func39, Tryz.ntmps39
  go_wp2_with fail
  rw [← hw1]
  refine (HN.out ()).mono ?_
  rintro e w3 ⟨rfl, b3⟩
  obtain ⟨w4, hw4⟩ : ∃ w4, w4 = w3.alloc (.cells #[.int .i64 ((ckG gs).1.1 : Int), .int .i64 ((ckG gs).1.2 : Int)] 61) := ⟨_, rfl⟩
  have HB := (show Hid (Below w.heap.size w w4) from by show Below _ _ _; rw [hw4]; exact (HB1.out.trans (b3.mono HB1.out.size)).alloc (HB1.out.trans (b3.mono HB1.out.size)).size _)
  have HG := (show Hid (GX w4 w.heap.size (.slice A gs.length c)) from by show GX _ _ _; rw [hw4]; exact (HG1.out.below b3).below (below_box _ _))
  have q1 := HG.out.cl
  clear HN b3 hw1 HB1 HG1
  by_cases hz : (ckG gs).2 = 0
  · have tz : ((ckG gs).2 != 0) = false := by rw [hz]; rfl
    have HFi : Hid (∀ W, Below w.heap.size w W → Calls Tryz.prog 19 #[.agg #[.slice A gs.length c], .string s] W fun e w' => e = .returned (.int .i64 (fdN gs s)) ∧ Below W.heap.size W w') := fun W hW => find_any gs A c s W (HP.out.later hW)
    cases hf : fdG gs s with
    | none =>
      have HE := (show Hid (fnR gs s = (0, 5)) from by show fnR gs s = _; unfold fnR; rw [if_neg (fun q => q hz), hf])
      have tf : fdN gs s < 0 := by rw [fdN_none hf]; decide
      clear hz hf HP HG
      subst hw4
      generalize (ckG gs).2 = cd at *
      go_wp2_with fail
      refine (HFi.out _ HB.out).mono ?_
      rintro e w5 ⟨rfl, b5⟩
      have HB5 := (show Hid (Below w.heap.size w w5) from HB.out.trans (b5.mono HB.out.size))
      clear b5 HB HFi
      go_wp2_with fail
      refine bodyPost_ret (v := .tuple #[.int .i64 0, .int .i64 5]) (by simp [results, Tryz.results39, go_sem]) rfl ⟨by rw [HE.out], HB5.out⟩
    | some i =>
      have HE := (show Hid (fnR gs s = ((i : Int), 0)) from by show fnR gs s = _; unfold fnR; rw [if_neg (fun q => q hz), hf])
      have tf : ¬ fdN gs s < 0 := by rw [fdN_some hf]; omega
      have HFd := (show Hid (fdN gs s = (i : Int)) from fdN_some hf)
      clear hz hf HP
      subst hw4
      generalize (ckG gs).2 = cd at *
      go_wp2_with fail
      refine (HFi.out _ HB.out).mono ?_
      rintro e w5 ⟨rfl, b5⟩
      have HB5 := (show Hid (Below w.heap.size w w5) from HB.out.trans (b5.mono HB.out.size))
      have q2 := (HG.out.below b5).cl
      clear b5 HB HG q1
      go_wp2_with fail
      refine (HFi.out _ HB5.out).mono ?_
      rintro e w6 ⟨rfl, b6⟩
      have HB6 := (show Hid (Below w.heap.size w w6) from HB5.out.trans (b6.mono HB5.out.size))
      clear b6 HB5 HFi q2
      go_wp2_with fail
      refine bodyPost_ret (v := .tuple #[.int .i64 (fdN gs s), .int .i64 0]) (by simp [results, Tryz.results39, go_sem]) rfl ⟨by rw [HE.out, HFd.out], HB6.out⟩
  · have tz : ((ckG gs).2 != 0) = true := by rw [bne, beq_eq_false_iff_ne.2 hz]; rfl
    have HE := (show Hid (fnR gs s = (0, (ckG gs).2)) from by show fnR gs s = _; unfold fnR; rw [if_pos hz])
    clear hz HP HG
    subst hw4
    generalize (ckG gs).2 = cd at *
    go_wp2_with fail
    refine bodyPost_ret (v := .tuple #[.int .i64 0, .int .i64 cd]) (by simp [results, Tryz.results39, go_sem]) rfl ⟨by rw [HE.out], HB.out⟩
set_option maxRecDepth 100000 in
set_option maxHeartbeats 4000000 in
theorem lookD_any (gs : GL) (A : Option Addr) (c : Nat) (r : Int) (w : World) (hp : GI w A gs) :
    Calls Tryz.prog 17 #[.agg #[.slice A gs.length c], .int .i64 r] w fun e w' => e = .returned (.int .i64 (lkR gs r)) ∧ Below w.heap.size w w' := by
  obtain ⟨w1, hw1⟩ : ∃ w1, w1 = (w.alloc (.cells #[.slice A gs.length c] 24)) := ⟨_, rfl⟩
  have HB1 : Hid (Below w.heap.size w w1) := by show Below _ _ _; rw [hw1]; exact below_box _ _
  have HG1 : Hid (GX w1 w.heap.size (.slice A gs.length c)) := by show GX _ _ _; rw [hw1]; exact GX.mk (heap_alloc_new w _)
  have HP := (show Hid (GI w A gs) from hp)
  have HN := (show Hid (∀ _ : Unit, Calls Tryz.prog 44 #[.agg #[.slice A gs.length c]] w1 fun e w' => e = .returned (.tuple #[.agg #[.int .i64 (ckG gs).1.1, .int .i64 (ckG gs).1.2], .int .i64 (ckG gs).2]) ∧ Below w1.heap.size w1 w') from fun _ => checkD_any gs A c w1 (hp.later HB1.out))
  clear hp
  go_enter Tryz.func17, Tryz.ntmps17
  go_wp2_with fail
  rw [← hw1]
  refine (HN.out ()).mono ?_
  rintro e w3 ⟨rfl, b3⟩
  obtain ⟨w4, hw4⟩ : ∃ w4, w4 = w3.alloc (.cells #[.int .i64 ((ckG gs).1.1 : Int), .int .i64 ((ckG gs).1.2 : Int)] 61) := ⟨_, rfl⟩
  have HB := (show Hid (Below w.heap.size w w4) from by show Below _ _ _; rw [hw4]; exact (HB1.out.trans (b3.mono HB1.out.size)).alloc (HB1.out.trans (b3.mono HB1.out.size)).size _)
  have HG := (show Hid (GX w4 w.heap.size (.slice A gs.length c)) from by show GX _ _ _; rw [hw4]; exact (HG1.out.below b3).below (below_box _ _))
  have q1 := HG.out.cl
  clear HN b3 hw1 HB1 HG1
  by_cases hz : (ckG gs).2 = 0
  · have tz : ((ckG gs).2 != 0) = false := by rw [hz]; rfl
    have HE0 := (show Hid (lkR gs r = if r < 0 ∨ (gs.length : Int) ≤ r then 1 else 0) from by show lkR gs r = _; unfold lkR; rw [if_neg (fun q => q hz)])
    clear hz HP HG
    subst hw4
    generalize (ckG gs).2 = cd at *
    by_cases h1 : r < 0
    · have HE := (show Hid (lkR gs r = 1) from by show lkR gs r = _; rw [HE0.out, if_pos (.inl h1)])
      clear HE0
      go_wp2_with fail
      go_ret
      exact ⟨by rw [HE.out]; rfl, HB.out⟩
    · by_cases h2 : (gs.length : Int) ≤ r
      · have HE := (show Hid (lkR gs r = 1) from by show lkR gs r = _; rw [HE0.out, if_pos (.inr h2)])
        clear HE0
        go_wp2_with fail
        go_ret
        exact ⟨by rw [HE.out]; rfl, HB.out⟩
      · have HE := (show Hid (lkR gs r = 0) from by show lkR gs r = _; rw [HE0.out, if_neg (by rintro (q | q); exact h1 q; exact h2 q)])
        clear HE0
        go_wp2_with fail
        go_ret
        exact ⟨by rw [HE.out]; rfl, HB.out⟩
  · have tz : ((ckG gs).2 != 0) = true := by rw [bne, beq_eq_false_iff_ne.2 hz]; rfl
    have HE := (show Hid (lkR gs r = (ckG gs).2) from by show lkR gs r = _; unfold lkR; rw [if_pos hz])
    clear hz HP HG
    subst hw4
    generalize (ckG gs).2 = cd at *
    go_wp2_with fail
    go_ret
    exact ⟨by rw [HE.out]; rfl, HB.out⟩
end Go.Proofs.YtppggnmlbcdegabGreat.N

namespace Go.Proofs.YtppggnmlbcdegabGreat.N
open Go.RowKit
open Go.Proofs.YtppggnmlbcdegabGreat.T (RdN below_drewN below_box node_neq ndE)
set_option maxRecDepth 100000 in
set_option maxHeartbeats 8000000 in
theorem sameq (A1 A2 : Option Addr) (c1 c2 : Nat) (L : List Nd) (hl : L.length ≤ 140737488355328) (w : World) (h1 : RdN w A1 L) (h2 : RdN w A2 L) :
    Calls Tryz.prog 24 #[.slice A1 L.length c1, .slice A2 L.length c2] w fun e w' => e = .returned (.bool true) ∧ ∃ m, w' = w.drewN m := by
  have H1 := (show Hid _ from h1)
  have H2 := (show Hid _ from h2)
  have HG := (show Hid (∀ k, k < L.length → ∃ m, L[k]? = some m ∧ L ≠ []) from fun k hk => ⟨_, List.getElem?_eq_getElem hk, by rintro rfl; simp at hk⟩)
  clear h1 h2
  go_enter Tryz.func24, Tryz.ntmps24
  go_wp2_with fail
  go_loopw [5] (fun t wr => ∃ k : Nat, k ≤ L.length ∧ t = .int .i64 k ∧ Hid (∃ m, wr = w.drewN m)) (fun t _ => L.length - (intOf t).toNat)
  case atStart => exact ⟨0, by omega, by go_num, ⟨0, rfl⟩⟩
  case round =>
    obtain ⟨k, hk, rfl, HW⟩ := hrel
    by_cases hlt : k < L.length
    · obtain ⟨n, hn1, nl⟩ := HG.out k hlt
      have hB : Below w.heap.size w wr := by obtain ⟨m, rfl⟩ := HW.out; exact below_drewN (Below.refl _ _) _
      obtain ⟨g1, o1, rfl, l1, q1⟩ := H1.out nl
      obtain ⟨g2, o2, rfl, l2, q2⟩ := H2.out nl
      obtain ⟨a0, a1, a2, a3, a4, a5, a6⟩ := (q1.same (hB.block g1 l1)) k n hn1
      obtain ⟨d0, d1, d2, d3, d4, d5, d6⟩ := (q2.same (hB.block g2 l2)) k n hn1
      have z0 : (0 : Int) ≤ (k : Int) := by omega
      have z1 : (k : Int) < (L.length : Int) := by omega
      clear HG H1 H2 q1 q2 nl hn1 hB
      have hneq := node_neq n n
      rw [T.ndE_refl] at hneq
      go_wp2_with fail
      go_quiet (fail)
      have HW2 := (show Hid (∃ m, wr.drewN nq = w.drewN m) from by obtain ⟨m, e⟩ := HW.out; exact ⟨m + nq, by rw [e, World.drewN_drewN]⟩)
      generalize wr.drewN nq = w2 at *
      clear hneq a0 a1 a2 a3 a4 a5 a6 d0 d1 d2 d3 d4 d5 d6 HW
      go_wp2_with fail
      go_roundw
      case rel => exact ⟨k + 1, by omega, by go_num, HW2⟩
      case measure => simp [intOf]; omega
    · obtain rfl : k = L.length := by omega
      clear HG H1 H2
      go_wp2_with fail
      go_ret
      exact ⟨rfl, HW.out⟩
/-- A slice reads as a grammar's rules. -/
def GrR (W : World) (u : Value) (gs : List (ByteArray × List Nd)) : Prop := ∃ A c, u = .slice A gs.length c ∧ ∀ (k : Nat) g, gs[k]? = some g → ∃ b o A2 c2, A = some ⟨b, o, none⟩ ∧ b < W.heap.size ∧ W.cell? ⟨b, o + k * 2, none⟩ = some (.string g.1) ∧ W.cell? ⟨b, o + k * 2 + 1, none⟩ = some (.slice A2 g.2.length c2) ∧ RdN W A2 g.2
theorem GrR.later {W W' : World} {u : Value} {gs : List (ByteArray × List Nd)} (h : GrR W u gs) (hb : Below W.heap.size W W') : GrR W' u gs := by
  obtain ⟨A, c, e, h⟩ := h
  refine ⟨A, c, e, fun k g hg => ?_⟩
  obtain ⟨b, o, A2, c2, h1, h2, h3, h4, h5⟩ := h k g hg
  exact ⟨b, o, A2, c2, h1, Nat.lt_of_lt_of_le h2 hb.size, (hb.cell (p := ⟨b, o + k * 2, none⟩) h2).trans h3, (hb.cell (p := ⟨b, o + k * 2 + 1, none⟩) h2).trans h4, h5.below hb (Nat.le_refl _)⟩
end Go.Proofs.YtppggnmlbcdegabGreat.N

namespace Go.Proofs.YtppggnmlbcdegabGreat.N
open Go.RowKit Go.Maps
open Go.Proofs.YtppggnmlbcdegabGreat.T
/-- Two grammars are the same. -/
def decGm (gs hs : GL) : Decidable (gs = hs) := @instDecidableEqList (ByteArray × List Nd) (fun a b => @instDecidableEqProd ByteArray (List Nd) inferInstance decPt a b) gs hs
def gmB (gs hs : GL) : Bool := @decide (gs = hs) (decGm gs hs)
theorem gmB_t {gs hs : GL} (h : gs = hs) : gmB gs hs = true := @decide_eq_true _ (decGm _ _) h
theorem gmB_f {gs hs : GL} (h : gs ≠ hs) : gmB gs hs = false := @decide_eq_false _ (decGm _ _) h
theorem patB_iff {L M : List Nd} : patB L M = true ↔ L = M := by unfold patB; exact iff_of_eq (@decide_eq_true_eq _ (decPt L M))
theorem te_of {a b : ByteArray} (h : a = b) : (a.toList == b.toList) = true := by rw [h]; simp
theorem te_no {a b : ByteArray} (h : a ≠ b) : (a.toList == b.toList) = false := by
  cases q : a.toList == b.toList
  · rfl
  · exact absurd (tx_ext (by simpa using q)) h
theorem tn_no {a b : ByteArray} (h : a ≠ b) : (a.toList != b.toList) = true := by rw [bne, te_no h]; rfl
theorem tn_of {a b : ByteArray} (h : a = b) : (a.toList != b.toList) = false := by rw [bne, te_of h]; rfl
/-- Each rule is held against the other one's. -/
theorem gmB_all {gs hs : GL} (hl : gs.length = hs.length) (h : ∀ j : Nat, j < gs.length → gs[j]? = hs[j]?) : gmB gs hs = true := gmB_t (List.ext_getElem? fun j => by
  by_cases q : j < gs.length
  · exact h j q
  · rw [List.getElem?_eq_none (by omega), List.getElem?_eq_none (by omega)])
theorem gmB_at {gs hs : GL} (j : Nat) (h : gs[j]? ≠ hs[j]?) : gmB gs hs = false := gmB_f fun e => h (by rw [e])
theorem gmB_len {gs hs : GL} (h : ¬ gs.length = hs.length) : gmB gs hs = false := gmB_f fun e => h (by rw [e])
set_option maxRecDepth 100000 in
set_option maxHeartbeats 8000000 in
theorem samePattern_q (A1 A2 : Option Addr) (c1 c2 : Nat) (L M : List Nd) (hl : L.length ≤ 140737488355328) (hm : M.length ≤ 140737488355328) (w : World) (h1 : RdN w A1 L) (h2 : RdN w A2 M) :
    Calls Tryz.prog 24 #[.slice A1 L.length c1, .slice A2 M.length c2] w fun e w' => e = .returned (.bool (patB L M)) ∧ ∃ m, w' = w.drewN m := by
  by_cases hne : L.length = M.length
  · have t0 : ((L.length : Int) != (M.length : Int)) = false := by rw [bne, beq_iff_eq.2 (by omega)]; rfl
    have HT := (show Hid ((∀ j : Nat, j < L.length → L[j]? = M[j]?) → patB L M = true) from fun h => patB_t hne h)
    have HF := (show Hid (∀ j : Nat, L[j]? ≠ M[j]? → patB L M = false) from fun j h => patB_f j h)
    have H1 := (show Hid _ from h1)
    have H2 := (show Hid _ from h2)
    have HG := (show Hid (∀ k, k < L.length → ∃ m n, L[k]? = some m ∧ M[k]? = some n ∧ L ≠ [] ∧ M ≠ []) from fun k hk => ⟨_, _, List.getElem?_eq_getElem hk, List.getElem?_eq_getElem (by omega), by rintro rfl; simp at hk, by rintro rfl; rw [hne] at hk; simp at hk⟩)
    have hle : (L.length : Int) = (M.length : Int) := by omega
    clear h1 h2 hne
    go_enter Tryz.func24, Tryz.ntmps24
    go_wp2_with fail
    go_loopw [5] (fun t wr => ∃ k : Nat, k ≤ L.length ∧ t = .int .i64 k ∧ Hid (∀ j : Nat, j < k → L[j]? = M[j]?) ∧ Hid (∃ m, wr = w.drewN m)) (fun t _ => L.length - (intOf t).toNat)
    case atStart => exact ⟨0, by omega, by go_num, fun j q => by omega, ⟨0, rfl⟩⟩
    case round =>
      obtain ⟨k, hk, rfl, HI, HW⟩ := hrel
      by_cases hlt : k < L.length
      · obtain ⟨m, n, hm1, hn1, nl, nm⟩ := HG.out k hlt
        have hB : Below w.heap.size w wr := by obtain ⟨m, rfl⟩ := HW.out; exact below_drewN (Below.refl _ _) _
        obtain ⟨g1, o1, rfl, l1, q1⟩ := H1.out nl
        obtain ⟨g2, o2, rfl, l2, q2⟩ := H2.out nm
        obtain ⟨a0, a1, a2, a3, a4, a5, a6⟩ := (q1.same (hB.block g1 l1)) k m hm1
        obtain ⟨d0, d1, d2, d3, d4, d5, d6⟩ := (q2.same (hB.block g2 l2)) k n hn1
        have z0 : (0 : Int) ≤ (k : Int) := by omega
        have z1 : (k : Int) < (L.length : Int) := by omega
        have z2 : (k : Int) < (M.length : Int) := by omega
        have HN := (show Hid (L[k]? = some m ∧ M[k]? = some n) from ⟨hm1, hn1⟩)
        clear HG H1 H2 q1 q2 nl nm hm1 hn1 hle hB
        have hneq := node_neq m n
        cases he : ndE m n with
        | true =>
          rw [he] at hneq
          have HI2 := (show Hid (∀ j : Nat, j < k + 1 → L[j]? = M[j]?) from fun j hj => by
            by_cases q : j < k
            · exact HI.out j q
            · obtain rfl : j = k := by omega
              rw [HN.out.1, HN.out.2, ndE_eq he])
          clear HT HF HI he HN
          go_wp2_with fail
          go_quiet (fail)
          have HW2 := (show Hid (∃ m, wr.drewN nq = w.drewN m) from by obtain ⟨m, e⟩ := HW.out; exact ⟨m + nq, by rw [e, World.drewN_drewN]⟩)
          generalize wr.drewN nq = w2 at *
          clear hneq a0 a1 a2 a3 a4 a5 a6 d0 d1 d2 d3 d4 d5 d6 HW
          go_wp2_with fail
          go_roundw
          case rel => exact ⟨k + 1, by omega, by go_num, HI2, HW2⟩
          case measure => simp [intOf]; omega
        | false =>
          rw [he] at hneq
          have HE := (show Hid (patB L M = false) from HF.out k (by
            rw [HN.out.1, HN.out.2]
            intro e
            have e2 : m = n := Option.some.inj e
            rw [ndE_iff.2 e2] at he
            cases he))
          clear HT HF HI he HN
          go_wp2_with fail
          go_quiet (fail)
          have HW2 := (show Hid (∃ m, wr.drewN nq = w.drewN m) from by obtain ⟨m, e⟩ := HW.out; exact ⟨m + nq, by rw [e, World.drewN_drewN]⟩)
          generalize wr.drewN nq = w2 at *
          clear hneq a0 a1 a2 a3 a4 a5 a6 d0 d1 d2 d3 d4 d5 d6 HW
          go_wp2_with fail
          go_ret
          exact ⟨by rw [HE.out]; rfl, HW2.out⟩
      · obtain rfl : k = L.length := by omega
        have HE := (show Hid (patB L M = true) from HT.out HI.out)
        clear HG H1 H2 HT HF HI
        go_wp2_with fail
        go_ret
        exact ⟨by rw [HE.out]; rfl, HW.out⟩
  · have t0 : ((L.length : Int) != (M.length : Int)) = true := by rw [bne, beq_eq_false_iff_ne.2 (by omega)]; rfl
    have HE := (show Hid (patB L M = false) from patB_ne hne)
    clear h1 h2 hne
    go_enter Tryz.func24, Tryz.ntmps24
    go_wp2_with fail
    go_ret
    exact ⟨by rw [HE.out]; rfl, 0, rfl⟩


/-- A grammar's sizes, within what a memory holds. -/
def GmL (gs : GL) : Prop := gs.length ≤ 140737488355328 ∧ ∀ g ∈ gs, g.2.length ≤ 140737488355328
/-- While two grammars are held against each other. -/
structure AtH (w wr : World) (u1 u2 : Value) (gs hs : GL) : Prop where
  b : Below w.heap.size w wr
  x1 : GX wr w.heap.size u1
  x2 : GX wr (w.heap.size + 1) u2
  r1 : GrR wr u1 gs
  r2 : GrR wr u2 hs
theorem AtH.later {w wr W' : World} {u1 u2 : Value} {gs hs : GL} (h : AtH w wr u1 u2 gs hs) (hb : Below wr.heap.size wr W') : AtH w W' u1 u2 gs hs :=
  ⟨h.b.trans (hb.mono h.b.size), h.x1.below hb, h.x2.below hb, h.r1.later hb, h.r2.later hb⟩
theorem AtH.mk2 {w : World} {u1 u2 : Value} {gs hs : GL} (h1 : GrR w u1 gs) (h2 : GrR w u2 hs) : AtH w ((w.alloc (.cells #[u1] 24)).alloc (.cells #[u2] 24)) u1 u2 gs hs :=
    ⟨((Below.refl _ _).alloc (Nat.le_refl _) _).alloc (by rw [World.size_alloc]; omega) _, (GX.mk (heap_alloc_new w _)).below (below_box _ _), ⟨by have h := heap_alloc_new (w.alloc (.cells #[u1] 24)) (.cells #[u2] 24); rw [World.size_alloc] at h; exact h⟩, (h1.later (below_box _ _)).later (below_box _ _), (h2.later (below_box _ _)).later (below_box _ _)⟩
set_option maxRecDepth 100000 in
set_option maxHeartbeats 16000000 in
theorem sameH_any {gs hs : GL} (hg : GmL gs) (hh : GmL hs) {w : World} {u1 u2 : Value} (h1 : GrR w u1 gs) (h2 : GrR w u2 hs) : Calls Tryz.prog 7 #[.agg #[u1], .agg #[u2]] w fun e w' => e = .returned (.bool (gmB gs hs)) ∧ Below w.heap.size w w' := by
  have HA := (show Hid (AtH w ((w.alloc (.cells #[u1] 24)).alloc (.cells #[u2] 24)) u1 u2 gs hs) from AtH.mk2 h1 h2)
  obtain ⟨A1, c1, rfl, _⟩ := h1
  obtain ⟨A2, c2, rfl, _⟩ := h2
  obtain ⟨lg, mg⟩ := hg
  obtain ⟨lh, mh⟩ := hh
  have q1 := HA.out.x1.cl
  have q2 := HA.out.x2.cl
  by_cases hne : gs.length = hs.length
  · have t0 : ((gs.length : Int) != (hs.length : Int)) = false := by rw [bne, beq_iff_eq.2 (by omega)]; rfl
    have HT := (show Hid ((∀ j : Nat, j < gs.length → gs[j]? = hs[j]?) → gmB gs hs = true) from fun h => gmB_all hne h)
    have HG := (show Hid (∀ k, k < gs.length → k < hs.length ∧ ∃ g h, gs[k]? = some g ∧ hs[k]? = some h ∧ g.2.length ≤ 140737488355328 ∧ h.2.length ≤ 140737488355328) from fun k hk => ⟨by omega, _, _, List.getElem?_eq_getElem hk, List.getElem?_eq_getElem (by omega), mg _ (List.getElem_mem hk), mh _ (List.getElem_mem (by omega))⟩)
    clear mg mh hne
    go_enter Tryz.func7, Tryz.ntmps7
    go_wp2_with fail
    generalize (w.alloc (.cells #[.slice A1 gs.length c1] 24)).alloc (.cells #[.slice A2 hs.length c2] 24) = w1 at *
    go_wp2_with fail
    clear q1 q2 t0
    go_loopw [5] (fun t wr => ∃ k : Nat, k ≤ gs.length ∧ t = .int .i64 k ∧ Hid (∀ j : Nat, j < k → gs[j]? = hs[j]?) ∧ Hid (AtH w wr (.slice A1 gs.length c1) (.slice A2 hs.length c2) gs hs)) (fun t _ => gs.length - (intOf t).toNat)
    case atStart => exact ⟨0, by omega, by go_num, fun j q => by omega, HA⟩
    case round =>
      obtain ⟨k, hk, rfl, HI, HW⟩ := hrel
      clear HA
      have q1 := HW.out.x1.cl
      have q2 := HW.out.x2.cl
      by_cases hlt : k < gs.length
      · obtain ⟨hlt2, g, h, hg, hh, hgl, hhl⟩ := HG.out k hlt
        obtain ⟨A3, c3, e3, hc3⟩ := HW.out.r1
        obtain ⟨A4, c4, e4, hc4⟩ := HW.out.r2
        obtain ⟨b1, o1, B1, d1, hA1, l1, y0, y1, r1⟩ := hc3 k g hg
        obtain ⟨b2, o2, B2, d2, hA2, l2, x0, x1, r2⟩ := hc4 k h hh
        cases e3
        cases e4
        subst hA1 hA2
        have z0 : (0 : Int) ≤ (k : Int) := by omega
        have z1 : (k : Int) < (gs.length : Int) := by omega
        have z2 : (k : Int) < (hs.length : Int) := by omega
        have HS : Hid (∀ n, Calls Tryz.prog 24 #[.slice B1 g.2.length d1, .slice B2 h.2.length d2] (wr.drewN n) fun e w' => e = .returned (.bool (patB g.2 h.2)) ∧ ∃ m, w' = (wr.drewN n).drewN m) := fun n => samePattern_q B1 B2 d1 d2 g.2 h.2 hgl hhl _ (r1.below (below_drewN (Below.refl _ _) _) (Nat.le_refl _)) (r2.below (below_drewN (Below.refl _ _) _) (Nat.le_refl _))
        have HN := (show Hid (gs[k]? = some g ∧ hs[k]? = some h) from ⟨hg, hh⟩)
        clear HG hc3 hc4 r1 r2 hg hh hgl hhl
        by_cases en : g.1 = h.1
        · have te := te_of en
          have tn := tn_of en
          cases pb : patB g.2 h.2 with
          | true =>
            have HI2 := (show Hid (∀ j : Nat, j < k + 1 → gs[j]? = hs[j]?) from fun j hj => by
              by_cases q : j < k
              · exact HI.out j q
              · obtain rfl : j = k := by omega
                rw [HN.out.1, HN.out.2, Prod.ext en (patB_iff.1 pb)])
            rw [pb] at HS
            clear HT HI HN en pb
            generalize g.2.length = gl at *
            generalize h.2.length = hl at *
            generalize g.1 = nm at *
            generalize h.1 = nn at *
            go_wp2_with fail
            go_big_quiet ((go_at_call 24; exact Calls.quiet_of (HS.out _)))
            have HW2 := (show Hid (AtH w (wr.drewN nq) (.slice (some ⟨b1, o1, none⟩) gs.length c1) (.slice (some ⟨b2, o2, none⟩) hs.length c2) gs hs) from HW.out.later (below_drewN (Below.refl _ _) _))
            generalize wr.drewN nq = w2 at *
            clear HW q1 q2 y0 y1 x0 x1 te tn
            go_wp2_with fail
            go_roundw
            case rel => exact ⟨k + 1, by omega, by go_num, HI2, HW2⟩
            case measure => simp [intOf]; omega
          | false =>
            have HE := (show Hid (gmB gs hs = false) from gmB_at k (by
              rw [HN.out.1, HN.out.2]
              intro e
              have e2 : g = h := Option.some.inj e
              rw [e2, patB_refl] at pb
              cases pb))
            rw [pb] at HS
            clear HT HI HN en pb
            generalize g.2.length = gl at *
            generalize h.2.length = hl at *
            generalize g.1 = nm at *
            generalize h.1 = nn at *
            go_wp2_with fail
            go_big_quiet ((go_at_call 24; exact Calls.quiet_of (HS.out _)))
            have HW2 := (show Hid (Below w.heap.size w (wr.drewN nq)) from below_drewN HW.out.b _)
            generalize wr.drewN nq = w2 at *
            clear HW q1 q2 y0 y1 x0 x1 te tn
            go_wp2_with fail
            go_ret
            exact ⟨by rw [HE.out]; rfl, HW2.out⟩
        · have te := te_no en
          have tn := tn_no en
          have HE := (show Hid (gmB gs hs = false) from gmB_at k (by
            rw [HN.out.1, HN.out.2]
            intro e
            exact en (by rw [Option.some.inj e])))
          clear HT HI HN en HS
          generalize g.1 = nm at *
          generalize h.1 = nn at *
          go_wp2_with fail
          go_big_quiet (fail)
          have HW2 := (show Hid (Below w.heap.size w (wr.drewN nq)) from below_drewN HW.out.b _)
          generalize wr.drewN nq = w2 at *
          clear HW q1 q2 y0 y1 x0 x1 te tn
          go_wp2_with fail
          go_ret
          exact ⟨by rw [HE.out]; rfl, HW2.out⟩
      · obtain rfl : k = gs.length := by omega
        have HE := (show Hid (gmB gs hs = true) from HT.out HI.out)
        clear HG HT HI
        go_wp2_with fail
        go_ret
        exact ⟨by rw [HE.out]; rfl, HW.out.b⟩
  · have t0 : ((gs.length : Int) != (hs.length : Int)) = true := by rw [bne, beq_eq_false_iff_ne.2 (by omega)]; rfl
    have HE := (show Hid (gmB gs hs = false) from gmB_len hne)
    clear hne mg mh
    go_enter Tryz.func7, Tryz.ntmps7
    go_wp2_with fail
    generalize (w.alloc (.cells #[.slice A1 gs.length c1] 24)).alloc (.cells #[.slice A2 hs.length c2] 24) = w1 at *
    go_wp2_with fail
    go_ret
    exact ⟨by rw [HE.out]; rfl, HA.out.b⟩
end Go.Proofs.YtppggnmlbcdegabGreat.N

namespace Go.Proofs
open Go.Shelf
def Tryz.laysM316_ren : Go.Shelf.Ren := ⟨fun | 316 => 62 | n => n, fun | 9 => 9 | 3 => 3 | 4 => 4 | 37 => 105 | 0 => 0 | 127 => 106 | 5 => 5 | n => n, fun | n => n⟩
theorem Tryz.laysM316 : Go.Proofs.LaysM.n316 Tryz.prog Tryz.laysM316_ren := {
  mixed := by kernel_rfl
  f316 := Tryz.func62.trans (congrArg some (by kernel_rfl))
  t0 := Tryz.underlying0
  a0 := Tryz.isAgg0
  z0 := Tryz.sizeOf0
  v0 := Tryz.zeroValue0
  t3 := Tryz.underlying3
  a3 := Tryz.isAgg3
  z3 := Tryz.sizeOf3
  v3 := Tryz.zeroValue3
  t4 := Tryz.underlying4
  a4 := Tryz.isAgg4
  z4 := Tryz.sizeOf4
  v4 := Tryz.zeroValue4
  t9 := Tryz.underlying9
  a9 := Tryz.isAgg9
  z9 := Tryz.sizeOf9
  v9 := Tryz.zeroValue9
  t37 := Tryz.underlying105
  a37 := Tryz.isAgg105
  z37 := Tryz.sizeOf105
  v37 := Tryz.zeroValue105
  t127 := Tryz.underlying106
  a127 := Tryz.isAgg106
  z127 := Tryz.sizeOf106
  v127 := Tryz.zeroValue106
  t5 := Tryz.underlying5
  a5 := Tryz.isAgg5
  z5 := Tryz.sizeOf5
  v5 := Tryz.zeroValue5
  i0 := by kernel_rfl
  i3 := by kernel_rfl
  i4 := by kernel_rfl
  i5 := by kernel_rfl
  i9 := by kernel_rfl
  i37 := by kernel_rfl
  i127 := by kernel_rfl }
end Go.Proofs

namespace Go.Proofs.YtppggnmlbcdegabGreat.N
open Go.RowKit Go.Maps
open Go.Proofs.YtppggnmlbcdegabGreat.T
set_option maxRecDepth 100000 in
set_option maxHeartbeats 4000000 in
theorem clone_any (s : ByteArray) (hs : s.size ≤ 281474976710656) (w : World) : Calls Tryz.prog 49 #[.string s] w fun e w' => e = .returned (.string s) ∧ Below w.heap.size w w' := by
  have H := (show Hid (∀ _ : Unit, Calls Tryz.prog 62 #[.string s] w fun e w' => e = .returned (.string s) ∧ Below w.heap.size w w') from fun _ => Any.stringslite_Clone Tryz.laysM316 s w hs)
  clear hs
  go_enter Tryz.func49, Tryz.ntmps49
  go_wp2_with fail
  refine (H.out ()).mono ?_
  rintro e w2 ⟨rfl, b2⟩
  have HB := (show Hid _ from b2)
  clear H b2
  go_wp2_with fail
  go_ret
  exact ⟨rfl, HB.out⟩
/-- A text in a box of its own. -/
structure BX (W : World) (b : Nat) (s : ByteArray) : Prop where
  heap : W.heap[b]? = some (.cells #[.string s] 9 (0, 0))
theorem BX.lt {W : World} {b : Nat} {s : ByteArray} (h : BX W b s) : b < W.heap.size := (Array.getElem?_eq_some_iff.1 h.heap).1
theorem BX.cl {W : World} {b : Nat} {s : ByteArray} (h : BX W b s) : W.cell? ⟨b, 0, none⟩ = some (.string s) := by rw [cell_of_row W b 0 _ 9 (0, 0) h.heap]; rfl
theorem BX.later {W W' : World} {b : Nat} {s : ByteArray} (h : BX W b s) (hb : Below W.heap.size W W') : BX W' b s := ⟨(hb.block b h.lt).trans h.heap⟩
/-- One name in another one's place. -/
def rnB (a b s : ByteArray) : ByteArray := if s = a then b else s
set_option maxRecDepth 100000 in
set_option maxHeartbeats 4000000 in
theorem renamed1_any (a b s : ByteArray) (ha : b.size ≤ 281474976710656) (hs : s.size ≤ 281474976710656) (p q : Nat) (w : World) (h1 : BX w p a) (h2 : BX w q b) : Calls Tryz.prog 48 #[.string s, .pointer (some ⟨p, 0, none⟩), .pointer (some ⟨q, 0, none⟩)] w fun e w' => e = .returned (.string (rnB a b s)) ∧ Below w.heap.size w w' := by
  have y1 := h1.cl
  have y2 := h2.cl
  by_cases e : s = a
  · have te := te_of e
    have HE := (show Hid (rnB a b s = b) from if_pos e)
    have H := (show Hid (∀ _ : Unit, Calls Tryz.prog 49 #[.string b] w fun e w' => e = .returned (.string b) ∧ Below w.heap.size w w') from fun _ => clone_any b ha w)
    clear e h1 h2
    go_enter Tryz.func48, Tryz.ntmps48
    go_wp2_with fail
    refine (H.out ()).mono ?_
    rintro e w2 ⟨rfl, b2⟩
    have HB := (show Hid _ from b2)
    clear H b2 y1 y2
    go_wp2_with fail
    go_ret
    exact ⟨by rw [HE.out]; rfl, HB.out⟩
  · have te := te_no e
    have HE := (show Hid (rnB a b s = s) from if_neg e)
    have H := (show Hid (∀ _ : Unit, Calls Tryz.prog 49 #[.string s] w fun e w' => e = .returned (.string s) ∧ Below w.heap.size w w') from fun _ => clone_any s hs w)
    clear e h1 h2
    go_enter Tryz.func48, Tryz.ntmps48
    go_wp2_with fail
    refine (H.out ()).mono ?_
    rintro e w2 ⟨rfl, b2⟩
    have HB := (show Hid _ from b2)
    clear H b2 y1 y2
    go_wp2_with fail
    go_ret
    exact ⟨by rw [HE.out]; rfl, HB.out⟩
end Go.Proofs.YtppggnmlbcdegabGreat.N

namespace Go.Proofs.YtppggnmlbcdegabGreat.T
open Go.RowKit
def asText (l : List Int) : ByteArray := l.foldl (fun r n => r.push (UInt8.ofNat n.toNat)) ByteArray.empty
theorem asText_data (l : List Int) : (asText l).data.toList = l.map (fun n => UInt8.ofNat n.toNat) := by
  have key : ∀ (l : List Int) (s : ByteArray), (l.foldl (fun r n => r.push (UInt8.ofNat n.toNat)) s).data.toList = s.data.toList ++ l.map (fun n => UInt8.ofNat n.toNat) := by
    intro l
    induction l with
    | nil => intro s; simp
    | cons b l ih => intro s; rw [List.foldl_cons, ih]; simp [ByteArray.push]
  have := key l ByteArray.empty
  simpa [asText] using this
theorem asText_eq (l : List Int) : asText l = ⟨(l.map fun n => UInt8.ofNat n.toNat).toArray⟩ := by
  have h := asText_data l
  cases ht : asText l with
  | mk d =>
    rw [ht] at h
    cases d with
    | mk x => simp at h; rw [h]
def byl (s : ByteArray) : List Int := s.data.toList.map fun c => (c.toNat : Int)
theorem byl_len (s : ByteArray) : (byl s).length = s.size := by unfold byl; rw [List.length_map]; rfl
theorem byl_get (s : ByteArray) (k : Nat) (h : k < s.size) : (byl s)[k]? = some (s[k].toNat : Int) := by
  unfold byl
  rw [List.getElem?_map, List.getElem?_eq_getElem (by simpa using h)]
  rfl
theorem asText_byl (s : ByteArray) : asText (byl s) = s := by
  rw [asText_eq]
  unfold byl
  rw [List.map_map]
  have : (List.map ((fun n : Int => UInt8.ofNat n.toNat) ∘ fun c : UInt8 => (c.toNat : Int)) s.data.toList) = s.data.toList := by
    conv => rhs; rw [← List.map_id s.data.toList]
    refine List.map_congr_left fun c _ => ?_
    simp
  rw [this]
theorem conv_bytes (s : ByteArray) (w : World) : (convert 9 105 (.string s)).run Tryz.prog w = .ok (.slice (some ⟨w.heap.size, 0, none⟩) s.size (grownCap w s.size 0 5)) (Lib.bytesWorld w 5 s) :=
  Lib.run_convert_string_bytes w 9 105 5 s Tryz.underlying9 Tryz.underlying105 Tryz.underlying5
theorem conv_again (s : ByteArray) (w : World) (c : Nat) : (convert 105 9 (.slice (some ⟨w.heap.size, 0, none⟩) s.size c)).run Tryz.prog (Lib.bytesWorld w 5 s) = .ok (.string s) (Lib.bytesWorld w 5 s) := by
  rw [run_convert_bytes_string _ 105 9 5 _ _ _ Tryz.underlying105 Tryz.underlying5 Tryz.underlying9]
  have h := run_bytesToString (P := Tryz.prog) (Lib.bytesWorld w 5 s) ⟨w.heap.size, 0, none⟩ s.size c (byl s) ?_
  · rw [h]; exact congrArg (fun x => Result.ok (Value.string x) _) (asText_byl s)
  · have h2 := run_loadCells_list (P := Tryz.prog) (w := Lib.bytesWorld w 5 s) ⟨w.heap.size, 0, none⟩ ((byl s).map (Value.int .u8)) (fun j u hj => by
      rw [List.getElem?_map] at hj
      have hlt : j < s.size := by
        by_cases q : j < s.size
        · exact q
        · rw [List.getElem?_eq_none (by rw [byl_len]; omega)] at hj; cases hj
      rw [byl_get s j hlt] at hj
      cases hj
      have h3 := Lib.bytesWorld_cell w 5 s j hlt
      rw [Addr.add_lit, Nat.zero_add, h3]
      have : s.data.toList.getD j 0 = s[j] := by
        rw [List.getD_eq_getElem?_getD, List.getElem?_eq_getElem (by simpa using hlt)]; rfl
      rw [this])
    rwa [List.length_map, byl_len] at h2

/-- A node in a box that is the call's own. -/
structure NX (W : World) (b : Nat) (n : Nd) : Prop where
  heap : W.heap[b]? = some (.cells #[.int .i64 n.op, .int .i64 n.nn, .string n.tx, .int .u64 n.s0, .int .u64 n.s1, .int .u64 n.s2, .int .u64 n.s3] 53 (0, 0))
theorem NX.lt {W : World} {b : Nat} {n : Nd} (h : NX W b n) : b < W.heap.size := (Array.getElem?_eq_some_iff.1 h.heap).1
theorem NX.same {W W' : World} {b : Nat} {n : Nd} (h : NX W b n) (hb : W'.heap[b]? = W.heap[b]?) : NX W' b n := ⟨hb.trans h.heap⟩
theorem NX.nb {W : World} {b : Nat} {n : Nd} (h : NX W b n) : NB W b 0 n := by
  have key : ∀ (j : Nat) u, (#[Value.int .i64 n.op, .int .i64 n.nn, .string n.tx, .int .u64 n.s0, .int .u64 n.s1, .int .u64 n.s2, .int .u64 n.s3] : Array Value)[j]? = some u → W.cell? ⟨b, j, none⟩ = some u := fun j u hu => by
    rw [cell_of_row W b j _ 53 (0, 0) h.heap]
    exact hu
  exact ⟨key 0 _ rfl, key 1 _ rfl, key 2 _ rfl, key 3 _ rfl, key 4 _ rfl, key 5 _ rfl, key 6 _ rfl⟩
theorem NX.fz {W : World} {b : Nat} {n : Nd} (h : NX W b n) (j : Nat) : W.frozen? ⟨b, j, none⟩ = false := frozen_of_row W b j _ 53 h.heap
theorem NX.tx {W : World} {b : Nat} {n : Nd} (h : NX W b n) : NX (W.setCell ⟨b, 2, none⟩ (.string n.tx)) b n := ⟨by rw [heap_setCell_same W b 2 _ 53 _ h.heap]; rfl⟩

set_option maxRecDepth 100000 in
set_option maxHeartbeats 4000000 in
theorem copied_any (n : Nd) (w : World) : Calls Tryz.prog 78 #[ndG n] w fun e w' => e = .returned (ndG n) ∧ Below w.heap.size w w' := by
  obtain ⟨W2, hW2⟩ : ∃ W2, W2 = (w.alloc (.cells #[.int .i64 n.op, .int .i64 n.nn, .string n.tx, .int .u64 n.s0, .int .u64 n.s1, .int .u64 n.s2, .int .u64 n.s3] 53)).alloc (.cells #[.int .i64 0, .int .i64 0, .string ⟨#[]⟩, .int .u64 0, .int .u64 0, .int .u64 0, .int .u64 0] 53) := ⟨_, rfl⟩
  have hx1 : NX W2 w.heap.size n := by
    rw [hW2]
    exact NX.same ⟨heap_alloc_new w _⟩ ((below_box (w.alloc (ndO n)) _).block _ (by simp))
  have hx2 : NX W2 (w.heap.size + 1) (zN 0) := by
    rw [hW2]
    have h := heap_alloc_new (w.alloc (ndO n)) (ndO (zN 0))
    rw [World.size_alloc] at h
    exact ⟨h⟩
  have hB : Below w.heap.size w W2 := by rw [hW2]; exact (below_box w _).alloc (below_box w _).size _
  have hs2 : W2.heap.size = w.heap.size + 2 := by rw [hW2]; simp
  have hb3 := Lib.bytesWorld_below W2 5 n.tx
  have hx1' : NX (Lib.bytesWorld W2 5 n.tx) w.heap.size n := hx1.same (hb3.block _ hx1.lt)
  have hx2' : NX (Lib.bytesWorld W2 5 n.tx) (w.heap.size + 1) (zN 0) := hx2.same (hb3.block _ hx2.lt)
  have HB3 := (show Hid (Below w.heap.size w (Lib.bytesWorld W2 5 n.tx)) from hB.trans (hb3.mono (by omega)))
  have hc1 := conv_bytes n.tx
  have hc2 : ∀ c, (convert 105 9 (.slice (some ⟨w.heap.size + 1 + 1, 0, none⟩) n.tx.size c)).run Tryz.prog (Lib.bytesWorld W2 5 n.tx) = .ok (.string n.tx) (Lib.bytesWorld W2 5 n.tx) := fun c => by
    have h := conv_again n.tx W2 c
    rw [hs2] at h
    exact h
  have HX1 := (show Hid (NX (Lib.bytesWorld W2 5 n.tx) w.heap.size n) from hx1')
  have HX2 := (show Hid (NX (Lib.bytesWorld W2 5 n.tx) (w.heap.size + 1) (zN 0)) from hx2')
  have HY1 := (show Hid (NX ((Lib.bytesWorld W2 5 n.tx).setCell ⟨w.heap.size, 2, none⟩ (.string n.tx)) w.heap.size n) from HX1.out.tx)
  have HY2 := (show Hid (NX ((Lib.bytesWorld W2 5 n.tx).setCell ⟨w.heap.size, 2, none⟩ (.string n.tx)) (w.heap.size + 1) (zN 0)) from HX2.out.same (heap_setCell_other _ _ _ _ (by simp)))
  have HY3 := (show Hid (NX (((((((((Lib.bytesWorld W2 5 n.tx).setCell ⟨w.heap.size, 2, none⟩ (.string n.tx)).setCell ⟨w.heap.size + 1, 0, none⟩ (.int .i64 n.op)).setCell ⟨w.heap.size + 1, 1, none⟩ (.int .i64 n.nn)).setCell ⟨w.heap.size + 1, 2, none⟩ (.string n.tx)).setCell ⟨w.heap.size + 1, 3, none⟩ (.int .u64 n.s0)).setCell ⟨w.heap.size + 1, 4, none⟩ (.int .u64 n.s1)).setCell ⟨w.heap.size + 1, 5, none⟩ (.int .u64 n.s2)).setCell ⟨w.heap.size + 1, 6, none⟩ (.int .u64 n.s3)) (w.heap.size + 1) n) from ⟨by
    have h := HY2.out.heap
    have h0 := heap_setCell_same _ (w.heap.size + 1) 0 _ 53 (.int .i64 n.op) h
    have h1 := heap_setCell_same _ (w.heap.size + 1) 1 _ 53 (.int .i64 n.nn) h0
    have h2 := heap_setCell_same _ (w.heap.size + 1) 2 _ 53 (.string n.tx) h1
    have h3 := heap_setCell_same _ (w.heap.size + 1) 3 _ 53 (.int .u64 n.s0) h2
    have h4 := heap_setCell_same _ (w.heap.size + 1) 4 _ 53 (.int .u64 n.s1) h3
    have h5 := heap_setCell_same _ (w.heap.size + 1) 5 _ 53 (.int .u64 n.s2) h4
    have h6 := heap_setCell_same _ (w.heap.size + 1) 6 _ 53 (.int .u64 n.s3) h5
    rw [h6]; rfl⟩)
  have HU := (show Hid (Below w.heap.size w (((((((((Lib.bytesWorld W2 5 n.tx).setCell ⟨w.heap.size, 2, none⟩ (.string n.tx)).setCell ⟨w.heap.size + 1, 0, none⟩ (.int .i64 n.op)).setCell ⟨w.heap.size + 1, 1, none⟩ (.int .i64 n.nn)).setCell ⟨w.heap.size + 1, 2, none⟩ (.string n.tx)).setCell ⟨w.heap.size + 1, 3, none⟩ (.int .u64 n.s0)).setCell ⟨w.heap.size + 1, 4, none⟩ (.int .u64 n.s1)).setCell ⟨w.heap.size + 1, 5, none⟩ (.int .u64 n.s2)).setCell ⟨w.heap.size + 1, 6, none⟩ (.int .u64 n.s3))) from (((((((HB3.out.setCell (by simp) _).setCell (by simp) _).setCell (by simp) _).setCell (by simp) _).setCell (by simp) _).setCell (by simp) _).setCell (by simp) _).setCell (by simp) _)
  have k2 := HX1.out.nb.c2
  have f2 := HX1.out.fz 2
  rw [Nat.zero_add] at k2
  obtain ⟨c0, c1, c2, c3, c4, c5, c6⟩ := HY1.out.nb
  obtain ⟨d0, d1, d2, d3, d4, d5, d6⟩ := HY2.out.nb
  simp only [Nat.zero_add, zN] at c0 c1 c2 c3 c4 c5 c6 d0 d1 d2 d3 d4 d5 d6
  have g0 := HY2.out.fz 0
  have g1 := HY2.out.fz 1
  have g2 := HY2.out.fz 2
  have g3 := HY2.out.fz 3
  have g4 := HY2.out.fz 4
  have g5 := HY2.out.fz 5
  have g6 := HY2.out.fz 6
  clear hx1 hx2 hB hb3 hx1' hx2' hs2 HX1 HX2 HB3 HY1 HY2
  subst hW2
  go_enter Tryz.func78, Tryz.ntmps78
  go_wp2_with fail
  generalize (((((((((Lib.bytesWorld ((w.alloc (.cells #[.int .i64 n.op, .int .i64 n.nn, .string n.tx, .int .u64 n.s0, .int .u64 n.s1, .int .u64 n.s2, .int .u64 n.s3] 53)).alloc (.cells #[.int .i64 0, .int .i64 0, .string ⟨#[]⟩, .int .u64 0, .int .u64 0, .int .u64 0, .int .u64 0] 53)) 5 n.tx).setCell ⟨w.heap.size, 2, none⟩ (.string n.tx)).setCell ⟨w.heap.size + 1, 0, none⟩ (.int .i64 n.op)).setCell ⟨w.heap.size + 1, 1, none⟩ (.int .i64 n.nn)).setCell ⟨w.heap.size + 1, 2, none⟩ (.string n.tx)).setCell ⟨w.heap.size + 1, 3, none⟩ (.int .u64 n.s0)).setCell ⟨w.heap.size + 1, 4, none⟩ (.int .u64 n.s1)).setCell ⟨w.heap.size + 1, 5, none⟩ (.int .u64 n.s2)).setCell ⟨w.heap.size + 1, 6, none⟩ (.int .u64 n.s3)) = W9 at *
  clear c0 c1 c2 c3 c4 c5 c6 d0 d1 d2 d3 d4 d5 d6 g0 g1 g2 g3 g4 g5 g6 k2 f2 hc1 hc2
  obtain ⟨c0, c1, c2, c3, c4, c5, c6⟩ := HY3.out.nb
  simp only [Nat.zero_add] at c0 c1 c2 c3 c4 c5 c6
  refine bodyPost_ret (v := ndG n) (by simp [results, Tryz.results78, go_sem, c0, c1, c2, c3, c4, c5, c6]) rfl ⟨rfl, HU.out⟩
end Go.Proofs.YtppggnmlbcdegabGreat.T

namespace Go.Proofs.YtppggnmlbcdegabGreat.T
open Go.RowKit
set_option maxRecDepth 100000 in
set_option maxHeartbeats 4000000 in
theorem copy_any (ad : Addr) (c : Nat) (L : List Nd) (w : World) (hl : L.length ≤ 2048) (hc : RdN w (some ad) L) :
    Calls Tryz.prog 45 #[.slice (some ad) L.length c] w fun e w' => (∃ v, e = .returned v ∧ w'.ownsRow w.heap.size 53 7 v L.length (ndc L)) ∧ Below w.heap.size w w' := by
  obtain ⟨i0, hinf, hz0, hz1, hz2⟩ := info_parts Tryz.info43
  have hO := own_empty w
  have HB := (show Hid (Below w.heap.size w (w.alloc (.cells #[] 53))) from below_box _ _)
  have HC := (show Hid (∀ (j : Nat) u, (ndc L)[j]? = some u → (w.alloc (.cells #[] 53)).cell? (ad.add j) = some u) from fun j u hj => by
    have h1 := in_cells hc j u hj
    have h2 := World.block_lt_of_cell? w _ h1
    exact ((below_box w (.cells #[] 53)).cell (p := ad.add j) h2).trans h1)
  have HI := (show Hid ((ndc L).length = L.length * 7 ∧ ∀ u ∈ ndc L, u.oneCell' = true) from ⟨ndc_len L, ndc_cell L⟩)
  clear hc
  go_enter Tryz.func45, Tryz.ntmps45
  go_wp2_with (at_builtin; refine wpList_append_own _ rfl _ _ 42 rfl w.heap.size 53 i0 zA 7 64 Tryz.underlying42 hinf hz0 hz1 hz2 rfl (by decide) _ _ _ rfl hO ad L.length c (ndc L) rfl HI.out.1 HC.out HI.out.2 ?c3 ?c4 ?c5 ?_)
  case c3 => unfold maxLen; omega
  case c4 => omega
  case c5 => simp
  intro v1 w1 hown hgrow _
  have HB1 := (show Hid (Below w.heap.size w w1) from HB.out.grown hgrow (by simp) (fun k e => (hO.lt k e).1))
  have HO := (show Hid (w1.ownsRow w.heap.size 53 7 v1 L.length (ndc L)) from hown)
  clear hgrow hO HB hown HC HI
  go_wp2_with fail
  go_ret
  exact ⟨⟨_, rfl, HO.out⟩, HB1.out⟩
end Go.Proofs.YtppggnmlbcdegabGreat.T

namespace Go.Proofs.YtppggnmlbcdegabGreat.T
open Go.RowKit
theorem enters47 (args : Array Value) (w : World) : (callFunc 78 args).run Tryz.prog w = .ok (.enter 78 args) w := enters_of Tryz.func78 (by kernel_rfl) rfl args w
theorem step_call47 {ops : Array Oper} {o : Oper} {a : Act} {w : World} {K : Act → World → Prop} {Q : Exit → Act → World → Prop} {E : Prop} (hgd : o.guard = none) (x : Operand) (ho : o.op = .call { callee := .value (.func 78), args := #[x], argTypes := #[53] }) (v : Value) (hx : a.eval x = v)
    (hc : Calls Tryz.prog 78 #[v] w fun e w' => ∃ r, e = .returned r ∧ K (a.put o.dst r) w') :
    if Region.wanted o (yielded ops a.tmps) = true then Oper.wp Tryz.prog o a w K Q else E := by
  have hw : Region.wanted o (yielded ops a.tmps) = true := by simp [Region.wanted, hgd]
  rw [if_pos hw]
  have h47 := enters47
  have he : (execOp a.eval o).run Tryz.prog w = .ok (.enter 78 #[v]) w := by
    unfold execOp
    simp [ho, go_sem, invoke, h47]
    rw [← hx]
    cases x <;> simp [Act.eval]
  unfold Oper.wp
  rw [he, Oper.upon_enter]
  refine hc.mono ?_
  rintro e w' ⟨r, rfl, hk⟩
  exact hk
end Go.Proofs.YtppggnmlbcdegabGreat.T
