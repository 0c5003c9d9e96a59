/- DERIVED. Plain mathematics and walks, laid together (9). -/
import Derived.Deep.RegionLaw
import Derived.Shelf.Sort.AssemblyIn
import Derived.Sort.EveryDepth
import Derived.Test.YtbipjdgholdhcabGreatProg
import Derived.Shelf.Slices.In.SortNone
import Derived.Sort.OwnSortedInts
import Derived.Maps.Range
import Derived.Maps.Views
import Derived.Sort.KeysCollected
import Derived.Laws.OwnMore
import Derived.Test.YtbipjdgholdhcabGreatFr08
namespace Go.Proofs.YtbipjdgholdhcabGreat.N
open Go.RowKit Go.Maps
open Go.Proofs.YtbipjdgholdhcabGreat.T
theorem tw_fd {gs : GL} {k : Nat} {g : ByteArray × List Nd} (hg : gs[k]? = some g) : tw gs g.1 k = true ↔ fdN gs g.1 < (k : Int) := by
  unfold tw fdN
  cases h : fdG gs g.1 with
  | some i => simp
  | none => exact absurd rfl (fdG_none.1 h g (List.mem_of_getElem? hg))
/-- The boxes of a grammar and of a spot. -/
structure DcS (w wr : World) (u : Value) : Prop where
  b : Below w.heap.size w wr
  x : GX wr w.heap.size u
  s : SX wr (w.heap.size + 1) 0 0
theorem DcS.later {w wr W' : World} {u : Value} (h : DcS w wr u) (hb : Below wr.heap.size wr W') : DcS w W' u := ⟨h.b.trans (hb.mono h.b.size), h.x.below hb, h.s.below hb⟩
set_option maxRecDepth 100000 in
set_option maxHeartbeats 32000000 in
theorem checkD_any (gs : GL) (A : Option Addr) (c : Nat) (w : World) (hp : GI w A gs) :
    Calls Tryz.prog 33 #[.agg #[.slice A gs.length c]] w fun e w' => e = .returned (.tuple #[.agg #[.int .i64 (ckG gs).1.1, .int .i64 (ckG gs).1.2], .int .i64 (ckG gs).2]) ∧ Below w.heap.size w w' := by
  obtain ⟨w1, hw1⟩ : ∃ w1, w1 = (w.alloc (.cells #[.slice A gs.length c] 24)).alloc (.cells #[.int .i64 0, .int .i64 0] 31) := ⟨_, rfl⟩
  have HS : Hid (DcS w w1 (.slice A gs.length c)) := by
    show DcS _ _ _
    rw [hw1]
    exact ⟨((Below.refl _ _).alloc (Nat.le_refl _) _).alloc (by rw [World.size_alloc]; omega) _, (GX.mk (heap_alloc_new w _)).below (below_box _ _), ⟨by have h := heap_alloc_new (w.alloc (.cells #[.slice A gs.length c] 24)) (.cells #[.int .i64 0, .int .i64 0] 31); rw [World.size_alloc] at h; exact h⟩⟩
  have q1 := HS.out.x.cl
  have hl := hp.l
  by_cases h0 : gs.length = 0
  · have HF := (show Hid (ckG gs = ((0, 0), 3)) from by show ckG gs = _; unfold ckG; rw [if_pos h0])
    have t0 : ((gs.length : Int) == 0) = true := beq_iff_eq.2 (by omega)
    have HBz := (show Hid (Below w.heap.size w w1) from HS.out.b)
    have c0 := HS.out.s.c0
    have c1 := HS.out.s.c1
    have f0 := HS.out.s.fz 0
    have f1 := HS.out.s.fz 1
    clear h0 hp HS
    go_enter Tryz.func33, Tryz.ntmps33
    go_wp2_with fail
    rw [← hw1]
    go_wp2_with fail
    refine bodyPost_ret (v := .tuple #[.agg #[.int .i64 0, .int .i64 0], .int .i64 3]) (by simp [results, Tryz.results33, go_sem, c0, c1]) rfl ⟨by rw [HF.out]; try rfl, HBz.out⟩
  have t0 : ((gs.length : Int) == 0) = false := beq_eq_false_iff_ne.2 (by omega)
  by_cases h2 : 200 < gs.length
  · have HF := (show Hid (ckG gs = ((0, 0), 2)) from by show ckG gs = _; unfold ckG; rw [if_neg h0, if_pos h2])
    have t2 : (200 : Int) < (gs.length : Int) := by omega
    have HBz := (show Hid (Below w.heap.size w w1) from HS.out.b)
    have c0 := HS.out.s.c0
    have c1 := HS.out.s.c1
    have f0 := HS.out.s.fz 0
    have f1 := HS.out.s.fz 1
    clear h0 hp h2 HS
    go_enter Tryz.func33, Tryz.ntmps33
    go_wp2_with fail
    rw [← hw1]
    go_wp2_with fail
    refine bodyPost_ret (v := .tuple #[.agg #[.int .i64 0, .int .i64 0], .int .i64 2]) (by simp [results, Tryz.results33, go_sem, c0, c1]) rfl ⟨by rw [HF.out]; try rfl, HBz.out⟩
  have t2 : ¬ (200 : Int) < (gs.length : Int) := by omega
  have hl200 : gs.length ≤ 200 := by omega
  have HE := (show Hid (∀ r, c1G gs 0 0 gs = r → r.2 ≠ 0 → ckG gs = r) from ckG_err h0 h2)
  have HEu := (show Hid (c1G gs 0 0 gs = ((0, 0), 0) → ckG gs = unG gs 0 gs) from ckG_un h0 h2)
  have HP := (show Hid (GI w A gs) from hp)
  have HG := (show Hid (∀ k, k < gs.length → ∃ g, gs[k]? = some g ∧ g.1.size ≤ 140737488355328 ∧ g.2.length ≤ 140737488355328 ∧ (∀ n ∈ g.2, n.tx.size ≤ 140737488355328) ∧ gs.drop k = g :: gs.drop (k + 1)) from fun k hk => ⟨_, List.getElem?_eq_getElem hk, (hp.t _ (List.getElem_mem hk)).1, (hp.t _ (List.getElem_mem hk)).2.1, (hp.t _ (List.getElem_mem hk)).2.2, List.drop_eq_getElem_cons hk⟩)
  clear h0 hp h2
  go_enter Tryz.func33, Tryz.ntmps33
  go_wp2_with fail
  rw [← hw1]
  clear hw1
  go_wp2_with fail
  clear q1
  go_loopw [4, 5] (fun v t wr => ∃ k m : Nat, k ≤ gs.length ∧ t = .int .i64 k ∧ v = .int .i64 m ∧ m ≤ 2048 ∧ Hid (c1G gs 0 0 gs = c1G gs k m (gs.drop k)) ∧ Hid (DcS w wr (.slice A gs.length c))) (fun _ t _ => gs.length - (intOf t).toNat)
  case atStart => exact ⟨0, 0, by omega, by go_num, by go_num, by omega, rfl, HS⟩
  case round =>
    obtain ⟨k, m, hk, rfl, rfl, hm, HX0, HW⟩ := hrel
    clear HS
    have q1 := HW.out.x.cl
    by_cases hlt : k < gs.length
    · obtain ⟨g, hg, s1, s2, s3, hd⟩ := HG.out k hlt
      obtain ⟨b, o, A2, c2, rfl, lb, x0, x1, r2⟩ := HP.out.d k g hg
      have x0' := (HW.out.b.cell (p := ⟨b, o + k * 2, none⟩) lb).trans x0
      have x1' := (HW.out.b.cell (p := ⟨b, o + k * 2 + 1, none⟩) lb).trans x1
      clear x0 x1
      have z0 : (0 : Int) ≤ (k : Int) := by omega
      have z1 : (k : Int) < (gs.length : Int) := by omega
      have HR0 := (show Hid (RB (wr.alloc (.cells #[.string g.1, .slice A2 g.2.length c2] 52)) wr.heap.size g.1 (.slice A2 g.2.length c2)) from ⟨heap_alloc_new wr _⟩)
      have HS0 := (show Hid (DcS w (wr.alloc (.cells #[.string g.1, .slice A2 g.2.length c2] 52)) (.slice (some ⟨b, o, none⟩) gs.length c)) from HW.out.later (below_box _ _))
      have HNm : Hid (∀ W, Calls Tryz.prog 18 #[.string g.1] W fun e W' => e = .returned (.bool (nmB g.1)) ∧ W' = W) := fun W => nameR_any g.1 s1 W
      have HFi : Hid (∀ W, Below w.heap.size w W → Calls Tryz.prog 19 #[.agg #[.slice (some ⟨b, o, none⟩) gs.length c], .string g.1] W fun e w' => e = .returned (.int .i64 (fdN gs g.1)) ∧ Below W.heap.size W w') := fun W hW => find_any gs (some ⟨b, o, none⟩) c g.1 W (HP.out.later hW)
      have HCk : Hid (∀ W, Below w.heap.size w W → Calls Tryz.prog 52 #[.slice A2 g.2.length c2] W fun e w' => e = .returned (.tuple #[.int .i64 (ck g.2).1, .int .i64 (ck g.2).2]) ∧ Below W.heap.size W w') := fun W hW => checkR_any g.2 A2 c2 s2 s3 W (r2.below hW (Nat.le_refl _))
      have hgk := hg
      have HX1 := (show Hid (c1G gs 0 0 gs = if ¬ (nmB g.1 = true ∨ (g.1.size = 0 ∧ gs.length = 1)) then ((k, 0), 6) else if tw gs g.1 k = true then ((k, 0), 80) else if (ck g.2).2 ≠ 0 then ((k, (ck g.2).1), (ck g.2).2) else if 2048 < m + g.2.length then ((k, 0), 2) else c1G gs (k + 1) (m + g.2.length) (gs.drop (k + 1))) from by show c1G gs 0 0 gs = _; rw [HX0.out, hd, c1G])
      clear hg r2 s2 s3 HW HX0 hd s1
      have q3 := HS0.out.x.cl
      have q4 := HR0.out.c0
      cases hnb : nmB g.1
      · rw [hnb] at HNm
        by_cases hs0 : g.1.size = 0
        · have te : (g.1.toList == []) = true := by
            have e := emp_t hs0
            rw [List.isEmpty_iff] at e
            rw [e]; rfl
          have te2 := emp_t hs0
          by_cases hl1 : gs.length = 1
          · have tl : ((gs.length : Int) == 1) = true := beq_iff_eq.2 (by omega)
            have HX := (show Hid (c1G gs 0 0 gs = if tw gs g.1 k = true then ((k, 0), 80) else if (ck g.2).2 ≠ 0 then ((k, (ck g.2).1), (ck g.2).2) else if 2048 < m + g.2.length then ((k, 0), 2) else c1G gs (k + 1) (m + g.2.length) (gs.drop (k + 1))) from by show c1G gs 0 0 gs = _; rw [HX1.out, if_neg (fun q => q (.inr ⟨hs0, hl1⟩))])
            clear HX1 hl1 hs0 hnb HEu
            go_wp2_with fail
            refine (HNm.out _).mono ?_
            rintro e wX ⟨rfl, rfl⟩
            have HS := HS0
            have HR := HR0
            clear HNm HR0 HS0
            go_wp2_with fail
            refine (HFi.out _ HS.out.b).mono ?_
            rintro e w4 ⟨rfl, b4⟩
            have HS4 := (show Hid (DcS w w4 (.slice (some ⟨b, o, none⟩) gs.length c)) from HS.out.later b4)
            have HR4 := (show Hid (RB w4 wr.heap.size g.1 (.slice A2 g.2.length c2)) from HR.out.later b4)
            have y1 := HR4.out.c1
            clear HFi b4 HS HR
            have HS := HS4
            clear HS4
            by_cases htw : tw gs g.1 k = true
            · have HF := (show Hid (ckG gs = ((k, 0), 80)) from HE.out _ (by rw [HX.out, if_pos htw]) (by show (80 : Int) ≠ 0; decide))
              have tt : fdN gs g.1 < (k : Int) := (tw_fd hgk).1 htw
              clear HX HE HCk HR4 HG HP htw hgk y1
              have HZ := (show Hid (SX ((w4.setCell ⟨w.heap.size + 1, 0, none⟩ (.int .i64 (k : Int))).setCell ⟨w.heap.size + 1, 1, none⟩ (.int .i64 0)) (w.heap.size + 1) (k : Int) 0) from HS.out.s.set _ _)
              have HBz := (show Hid (Below w.heap.size w ((w4.setCell ⟨w.heap.size + 1, 0, none⟩ (.int .i64 (k : Int))).setCell ⟨w.heap.size + 1, 1, none⟩ (.int .i64 0))) from set_below (set_below HS.out.b (Nat.le_succ _)) (Nat.le_succ _))
              have c0 := HS.out.s.c0
              have c1 := HS.out.s.c1
              have f0 := HS.out.s.fz 0
              have f1 := HS.out.s.fz 1
              clear HS
              go_wp2_with fail
              have d0 := HZ.out.c0
              have d1 := HZ.out.c1
              clear c0 c1 f0 f1
              generalize (w4.setCell ⟨w.heap.size + 1, 0, none⟩ (.int .i64 (k : Int))).setCell ⟨w.heap.size + 1, 1, none⟩ (.int .i64 0) = wZ at *
              refine bodyPost_ret (v := .tuple #[.agg #[.int .i64 (k : Int), .int .i64 0], .int .i64 80]) (by simp [results, Tryz.results33, go_sem, d0, d1]) rfl ⟨by rw [HF.out]; try rfl, HBz.out⟩
            · have tt : ¬ fdN gs g.1 < (k : Int) := fun q => htw ((tw_fd hgk).2 q)
              have HX2 := (show Hid (c1G gs 0 0 gs = if (ck g.2).2 ≠ 0 then ((k, (ck g.2).1), (ck g.2).2) else if 2048 < m + g.2.length then ((k, 0), 2) else c1G gs (k + 1) (m + g.2.length) (gs.drop (k + 1))) from by show c1G gs 0 0 gs = _; rw [HX.out, if_neg htw])
              clear HX htw hgk
              go_wp2_with fail
              refine (HCk.out _ HS.out.b).mono ?_
              rintro e w5 ⟨rfl, b5⟩
              have HS5 := (show Hid (DcS w w5 (.slice (some ⟨b, o, none⟩) gs.length c)) from HS.out.later b5)
              have y1' := (HR4.out.later b5).c1
              clear HCk b5 HS HR4 y1 tt
              have HS := HS5
              clear HS5
              by_cases hc : (ck g.2).2 = 0
              · have tc : ((ck g.2).2 != 0) = false := by rw [hc]; rfl
                have hg3 : g.2.length ≤ 2048 := by
                  by_cases q : g.2.length ≤ 2048
                  · exact q
                  · have := ck_long (L := g.2) (by omega)
                    rw [this] at hc
                    exact absurd hc (by decide)
                have HV := (show Hid (c1G gs 0 0 gs = if 2048 < m + g.2.length then ((k, 0), 2) else c1G gs (k + 1) (m + g.2.length) (gs.drop (k + 1))) from by show c1G gs 0 0 gs = _; rw [HX2.out, if_neg (by rw [hc]; simp)])
                generalize hcc : (ck g.2).2 = cc2 at *
                clear hcc HX2
                by_cases hn : 2048 < m + g.2.length
                · have HF := (show Hid (ckG gs = ((k, 0), 2)) from HE.out _ (by rw [HV.out, if_pos hn]) (by show (2 : Int) ≠ 0; decide))
                  have tn : (2048 : Int) < (m : Int) + (g.2.length : Int) := by omega
                  clear HV HE HG HP hn
                  have HZ := (show Hid (SX ((w5.setCell ⟨w.heap.size + 1, 0, none⟩ (.int .i64 (k : Int))).setCell ⟨w.heap.size + 1, 1, none⟩ (.int .i64 0)) (w.heap.size + 1) (k : Int) 0) from HS.out.s.set _ _)
                  have HBz := (show Hid (Below w.heap.size w ((w5.setCell ⟨w.heap.size + 1, 0, none⟩ (.int .i64 (k : Int))).setCell ⟨w.heap.size + 1, 1, none⟩ (.int .i64 0))) from set_below (set_below HS.out.b (Nat.le_succ _)) (Nat.le_succ _))
                  have c0 := HS.out.s.c0
                  have c1 := HS.out.s.c1
                  have f0 := HS.out.s.fz 0
                  have f1 := HS.out.s.fz 1
                  clear HS
                  go_wp2_with fail
                  have d0 := HZ.out.c0
                  have d1 := HZ.out.c1
                  clear c0 c1 f0 f1
                  generalize (w5.setCell ⟨w.heap.size + 1, 0, none⟩ (.int .i64 (k : Int))).setCell ⟨w.heap.size + 1, 1, none⟩ (.int .i64 0) = wZ at *
                  refine bodyPost_ret (v := .tuple #[.agg #[.int .i64 (k : Int), .int .i64 0], .int .i64 2]) (by simp [results, Tryz.results33, go_sem, d0, d1]) rfl ⟨by rw [HF.out]; try rfl, HBz.out⟩
                · have HX3 := (show Hid (c1G gs 0 0 gs = c1G gs (k + 1) (m + g.2.length) (gs.drop (k + 1))) from by show c1G gs 0 0 gs = _; rw [HV.out, if_neg hn])
                  have tn : ¬ (2048 : Int) < (m : Int) + (g.2.length : Int) := by omega
                  clear HV
                  go_wp2_with fail
                  go_roundw
                  case rel => exact ⟨k + 1, m + g.2.length, by omega, by go_num, by go_num, by omega, HX3, HS⟩
                  case measure => simp [intOf]; omega
              · have tc : ((ck g.2).2 != 0) = true := by rw [bne, beq_eq_false_iff_ne.2 hc]; rfl
                have HF := (show Hid (ckG gs = ((k, (ck g.2).1), (ck g.2).2)) from HE.out _ (by rw [HX2.out, if_pos hc]) hc)
                clear HX2 HE HG HP hc
                generalize hcc : (ck g.2).2 = cc2 at *
                generalize hcd : (ck g.2).1 = cc1 at *
                clear hcc hcd
                have HZ := (show Hid (SX ((w5.setCell ⟨w.heap.size + 1, 0, none⟩ (.int .i64 (k : Int))).setCell ⟨w.heap.size + 1, 1, none⟩ (.int .i64 (cc1 : Int))) (w.heap.size + 1) (k : Int) (cc1 : Int)) from HS.out.s.set _ _)
                have HBz := (show Hid (Below w.heap.size w ((w5.setCell ⟨w.heap.size + 1, 0, none⟩ (.int .i64 (k : Int))).setCell ⟨w.heap.size + 1, 1, none⟩ (.int .i64 (cc1 : Int)))) from set_below (set_below HS.out.b (Nat.le_succ _)) (Nat.le_succ _))
                have c0 := HS.out.s.c0
                have c1 := HS.out.s.c1
                have f0 := HS.out.s.fz 0
                have f1 := HS.out.s.fz 1
                clear HS
                go_wp2_with fail
                have d0 := HZ.out.c0
                have d1 := HZ.out.c1
                clear c0 c1 f0 f1
                generalize (w5.setCell ⟨w.heap.size + 1, 0, none⟩ (.int .i64 (k : Int))).setCell ⟨w.heap.size + 1, 1, none⟩ (.int .i64 (cc1 : Int)) = wZ at *
                refine bodyPost_ret (v := .tuple #[.agg #[.int .i64 (k : Int), .int .i64 (cc1 : Int)], .int .i64 cc2]) (by simp [results, Tryz.results33, go_sem, d0, d1]) rfl ⟨by rw [HF.out]; try rfl, HBz.out⟩
          · have tl : ((gs.length : Int) == 1) = false := beq_eq_false_iff_ne.2 (by omega)
            have HF := (show Hid (ckG gs = ((k, 0), 6)) from HE.out _ (by rw [HX1.out, if_pos (by rintro (q | q); rw [hnb] at q; cases q; exact hl1 q.2)]) (by show (6 : Int) ≠ 0; decide))
            clear HX1 HE HG HP hl1 hs0 hgk HCk HEu HFi hnb
            go_wp2_with fail
            refine (HNm.out _).mono ?_
            rintro e wX ⟨rfl, rfl⟩
            have HS := HS0
            clear HNm HR0 HS0
            have HZ := (show Hid (SX (((wr.alloc (.cells #[.string g.1, .slice A2 g.2.length c2] 52)).setCell ⟨w.heap.size + 1, 0, none⟩ (.int .i64 (k : Int))).setCell ⟨w.heap.size + 1, 1, none⟩ (.int .i64 0)) (w.heap.size + 1) (k : Int) 0) from HS.out.s.set _ _)
            have HBz := (show Hid (Below w.heap.size w (((wr.alloc (.cells #[.string g.1, .slice A2 g.2.length c2] 52)).setCell ⟨w.heap.size + 1, 0, none⟩ (.int .i64 (k : Int))).setCell ⟨w.heap.size + 1, 1, none⟩ (.int .i64 0))) from set_below (set_below HS.out.b (Nat.le_succ _)) (Nat.le_succ _))
            have c0 := HS.out.s.c0
            have c1 := HS.out.s.c1
            have f0 := HS.out.s.fz 0
            have f1 := HS.out.s.fz 1
            clear HS
            go_wp2_with fail
            have d0 := HZ.out.c0
            have d1 := HZ.out.c1
            clear c0 c1 f0 f1
            generalize ((wr.alloc (.cells #[.string g.1, .slice A2 g.2.length c2] 52)).setCell ⟨w.heap.size + 1, 0, none⟩ (.int .i64 (k : Int))).setCell ⟨w.heap.size + 1, 1, none⟩ (.int .i64 0) = wZ at *
            refine bodyPost_ret (v := .tuple #[.agg #[.int .i64 (k : Int), .int .i64 0], .int .i64 6]) (by simp [results, Tryz.results33, go_sem, d0, d1]) rfl ⟨by rw [HF.out]; try rfl, HBz.out⟩
        · have te : (g.1.toList == []) = false := by
            have e := emp_f hs0
            cases hl : g.1.toList with
            | nil => rw [hl] at e; cases e
            | cons x r => rfl
          have te2 := emp_f hs0
          have HF := (show Hid (ckG gs = ((k, 0), 6)) from HE.out _ (by rw [HX1.out, if_pos (by rintro (q | q); rw [hnb] at q; cases q; exact hs0 q.1)]) (by show (6 : Int) ≠ 0; decide))
          clear HX1 HE HG HP hs0 hgk HCk HEu HFi hnb
          go_wp2_with fail
          refine (HNm.out _).mono ?_
          rintro e wX ⟨rfl, rfl⟩
          have HS := HS0
          clear HNm HR0 HS0
          have HZ := (show Hid (SX (((wr.alloc (.cells #[.string g.1, .slice A2 g.2.length c2] 52)).setCell ⟨w.heap.size + 1, 0, none⟩ (.int .i64 (k : Int))).setCell ⟨w.heap.size + 1, 1, none⟩ (.int .i64 0)) (w.heap.size + 1) (k : Int) 0) from HS.out.s.set _ _)
          have HBz := (show Hid (Below w.heap.size w (((wr.alloc (.cells #[.string g.1, .slice A2 g.2.length c2] 52)).setCell ⟨w.heap.size + 1, 0, none⟩ (.int .i64 (k : Int))).setCell ⟨w.heap.size + 1, 1, none⟩ (.int .i64 0))) from set_below (set_below HS.out.b (Nat.le_succ _)) (Nat.le_succ _))
          have c0 := HS.out.s.c0
          have c1 := HS.out.s.c1
          have f0 := HS.out.s.fz 0
          have f1 := HS.out.s.fz 1
          clear HS
          go_wp2_with fail
          have d0 := HZ.out.c0
          have d1 := HZ.out.c1
          clear c0 c1 f0 f1
          generalize ((wr.alloc (.cells #[.string g.1, .slice A2 g.2.length c2] 52)).setCell ⟨w.heap.size + 1, 0, none⟩ (.int .i64 (k : Int))).setCell ⟨w.heap.size + 1, 1, none⟩ (.int .i64 0) = wZ at *
          refine bodyPost_ret (v := .tuple #[.agg #[.int .i64 (k : Int), .int .i64 0], .int .i64 6]) (by simp [results, Tryz.results33, go_sem, d0, d1]) rfl ⟨by rw [HF.out]; try rfl, HBz.out⟩
      · rw [hnb] at HNm
        have HX := (show Hid (c1G gs 0 0 gs = if tw gs g.1 k = true then ((k, 0), 80) else if (ck g.2).2 ≠ 0 then ((k, (ck g.2).1), (ck g.2).2) else if 2048 < m + g.2.length then ((k, 0), 2) else c1G gs (k + 1) (m + g.2.length) (gs.drop (k + 1))) from by show c1G gs 0 0 gs = _; rw [HX1.out, if_neg (fun q => q (.inl hnb))])
        clear HX1 hnb HEu
        go_wp2_with fail
        refine (HNm.out _).mono ?_
        rintro e wX ⟨rfl, rfl⟩
        have HS := HS0
        have HR := HR0
        clear HNm HR0 HS0
        go_wp2_with fail
        refine (HFi.out _ HS.out.b).mono ?_
        rintro e w4 ⟨rfl, b4⟩
        have HS4 := (show Hid (DcS w w4 (.slice (some ⟨b, o, none⟩) gs.length c)) from HS.out.later b4)
        have HR4 := (show Hid (RB w4 wr.heap.size g.1 (.slice A2 g.2.length c2)) from HR.out.later b4)
        have y1 := HR4.out.c1
        clear HFi b4 HS HR
        have HS := HS4
        clear HS4
        by_cases htw : tw gs g.1 k = true
        · have HF := (show Hid (ckG gs = ((k, 0), 80)) from HE.out _ (by rw [HX.out, if_pos htw]) (by show (80 : Int) ≠ 0; decide))
          have tt : fdN gs g.1 < (k : Int) := (tw_fd hgk).1 htw
          clear HX HE HCk HR4 HG HP htw hgk y1
          have HZ := (show Hid (SX ((w4.setCell ⟨w.heap.size + 1, 0, none⟩ (.int .i64 (k : Int))).setCell ⟨w.heap.size + 1, 1, none⟩ (.int .i64 0)) (w.heap.size + 1) (k : Int) 0) from HS.out.s.set _ _)
          have HBz := (show Hid (Below w.heap.size w ((w4.setCell ⟨w.heap.size + 1, 0, none⟩ (.int .i64 (k : Int))).setCell ⟨w.heap.size + 1, 1, none⟩ (.int .i64 0))) from set_below (set_below HS.out.b (Nat.le_succ _)) (Nat.le_succ _))
          have c0 := HS.out.s.c0
          have c1 := HS.out.s.c1
          have f0 := HS.out.s.fz 0
          have f1 := HS.out.s.fz 1
          clear HS
          go_wp2_with fail
          have d0 := HZ.out.c0
          have d1 := HZ.out.c1
          clear c0 c1 f0 f1
          generalize (w4.setCell ⟨w.heap.size + 1, 0, none⟩ (.int .i64 (k : Int))).setCell ⟨w.heap.size + 1, 1, none⟩ (.int .i64 0) = wZ at *
          refine bodyPost_ret (v := .tuple #[.agg #[.int .i64 (k : Int), .int .i64 0], .int .i64 80]) (by simp [results, Tryz.results33, go_sem, d0, d1]) rfl ⟨by rw [HF.out]; try rfl, HBz.out⟩
        · have tt : ¬ fdN gs g.1 < (k : Int) := fun q => htw ((tw_fd hgk).2 q)
          have HX2 := (show Hid (c1G gs 0 0 gs = if (ck g.2).2 ≠ 0 then ((k, (ck g.2).1), (ck g.2).2) else if 2048 < m + g.2.length then ((k, 0), 2) else c1G gs (k + 1) (m + g.2.length) (gs.drop (k + 1))) from by show c1G gs 0 0 gs = _; rw [HX.out, if_neg htw])
          clear HX htw hgk
          go_wp2_with fail
          refine (HCk.out _ HS.out.b).mono ?_
          rintro e w5 ⟨rfl, b5⟩
          have HS5 := (show Hid (DcS w w5 (.slice (some ⟨b, o, none⟩) gs.length c)) from HS.out.later b5)
          have y1' := (HR4.out.later b5).c1
          clear HCk b5 HS HR4 y1 tt
          have HS := HS5
          clear HS5
          by_cases hc : (ck g.2).2 = 0
          · have tc : ((ck g.2).2 != 0) = false := by rw [hc]; rfl
            have hg3 : g.2.length ≤ 2048 := by
              by_cases q : g.2.length ≤ 2048
              · exact q
              · have := ck_long (L := g.2) (by omega)
                rw [this] at hc
                exact absurd hc (by decide)
            have HV := (show Hid (c1G gs 0 0 gs = if 2048 < m + g.2.length then ((k, 0), 2) else c1G gs (k + 1) (m + g.2.length) (gs.drop (k + 1))) from by show c1G gs 0 0 gs = _; rw [HX2.out, if_neg (by rw [hc]; simp)])
            generalize hcc : (ck g.2).2 = cc2 at *
            clear hcc HX2
            by_cases hn : 2048 < m + g.2.length
            · have HF := (show Hid (ckG gs = ((k, 0), 2)) from HE.out _ (by rw [HV.out, if_pos hn]) (by show (2 : Int) ≠ 0; decide))
              have tn : (2048 : Int) < (m : Int) + (g.2.length : Int) := by omega
              clear HV HE HG HP hn
              have HZ := (show Hid (SX ((w5.setCell ⟨w.heap.size + 1, 0, none⟩ (.int .i64 (k : Int))).setCell ⟨w.heap.size + 1, 1, none⟩ (.int .i64 0)) (w.heap.size + 1) (k : Int) 0) from HS.out.s.set _ _)
              have HBz := (show Hid (Below w.heap.size w ((w5.setCell ⟨w.heap.size + 1, 0, none⟩ (.int .i64 (k : Int))).setCell ⟨w.heap.size + 1, 1, none⟩ (.int .i64 0))) from set_below (set_below HS.out.b (Nat.le_succ _)) (Nat.le_succ _))
              have c0 := HS.out.s.c0
              have c1 := HS.out.s.c1
              have f0 := HS.out.s.fz 0
              have f1 := HS.out.s.fz 1
              clear HS
              go_wp2_with fail
              have d0 := HZ.out.c0
              have d1 := HZ.out.c1
              clear c0 c1 f0 f1
              generalize (w5.setCell ⟨w.heap.size + 1, 0, none⟩ (.int .i64 (k : Int))).setCell ⟨w.heap.size + 1, 1, none⟩ (.int .i64 0) = wZ at *
              refine bodyPost_ret (v := .tuple #[.agg #[.int .i64 (k : Int), .int .i64 0], .int .i64 2]) (by simp [results, Tryz.results33, go_sem, d0, d1]) rfl ⟨by rw [HF.out]; try rfl, HBz.out⟩
            · have HX3 := (show Hid (c1G gs 0 0 gs = c1G gs (k + 1) (m + g.2.length) (gs.drop (k + 1))) from by show c1G gs 0 0 gs = _; rw [HV.out, if_neg hn])
              have tn : ¬ (2048 : Int) < (m : Int) + (g.2.length : Int) := by omega
              clear HV
              go_wp2_with fail
              go_roundw
              case rel => exact ⟨k + 1, m + g.2.length, by omega, by go_num, by go_num, by omega, HX3, HS⟩
              case measure => simp [intOf]; omega
          · have tc : ((ck g.2).2 != 0) = true := by rw [bne, beq_eq_false_iff_ne.2 hc]; rfl
            have HF := (show Hid (ckG gs = ((k, (ck g.2).1), (ck g.2).2)) from HE.out _ (by rw [HX2.out, if_pos hc]) hc)
            clear HX2 HE HG HP hc
            generalize hcc : (ck g.2).2 = cc2 at *
            generalize hcd : (ck g.2).1 = cc1 at *
            clear hcc hcd
            have HZ := (show Hid (SX ((w5.setCell ⟨w.heap.size + 1, 0, none⟩ (.int .i64 (k : Int))).setCell ⟨w.heap.size + 1, 1, none⟩ (.int .i64 (cc1 : Int))) (w.heap.size + 1) (k : Int) (cc1 : Int)) from HS.out.s.set _ _)
            have HBz := (show Hid (Below w.heap.size w ((w5.setCell ⟨w.heap.size + 1, 0, none⟩ (.int .i64 (k : Int))).setCell ⟨w.heap.size + 1, 1, none⟩ (.int .i64 (cc1 : Int)))) from set_below (set_below HS.out.b (Nat.le_succ _)) (Nat.le_succ _))
            have c0 := HS.out.s.c0
            have c1 := HS.out.s.c1
            have f0 := HS.out.s.fz 0
            have f1 := HS.out.s.fz 1
            clear HS
            go_wp2_with fail
            have d0 := HZ.out.c0
            have d1 := HZ.out.c1
            clear c0 c1 f0 f1
            generalize (w5.setCell ⟨w.heap.size + 1, 0, none⟩ (.int .i64 (k : Int))).setCell ⟨w.heap.size + 1, 1, none⟩ (.int .i64 (cc1 : Int)) = wZ at *
            refine bodyPost_ret (v := .tuple #[.agg #[.int .i64 (k : Int), .int .i64 (cc1 : Int)], .int .i64 cc2]) (by simp [results, Tryz.results33, go_sem, d0, d1]) rfl ⟨by rw [HF.out]; try rfl, HBz.out⟩
    · obtain rfl : k = gs.length := by omega
      have HE2 := (show Hid (ckG gs = unG gs 0 gs) from HEu.out (by rw [HX0.out, List.drop_length]; rfl))
      clear HX0 HE HEu
      go_wp2_with fail
      clear q1
      go_loopw [9] (fun t wr => ∃ k : Nat, k ≤ gs.length ∧ t = .int .i64 k ∧ Hid (unG gs 0 gs = unG gs k (gs.drop k)) ∧ Hid (DcS w wr (.slice A gs.length c))) (fun t _ => gs.length - (intOf t).toNat)
      case atStart => exact ⟨0, by omega, by go_num, rfl, HW⟩
      case round =>
        obtain ⟨k, hk, rfl, HX, HW⟩ := hrel
        have q1 := HW.out.x.cl
        by_cases hlt : k < gs.length
        · obtain ⟨g, hg, s1, s2, s3, hd⟩ := HG.out k hlt
          obtain ⟨b, o, A2, c2, rfl, lb, x0, x1, r2⟩ := HP.out.d k g hg
          have z0 : (0 : Int) ≤ (k : Int) := by omega
          have z1 : (k : Int) < (gs.length : Int) := by omega
          have HLb := (show Hid (b < w.heap.size ∧ w.cell? ⟨b, o + k * 2 + 1, none⟩ = some (.slice A2 g.2.length c2)) from ⟨lb, x1⟩)
          have HR2 := (show Hid (RdN w A2 g.2) from r2)
          have HU := (show Hid (unG gs 0 gs = match unN gs 0 g.2 with
            | some j => ((k, j), 81)
            | none => unG gs (k + 1) (gs.drop (k + 1))) from by show unG gs 0 gs = _; rw [HX.out, hd, unG_cons]; try rfl)
          have HN := (show Hid (∀ j, j < g.2.length → ∃ n, g.2[j]? = some n ∧ g.2 ≠ [] ∧ n.tx.size ≤ 140737488355328 ∧ g.2.drop j = n :: g.2.drop (j + 1)) from fun j hj => ⟨_, List.getElem?_eq_getElem hj, by (intro q; rw [q] at hj; simp at hj), s3 _ (List.getElem_mem hj), List.drop_eq_getElem_cons hj⟩)
          clear hg r2 s3 HX hd s1 x0 x1 lb
          go_wp2_with fail
          clear q1
          go_loopw [10] (fun t wr => ∃ j : Nat, j ≤ g.2.length ∧ t = .int .i64 j ∧ Hid (unN gs 0 g.2 = unN gs j (g.2.drop j)) ∧ Hid (DcS w wr (.slice (some ⟨b, o, none⟩) gs.length c))) (fun t _ => g.2.length - (intOf t).toNat)
          case atStart => exact ⟨0, by omega, by go_num, rfl, HW⟩
          case round =>
            obtain ⟨j, hj, rfl, HX, HW⟩ := hrel
            have q1 := HW.out.x.cl
            have x1' := (HW.out.b.cell (p := ⟨b, o + k * 2 + 1, none⟩) HLb.out.1).trans HLb.out.2
            by_cases hjl : j < g.2.length
            · obtain ⟨n, hn, nl, st, hd⟩ := HN.out j hjl
              obtain ⟨g1, o1, rfl, l1, q2⟩ := HR2.out nl
              obtain ⟨a0, a1, a2, a3, a4, a5, a6⟩ := (q2.same (HW.out.b.block g1 l1)) j n hn
              have y0 : (0 : Int) ≤ (j : Int) := by omega
              have y1 : (j : Int) < (g.2.length : Int) := by omega
              have HW2 := (show Hid (DcS w (wr.alloc (ndO n)) (.slice (some ⟨b, o, none⟩) gs.length c)) from HW.out.later (below_box _ _))
              have q3 := HW2.out.x.cl
              clear HN HR2 HG q2 HW nl hn st
              by_cases h6 : n.op = 6
              · have t6 : (n.op == 6) = true := by rw [h6]; rfl
                have HFi : Hid (∀ W, Below w.heap.size w W → Calls Tryz.prog 19 #[.agg #[.slice (some ⟨b, o, none⟩) gs.length c], .string n.tx] W fun e w' => e = .returned (.int .i64 (fdN gs n.tx)) ∧ Below W.heap.size W w') := fun W hW => find_any gs (some ⟨b, o, none⟩) c n.tx W (HP.out.later hW)
                cases hf : fdG gs n.tx with
                | none =>
                  have tf : fdN gs n.tx < 0 := by rw [fdN_none hf]; decide
                  have HF := (show Hid (ckG gs = ((k, j), 81)) from by show ckG gs = _; rw [HE2.out, HU.out, HX.out, hd, unN_cons, if_pos ⟨h6, hf⟩])
                  clear HX HU hd hf h6 HP HE2
                  go_wp2_with fail
                  refine (HFi.out _ HW2.out.b).mono ?_
                  rintro e w4 ⟨rfl, b4⟩
                  have HS := (show Hid (DcS w w4 (.slice (some ⟨b, o, none⟩) gs.length c)) from HW2.out.later b4)
                  clear HFi b4 HW2
                  have HZ := (show Hid (SX ((w4.setCell ⟨w.heap.size + 1, 0, none⟩ (.int .i64 (k : Int))).setCell ⟨w.heap.size + 1, 1, none⟩ (.int .i64 (j : Int))) (w.heap.size + 1) (k : Int) (j : Int)) from HS.out.s.set _ _)
                  have HBz := (show Hid (Below w.heap.size w ((w4.setCell ⟨w.heap.size + 1, 0, none⟩ (.int .i64 (k : Int))).setCell ⟨w.heap.size + 1, 1, none⟩ (.int .i64 (j : Int)))) from set_below (set_below HS.out.b (Nat.le_succ _)) (Nat.le_succ _))
                  have c0 := HS.out.s.c0
                  have c1 := HS.out.s.c1
                  have f0 := HS.out.s.fz 0
                  have f1 := HS.out.s.fz 1
                  clear HS
                  go_wp2_with fail
                  have d0 := HZ.out.c0
                  have d1 := HZ.out.c1
                  clear c0 c1 f0 f1
                  generalize (w4.setCell ⟨w.heap.size + 1, 0, none⟩ (.int .i64 (k : Int))).setCell ⟨w.heap.size + 1, 1, none⟩ (.int .i64 (j : Int)) = wZ at *
                  refine bodyPost_ret (v := .tuple #[.agg #[.int .i64 (k : Int), .int .i64 (j : Int)], .int .i64 81]) (by simp [results, Tryz.results33, go_sem, d0, d1]) rfl ⟨by rw [HF.out]; try rfl, HBz.out⟩
                | some i =>
                  have tf : ¬ fdN gs n.tx < 0 := by rw [fdN_some hf]; omega
                  have HX2 := (show Hid (unN gs 0 g.2 = unN gs (j + 1) (g.2.drop (j + 1))) from by show unN gs 0 g.2 = _; rw [HX.out, hd, unN_cons, if_neg (by rintro ⟨_, q⟩; rw [hf] at q; cases q)])
                  clear HX HU hd hf h6 HP HE2
                  go_wp2_with fail
                  refine (HFi.out _ HW2.out.b).mono ?_
                  rintro e w4 ⟨rfl, b4⟩
                  have HS := (show Hid (DcS w w4 (.slice (some ⟨b, o, none⟩) gs.length c)) from HW2.out.later b4)
                  clear HFi b4 HW2
                  go_wp2_with fail
                  go_roundw
                  case rel => exact ⟨j + 1, by omega, by go_num, HX2, HS⟩
                  case measure => simp [intOf]; omega
              · have t6 : (n.op == 6) = false := beq_eq_false_iff_ne.2 h6
                have HX2 := (show Hid (unN gs 0 g.2 = unN gs (j + 1) (g.2.drop (j + 1))) from by show unN gs 0 g.2 = _; rw [HX.out, hd, unN_cons, if_neg (by rintro ⟨q, _⟩; exact h6 q)])
                clear HX HU hd h6 HP HE2
                go_wp2_with fail
                go_roundw
                case rel => exact ⟨j + 1, by omega, by go_num, HX2, HW2⟩
                case measure => simp [intOf]; omega
            · obtain rfl : j = g.2.length := by omega
              have HX2 := (show Hid (unG gs 0 gs = unG gs (k + 1) (gs.drop (k + 1))) from by show unG gs 0 gs = _; rw [HU.out, HX.out, List.drop_length]; rfl)
              clear HX HU HN HR2 HP HE2
              go_wp2_with fail
              go_roundw
              case rel => exact ⟨k + 1, by omega, by go_num, HX2, HW⟩
              case measure => simp [intOf]; omega
        · obtain rfl : k = gs.length := by omega
          have HF := (show Hid (ckG gs = ((0, 0), 0)) from by show ckG gs = _; rw [HE2.out, HX.out, List.drop_length]; rfl)
          have HS := HW
          clear HX HG HP HE2 HW
          have HZ := (show Hid (SX ((wr.setCell ⟨w.heap.size + 1, 0, none⟩ (.int .i64 0)).setCell ⟨w.heap.size + 1, 1, none⟩ (.int .i64 0)) (w.heap.size + 1) 0 0) from HS.out.s.set _ _)
          have HBz := (show Hid (Below w.heap.size w ((wr.setCell ⟨w.heap.size + 1, 0, none⟩ (.int .i64 0)).setCell ⟨w.heap.size + 1, 1, none⟩ (.int .i64 0))) from set_below (set_below HS.out.b (Nat.le_succ _)) (Nat.le_succ _))
          have c0 := HS.out.s.c0
          have c1 := HS.out.s.c1
          have f0 := HS.out.s.fz 0
          have f1 := HS.out.s.fz 1
          clear HS
          go_wp2_with fail
          have d0 := HZ.out.c0
          have d1 := HZ.out.c1
          clear c0 c1 f0 f1
          generalize (wr.setCell ⟨w.heap.size + 1, 0, none⟩ (.int .i64 0)).setCell ⟨w.heap.size + 1, 1, none⟩ (.int .i64 0) = wZ at *
          refine bodyPost_ret (v := .tuple #[.agg #[.int .i64 0, .int .i64 0], .int .i64 0]) (by simp [results, Tryz.results33, go_sem, d0, d1]) rfl ⟨by rw [HF.out]; try rfl, HBz.out⟩
end Go.Proofs.YtbipjdgholdhcabGreat.N

namespace Go.Proofs.YtbipjdgholdhcabGreat.T
open Go.RowKit
theorem enters47 (args : Array Value) (w : World) : (callFunc 116 args).run Tryz.prog w = .ok (.enter 116 args) w := enters_of Tryz.func116 (by kernel_rfl) rfl args w
theorem step_call47 {ops : Array Oper} {o : Oper} {a : Act} {w : World} {K : Act → World → Prop} {Q : Exit → Act → World → Prop} {E : Prop} (hgd : o.guard = none) (x : Operand) (ho : o.op = .call { callee := .value (.func 116), args := #[x], argTypes := #[57] }) (v : Value) (hx : a.eval x = v)
    (hc : Calls Tryz.prog 116 #[v] w fun e w' => ∃ r, e = .returned r ∧ K (a.put o.dst r) w') :
    if Region.wanted o (yielded ops a.tmps) = true then Oper.wp Tryz.prog o a w K Q else E := by
  have hw : Region.wanted o (yielded ops a.tmps) = true := by simp [Region.wanted, hgd]
  rw [if_pos hw]
  have h47 := enters47
  have he : (execOp a.eval o).run Tryz.prog w = .ok (.enter 116 #[v]) w := by
    unfold execOp
    simp [ho, go_sem, invoke, h47]
    rw [← hx]
    cases x <;> simp [Act.eval]
  unfold Oper.wp
  rw [he, Oper.upon_enter]
  refine hc.mono ?_
  rintro e w' ⟨r, rfl, hk⟩
  exact hk
end Go.Proofs.YtbipjdgholdhcabGreat.T

namespace Go.Proofs.YtbipjdgholdhcabGreat.T
open Go.RowKit
theorem field_tx (n : Nd) (W : World) : (Instr.field 57 (ndG n) 2).run Tryz.prog W = .ok (.string n.tx) W := by
  simp [go_sem, asAgg, Instr.field, Tryz.isAgg9, Tryz.sizeOf9]
/-- A list of texts in a box. -/
structure TB (W : World) (b : Nat) (v : Value) : Prop where
  heap : W.heap[b]? = some (.cells #[v] 149 (0, 0))
theorem TB.lt {W : World} {b : Nat} {v : Value} (x : TB W b v) : b < W.heap.size := (Array.getElem?_eq_some_iff.1 x.heap).1
theorem TB.c0 {W : World} {b : Nat} {v : Value} (x : TB W b v) : W.cell? ⟨b, 0, none⟩ = some v := by rw [cell_of_row W b 0 _ 149 (0, 0) x.heap]; rfl
theorem TB.fz {W : World} {b : Nat} {v : Value} (x : TB W b v) : W.frozen? ⟨b, 0, none⟩ = false := frozen_of_row W b 0 _ 149 x.heap
theorem TB.same {W W' : World} {b : Nat} {v : Value} (x : TB W b v) (hb : W'.heap[b]? = W.heap[b]?) : TB W' b v := ⟨hb.trans x.heap⟩
theorem TB.set {W : World} {b : Nat} {v : Value} (x : TB W b v) (u : Value) : TB (W.setCell ⟨b, 0, none⟩ u) b u := ⟨by rw [heap_setCell_same W b 0 _ 149 _ x.heap]; rfl⟩

set_option maxRecDepth 100000 in
set_option maxHeartbeats 8000000 in
theorem names1_new (L : List Nd) (p : Pt) (va v : Value) (n : Nd) (l : List ByteArray) (g o cp bp bn B : Nat) (hl : l.length ≤ 2048) (w : World) (hn : L[p.2.1]? = some n) (_hne : bp ≠ bn) (hp : w.cell? ⟨bp, 0, none⟩ = some (.slice (some ⟨g, o, none⟩) L.length cp)) (hc : TB w bn v) (ho : w.ownsRow B 9 1 v l.length (stc l)) (hB : bn < B) (hBw : B ≤ w.heap.size) (hr : NdL w g o L) (_hg : g ≠ bn) (h6 : n.op = 6) (hi : inB n.tx l = false) :
    Calls Tryz.prog 114 #[ptG p, va, .pointer (some ⟨bp, 0, none⟩), .pointer (some ⟨bn, 0, none⟩)] w fun e w' => (∃ u, e = .returned u) ∧ ∃ v', TB w' bn v' ∧ w'.ownsRow B 9 1 v' (l.length + 1) (stc (l ++ [n.tx])) ∧ (∀ b, v'.ownBlock = some b → v.ownBlock = some b ∨ w.heap.size ≤ b) ∧ Kp (fun b => b = bn ∨ v.ownBlock = some b) w w' := by
  have hj : p.2.1 < L.length := by
    by_cases q : p.2.1 < L.length
    · exact q
    · rw [List.getElem?_eq_none (by omega)] at hn; cases hn
  obtain ⟨i0, hinf, hz0, hz1, hz2⟩ := info_parts Tryz.info9
  obtain ⟨e0, e1, e2, e3, e4, e5, e6⟩ := hr p.2.1 n hn
  have hlp := World.block_lt_of_cell? w _ hp
  have hlg := (hr p.2.1 n hn).lt
  have hlc := hc.lt
  simp only at hlp
  have c0 := hc.c0
  have f0 := hc.fz
  have z0 : (0 : Int) ≤ (p.2.1 : Int) := by omega
  have z1 : (p.2.1 : Int) < (L.length : Int) := by omega
  have t6 : (n.op == 6) = true := beq_iff_eq.2 h6
  have HCo : Hid (∀ n w, Calls Tryz.prog 116 #[ndG n] w fun e w' => e = .returned (ndG n) ∧ Below w.heap.size w w') := fun n w => copied_any n w
  have HCn : Hid (∀ W, Below w.heap.size w W → Calls Tryz.prog 115 #[v, .string n.tx] W fun e w' => e = .returned (.bool false) ∧ w' = W) := fun W hW => by
    have h := contains_any v n.tx l (by omega) W (own_rdt (own_below ho hW) rfl)
    rw [hi] at h
    exact h
  obtain ⟨W2, hW2⟩ : ∃ W2, W2 = (w.alloc (.cells #[.int .i64 p.1, .int .i64 p.2.1, .int .i64 p.2.2] 130)).alloc (.cells #[.int .i64 n.op, .int .i64 n.nn, .string n.tx, .int .u64 n.s0, .int .u64 n.s1, .int .u64 n.s2, .int .u64 n.s3] 57) := ⟨_, rfl⟩
  have hB2 : Below w.heap.size w W2 := by rw [hW2]; exact (below_box w _).alloc (below_box w _).size _
  have HB2 := (show Hid (Below w.heap.size w W2) from hB2)
  have hx2 : NB W2 (w.heap.size + 1) 0 n := by
    rw [hW2]
    have h := nb_new (w.alloc (.cells #[.int .i64 p.1, .int .i64 p.2.1, .int .i64 p.2.2] 130)) n
    rw [World.size_alloc] at h
    exact h
  have hs2 : W2.heap.size = w.heap.size + 2 := by rw [hW2]; simp
  have HO := (show Hid (W2.ownsRow B 9 1 v l.length (stc l)) from own_below ho hB2)
  have HT := (show Hid (TB W2 bn v) from hc.same (hB2.block bn hlc))
  have HX := (show Hid (NB W2 (w.heap.size + 1) 0 n) from hx2)
  have HCn2 := (show Hid (∀ _ : Unit, Calls Tryz.prog 115 #[v, .string n.tx] W2 fun e w' => e = .returned (.bool false) ∧ w' = W2) from fun _ => HCn.out W2 hB2)
  have HTw := (show Hid (TB w bn v) from hc)
  have HRw := (show Hid (∀ j, v.ownBlock = some j → j < w.heap.size) from fun j hj => (ho.lt j hj).2)
  clear hr hn hc ho h6 hi hx2 hB2 HCn
  subst hW2
  go_enter Tryz.func114, Tryz.ntmps114
  go_wp2_with fail
  refine (HCn2.out ()).mono ?_
  rintro e w3 ⟨rfl, rfl⟩
  clear HCn2 e0 e1 e2 e3 e4 e5 e6 c0 f0 hp t6
  generalize hW2 : (w.alloc (.cells #[.int .i64 p.1, .int .i64 p.2.1, .int .i64 p.2.2] 130)).alloc (.cells #[.int .i64 n.op, .int .i64 n.nn, .string n.tx, .int .u64 n.s0, .int .u64 n.s1, .int .u64 n.s2, .int .u64 n.s3] 57) = W2 at *
  clear hW2
  have k0 := HT.out.c0
  have f0 := HT.out.fz
  obtain ⟨d0, d1, d2, d3, d4, d5, d6⟩ := HX.out
  simp only [Nat.zero_add] at d0 d1 d2 d3 d4 d5 d6
  have hbn : bn < w.heap.size := hlc
  have hfl := field_tx n
  have HAp := (show Hid (∀ W : World, Below W2.drew.heap.size W2.drew W → ∃ g3 cap w5, (Builtin.append_ #[149, 149] 149 #[v, .slice (some ⟨W.heap.size, 0, none⟩) 1 1]).run Tryz.prog (W.alloc (.cells #[.string n.tx] 9)) = .ok (.slice (some ⟨g3, 0, none⟩) (l.length + 1) cap) w5 ∧ (w5.ownsRow B 9 1 (.slice (some ⟨g3, 0, none⟩) (l.length + 1) cap) (l.length + 1) (stc l ++ [.string n.tx]) ∧ (W.alloc (.cells #[.string n.tx] 9)).grownBy w5 v.ownBlock ∧ (v.ownBlock = some g3 ∨ g3 = W.heap.size + 1) ∧ g3 < w5.heap.size)) from fun W hW =>
    run_append_lies (P := Tryz.prog) (W.alloc (.cells #[.string n.tx] 9)) 149 149 B 9 i0 (.string ⟨#[]⟩) 1 16 Tryz.underlying149 hinf hz0 hz1 hz2 rfl (by decide) v l.length (stc l) ((own_below (own_drew HO.out) hW).alloc _) ⟨W.heap.size, 0, none⟩ 1 1 [.string n.tx] rfl (cell_one_new _ _ _) (by simp [Value.oneCell']) (by decide) (by unfold maxLen; omega) (by omega) (by have q1 := hW.size; have q2 : W2.drew.heap.size = W2.heap.size := rfl; rw [World.size_alloc]; omega) (W.heap.size + 1) (by simp))
  have HRow := (show Hid (∀ j, v.ownBlock = some j → B ≤ j ∧ j < W2.heap.size ∧ j < w.heap.size) from fun j hj => ⟨(HO.out.lt j hj).1, (HO.out.lt j hj).2, HRw.out j hj⟩)
  have HS := (show Hid (∀ W : World, (W.heap[bn]? = W2.heap[bn]?) → (W.heap[w.heap.size + 1]? = W2.heap[w.heap.size + 1]?) → W.cell? ⟨bn, 0, none⟩ = some v ∧ W.frozen? ⟨bn, 0, none⟩ = false ∧ W.cell? ⟨w.heap.size + 1, 0, none⟩ = some (.int .i64 n.op) ∧ W.cell? ⟨w.heap.size + 1, 1, none⟩ = some (.int .i64 n.nn) ∧ W.cell? ⟨w.heap.size + 1, 2, none⟩ = some (.string n.tx) ∧ W.cell? ⟨w.heap.size + 1, 3, none⟩ = some (.int .u64 n.s0) ∧ W.cell? ⟨w.heap.size + 1, 4, none⟩ = some (.int .u64 n.s1) ∧ W.cell? ⟨w.heap.size + 1, 5, none⟩ = some (.int .u64 n.s2) ∧ W.cell? ⟨w.heap.size + 1, 6, none⟩ = some (.int .u64 n.s3)) from fun W q1 q2 => by
    have h1 := HT.out.same q1
    have h2 := HX.out.same q2
    obtain ⟨d0, d1, d2, d3, d4, d5, d6⟩ := h2
    simp only [Nat.zero_add] at d0 d1 d2 d3 d4 d5 d6
    exact ⟨h1.c0, h1.fz, d0, d1, d2, d3, d4, d5, d6⟩)
  have HS2 := (show Hid (∀ W W5 : World, Below W2.drew.heap.size W2.drew W → (W.alloc (.cells #[.string n.tx] 9)).grownBy W5 v.ownBlock → W5.cell? ⟨bn, 0, none⟩ = some v ∧ W5.frozen? ⟨bn, 0, none⟩ = false ∧ W5.cell? ⟨w.heap.size + 1, 0, none⟩ = some (.int .i64 n.op) ∧ W5.cell? ⟨w.heap.size + 1, 1, none⟩ = some (.int .i64 n.nn) ∧ W5.cell? ⟨w.heap.size + 1, 2, none⟩ = some (.string n.tx) ∧ W5.cell? ⟨w.heap.size + 1, 3, none⟩ = some (.int .u64 n.s0) ∧ W5.cell? ⟨w.heap.size + 1, 4, none⟩ = some (.int .u64 n.s1) ∧ W5.cell? ⟨w.heap.size + 1, 5, none⟩ = some (.int .u64 n.s2) ∧ W5.cell? ⟨w.heap.size + 1, 6, none⟩ = some (.int .u64 n.s3)) from fun W W5 hW hg => by
    have q : ∀ b, b = bn ∨ b = w.heap.size + 1 → W5.heap[b]? = W2.heap[b]? := fun b hb => by
      have hb2 : b < W2.heap.size := by omega
      have hbW : b < W.heap.size := Nat.lt_of_lt_of_le hb2 hW.size
      rw [hg.block b (by rw [World.size_alloc]; omega) (fun e => by have := HRow.out b e.symm; omega), (below_box W _).block b hbW]
      exact hW.block b hb2
    exact HS.out W5 (q bn (.inl rfl)) (q _ (.inr rfl)))
  have HS1 := (show Hid (∀ W : World, Below W2.drew.heap.size W2.drew W → W.cell? ⟨bn, 0, none⟩ = some v ∧ W.frozen? ⟨bn, 0, none⟩ = false ∧ W.cell? ⟨w.heap.size + 1, 0, none⟩ = some (.int .i64 n.op) ∧ W.cell? ⟨w.heap.size + 1, 1, none⟩ = some (.int .i64 n.nn) ∧ W.cell? ⟨w.heap.size + 1, 2, none⟩ = some (.string n.tx) ∧ W.cell? ⟨w.heap.size + 1, 3, none⟩ = some (.int .u64 n.s0) ∧ W.cell? ⟨w.heap.size + 1, 4, none⟩ = some (.int .u64 n.s1) ∧ W.cell? ⟨w.heap.size + 1, 5, none⟩ = some (.int .u64 n.s2) ∧ W.cell? ⟨w.heap.size + 1, 6, none⟩ = some (.int .u64 n.s3)) from fun W hW => HS.out W (hW.block bn (by show bn < W2.heap.size; omega)) (hW.block (w.heap.size + 1) (by show w.heap.size + 1 < W2.heap.size; omega)))
  have HS4 := (show Hid (∀ W W5 : World, Below W2.drew.heap.size W2.drew W → (W.alloc (.cells #[.string n.tx] 9)).grownBy W5 v.ownBlock → ∀ b, b < w.heap.size → v.ownBlock ≠ some b → W5.heap[b]? = w.heap[b]?) from fun W W5 hW hg b hb hnb => by
    have hb2 : b < W2.heap.size := by omega
    have hbW : b < W.heap.size := Nat.lt_of_lt_of_le hb2 hW.size
    rw [hg.block b (by rw [World.size_alloc]; omega) (fun e => hnb e.symm), (below_box W _).block b hbW]
    exact (hW.block b hb2).trans (HB2.out.block b hb))
  have HS3 := (show Hid (∀ W : World, Below W2.drew.heap.size W2.drew W → (W.alloc (.cells #[.string n.tx] 9)).cell? ⟨bn, 0, none⟩ = some v) from fun W hW => by
    have h1 : TB W bn v := HT.out.same (hW.block bn (by show bn < W2.heap.size; omega))
    exact (h1.same ((below_box W _).block bn h1.lt)).c0)
  go_wp2_with fail
  go_region_law ((first
      | (refine step_call47 rfl _ (by rfl) _ (by rfl) ?_; refine (HCo.out n _).mono ?_; rintro e wA ⟨rfl, bA⟩; refine ⟨_, rfl, ?_⟩; obtain ⟨kA, fA, a0, a1, a2, a3, a4, a5, a6⟩ := HS1.out _ bA; have kB := HS3.out _ bA)
      | (refine step_append_lies _ (by rfl) _ _ _ (by rfl) B 9 i0 _ 1 16 Tryz.underlying149 hinf hz0 hz1 hz2 rfl (by omega) _ _ (stc l) (by rfl) ((own_below (own_drew HO.out) bA).alloc _) ⟨wA.heap.size, 0, none⟩ 1 1 [.string n.tx] (by rfl) (by rfl) (cell_one_new _ _ _) (by simp [Value.oneCell']) (by omega) (by unfold maxLen; omega) (by omega) (by have q1 := bA.size; have q2 : W2.drew.heap.size = W2.heap.size := rfl; rw [World.size_alloc]; omega) (wA.heap.size + 1) (by simp) ?_; intro g3 cap w5 hown1 hgrow hat hltg; obtain ⟨k5, f5, r0, r1, r2, r3, r4, r5, r6⟩ := HS2.out _ _ bA hgrow)))
  all_goals
    have h4 := HS4.out _ _ bA hgrow
    have hbnv : v.ownBlock ≠ some bn := fun e => by have := (HRow.out bn e).1; omega
    have hT5 : TB w5 bn v := HTw.out.same (h4 bn hlc hbnv)
    have hfin : (∃ v', TB (w5.setCell ⟨bn, 0, none⟩ (.slice (some ⟨g3, 0, none⟩) (l.length + 1) cap)) bn v' ∧ (w5.setCell ⟨bn, 0, none⟩ (.slice (some ⟨g3, 0, none⟩) (l.length + 1) cap)).ownsRow B 9 1 v' (l.length + 1) (stc (l ++ [n.tx])) ∧ (∀ b, v'.ownBlock = some b → v.ownBlock = some b ∨ w.heap.size ≤ b) ∧ Kp (fun b => b = bn ∨ v.ownBlock = some b) w (w5.setCell ⟨bn, 0, none⟩ (.slice (some ⟨g3, 0, none⟩) (l.length + 1) cap))) := by
      have q1 := bA.size
      have q2 : W2.drew.heap.size = W2.heap.size := rfl
      have q3 := HB2.out.size
      refine ⟨_, hT5.set _, ?_, fun b e => ?_, ⟨?_, ?_, ?_, ?_, fun b hb hnb => ?_⟩⟩
      · have h5 := ownsRow_setCell_below hown1 (a := ⟨bn, 0, none⟩) hB (.slice (some ⟨g3, 0, none⟩) (l.length + 1) cap)
        unfold stc
        rw [List.map_append]
        exact h5
      · have e2 : g3 = b := Option.some.inj e
        subst e2
        rcases hat with q | q
        · exact .inl q
        · exact .inr (by omega)
      · exact hgrow.os.trans (bA.os.trans HB2.out.os)
      · exact hgrow.tape.trans (bA.tape.trans HB2.out.tape)
      · exact hgrow.output.trans (bA.output.trans HB2.out.output)
      · have := hgrow.size; rw [World.size_alloc] at this; rw [World.size_setCell]; omega
      · rw [heap_setCell_other _ _ _ _ (fun e => hnb (.inl e))]
        exact h4 b hb (fun e => hnb (.inr e))
    go_end0
    exact ⟨⟨_, rfl⟩, hfin⟩
end Go.Proofs.YtbipjdgholdhcabGreat.T

namespace Go.Proofs.YtbipjdgholdhcabGreat.T
open Go.RowKit
theorem enters49 (args : Array Value) (w : World) : (callFunc 114 args).run Tryz.prog w = .ok (.enter 114 args) w := enters_of Tryz.func114 (by kernel_rfl) rfl args w
set_option maxRecDepth 100000 in
set_option maxHeartbeats 8000000 in
theorem names1_old (L : List Nd) (p : Pt) (va v : Value) (n : Nd) (l : List ByteArray) (g o cp bp bn B : Nat) (hl : l.length ≤ 2048) (w : World) (hn : L[p.2.1]? = some n) (hp : w.cell? ⟨bp, 0, none⟩ = some (.slice (some ⟨g, o, none⟩) L.length cp)) (hc : TB w bn v) (ho : w.ownsRow B 9 1 v l.length (stc l)) (hr : NdL w g o L) (h6 : ¬ (n.op = 6 ∧ inB n.tx l = false)) :
    Calls Tryz.prog 114 #[ptG p, va, .pointer (some ⟨bp, 0, none⟩), .pointer (some ⟨bn, 0, none⟩)] w fun e w' => (∃ u, e = .returned u) ∧ Below w.heap.size w w' := by
  have hj : p.2.1 < L.length := by
    by_cases q : p.2.1 < L.length
    · exact q
    · rw [List.getElem?_eq_none (by omega)] at hn; cases hn
  obtain ⟨e0, e1, e2, e3, e4, e5, e6⟩ := hr p.2.1 n hn
  have hlp := World.block_lt_of_cell? w _ hp
  have hlg := (hr p.2.1 n hn).lt
  have hlc := hc.lt
  simp only at hlp
  have c0 := hc.c0
  have z0 : (0 : Int) ≤ (p.2.1 : Int) := by omega
  have z1 : (p.2.1 : Int) < (L.length : Int) := by omega
  obtain ⟨W2, hW2⟩ : ∃ W2, W2 = (w.alloc (.cells #[.int .i64 p.1, .int .i64 p.2.1, .int .i64 p.2.2] 130)).alloc (.cells #[.int .i64 n.op, .int .i64 n.nn, .string n.tx, .int .u64 n.s0, .int .u64 n.s1, .int .u64 n.s2, .int .u64 n.s3] 57) := ⟨_, rfl⟩
  have hB2 : Below w.heap.size w W2 := by rw [hW2]; exact (below_box w _).alloc (below_box w _).size _
  have HB2 := (show Hid (Below w.heap.size w W2) from hB2)
  by_cases q6 : n.op = 6
  · have t6 : (n.op == 6) = true := beq_iff_eq.2 q6
    have hi : inB n.tx l = true := by
      cases q : inB n.tx l with
      | true => rfl
      | false => exact absurd ⟨q6, q⟩ h6
    have HCn : Hid (∀ _ : Unit, Calls Tryz.prog 115 #[v, .string n.tx] W2 fun e w' => e = .returned (.bool true) ∧ w' = W2) := fun _ => by
      have h := contains_any v n.tx l (by omega) W2 (own_rdt (own_below ho hB2) rfl)
      rw [hi] at h
      exact h
    clear hr hn hc ho h6 q6 hi hB2
    subst hW2
    go_enter Tryz.func114, Tryz.ntmps114
    go_wp2_with fail
    refine (HCn.out ()).mono ?_
    rintro e w3 ⟨rfl, rfl⟩
    clear HCn e0 e1 e2 e3 e4 e5 e6 c0 hp t6
    go_wp2_with fail
    go_end0
    exact ⟨⟨_, rfl⟩, HB2.out⟩
  · have t6 : (n.op == 6) = false := beq_eq_false_iff_ne.2 q6
    clear hr hn hc ho h6 q6 hB2
    subst hW2
    go_enter Tryz.func114, Tryz.ntmps114
    go_wp2_with fail
    go_end0
    exact ⟨⟨_, rfl⟩, HB2.out⟩

structure JM (L : List Nd) (Ap : Option Addr) (cp bp bn Bc B k : Nat) (X : Nat → Prop) (w : World) : Prop where
  far : Bc ≤ bp ∧ Bc ≤ bn ∧ bp < B ∧ bn < B ∧ bp ≠ bn ∧ Bc ≤ B
  s : ∃ v, TB w bn v ∧ (∀ b, X b ↔ b = bn ∨ v.ownBlock = some b) ∧ w.ownsRow B 9 1 v (nmL L k).length (stc (nmL L k))
  p : w.cell? ⟨bp, 0, none⟩ = some (.slice Ap L.length cp)
  r : L ≠ [] → ∃ g o, Ap = some ⟨g, o, none⟩ ∧ g < Bc ∧ g < w.heap.size ∧ NdL w g o L
theorem JM.kept {L : List Nd} {Ap : Option Addr} {cp bp bn Bc B k : Nat} {X : Nat → Prop} {w w' : World} (h : JM L Ap cp bp bn Bc B k X w) (hz : w.heap.size ≤ w'.heap.size) (hb : ∀ b, (b < B ∨ X b) → w'.heap[b]? = w.heap[b]?) : JM L Ap cp bp bn Bc B k X w' := by
  obtain ⟨f1, f2, f3, f4, f5, f6⟩ := h.far
  obtain ⟨v, hs, hx, ho⟩ := h.s
  refine ⟨h.far, ⟨v, hs.same (hb bn (.inl f4)), hx, ho.1, ?_⟩, (World.cell?_of_block (a := ⟨bp, 0, none⟩) (hb bp (.inl f3))).trans h.p, fun hne => ?_⟩
  · rcases ho.2 with q | ⟨g, cap, cur, rfl, r1, r2, rest⟩
    · exact .inl q
    · exact .inr ⟨g, cap, cur, rfl, r1, (hb g (.inr ((hx g).2 (.inr rfl)))).trans r2, rest⟩
  · obtain ⟨g, o, e, q1, q2, q3⟩ := h.r hne
    exact ⟨g, o, e, q1, by omega, q3.same (hb g (.inl (by omega)))⟩
theorem see49 (L : List Nd) (Ap : Option Addr) (cp bp bn Bc B : Nat) (hL : L.length ≤ 2048) : See L 114 #[.pointer (some ⟨bp, 0, none⟩), .pointer (some ⟨bn, 0, none⟩)] Bc B (JM L Ap cp bp bn Bc B) := by
  refine ⟨fun k X w w' h hz hb => h.kept hz hb, fun k X w h b hb => ?_, fun k X w A c h hB hk he hr hA => ?_⟩
  · obtain ⟨v, hs, hx, ho⟩ := h.s
    rcases (hx b).1 hb with rfl | q
    · exact ⟨h.far.2.1, hs.lt⟩
    · have := ho.lt b q; have := h.far.2.2.2.2.2; omega
  · obtain ⟨f1, f2, f3, f4, f5, f6⟩ := h.far
    obtain ⟨v, hs, hx, ho⟩ := h.s
    obtain ⟨g, o, rfl, q1, q2, q3⟩ := h.r (by rintro rfl; simp at hk)
    have hn : L[k]? = some L[k] := List.getElem?_eq_getElem hk
    have hpl : (pt L k).2.1 = k := mk_last _ _ _ _
    have hln := nmL_len L k
    have hrow : ∀ b, v.ownBlock = some b → B ≤ b := fun b q => (ho.lt b q).1
    have hpk : ∀ {W : World}, (∀ b, b < w.heap.size → b < B → b ≠ bn → W.heap[b]? = w.heap[b]?) → W.cell? ⟨bp, 0, none⟩ = some (.slice (some ⟨g, o, none⟩) L.length cp) ∧ NdL W g o L := fun hW =>
      ⟨(World.cell?_of_block (a := ⟨bp, 0, none⟩) (hW bp (World.block_lt_of_cell? w _ h.p) f3 f5)).trans h.p, q3.same (hW g q2 (by omega) (by omega))⟩
    by_cases h6 : L[k].op = 6 ∧ inB L[k].tx (nmL L k) = false
    · have hc := names1_new L (pt L k) (.slice A (arN (opAt L k)) c) v L[k] (nmL L k) g o cp bp bn B (by omega) w (by rw [hpl]; exact hn) f5 h.p hs ho f4 hB q3 (by omega) h6.1 h6.2
      refine hc.mono fun e w' ⟨hu, v', h1, h2, h3, h4⟩ => ⟨hu, fun b => b = bn ∨ v'.ownBlock = some b, ⟨h.far, ⟨v', h1, fun b => Iff.rfl, by rw [nmL_succ hn, if_pos h6, List.length_append]; exact h2⟩, (hpk (fun b b1 b2 b3 => h4.block b b1 (by rintro (q | q); exact b3 q; have := hrow b q; omega))).1, fun _ => ⟨g, o, rfl, q1, Nat.lt_of_lt_of_le q2 h4.size, (hpk (fun b b1 b2 b3 => h4.block b b1 (by rintro (q | q); exact b3 q; have := hrow b q; omega))).2⟩⟩, ⟨h4.os, h4.tape, h4.output, h4.size, fun b hb hnx => h4.block b hb (fun q => hnx ((hx b).2 q))⟩, fun b q => ?_⟩
      rcases q with q | q
      · exact .inl ((hx b).2 (.inl q))
      · rcases h3 b q with r | r
        · exact .inl ((hx b).2 (.inr r))
        · exact .inr r
    · have hc := names1_old L (pt L k) (.slice A (arN (opAt L k)) c) v L[k] (nmL L k) g o cp bp bn B (by omega) w (by rw [hpl]; exact hn) h.p hs ho q3 h6
      refine hc.mono fun e w' ⟨hu, hb⟩ => ⟨hu, X, ⟨h.far, ⟨v, hs.same (hb.block bn hs.lt), hx, by rw [nmL_succ hn, if_neg h6]; exact own_below ho hb⟩, (hpk (fun b b1 _ _ => hb.block b b1)).1, fun _ => ⟨g, o, rfl, q1, Nat.lt_of_lt_of_le q2 hb.size, (hpk (fun b b1 _ _ => hb.block b b1)).2⟩⟩, ⟨hb.os, hb.tape, hb.output, hb.size, fun b hlt _ => hb.block b hlt⟩, fun b q => .inl q⟩
end Go.Proofs.YtbipjdgholdhcabGreat.T

namespace Go.Proofs.YtbipjdgholdhcabGreat.T
open Go.RowKit
set_option maxRecDepth 100000 in
set_option maxHeartbeats 1000000 in
theorem through_long (L : List Nd) (Ap : Option Addr) (cp : Nat) (sv : Value) (hlong : 2048 < L.length) (w : World) :
    Calls Tryz.prog 78 #[.slice Ap L.length cp, sv] w fun e w' => e = .returned (.tuple #[.int .i64 (ck L).1, .int .i64 (ck L).2]) ∧ w' = w := by
  have HE := (show Hid (ck L = (0, 2)) from ck_long hlong)
  have z : (2048 : Int) < (L.length : Int) := by omega
  go_enter Tryz.func78, Tryz.ntmps78
  go_wp2_with fail
  go_ret2
  exact ⟨by rw [HE.out]; rfl, rfl⟩

set_option maxRecDepth 100000 in
set_option maxHeartbeats 4000000 in
theorem names_any (L : List Nd) (Ap : Option Addr) (cp : Nat) (hL : L.length ≤ 140737488355328) (hT : ∀ n ∈ L, n.tx.size ≤ 140737488355328) (w : World) (hp : RdN w Ap L) :
    Calls Tryz.prog 109 #[.slice Ap L.length cp] w fun e w' => NmV w w' L e ∧ Below w.heap.size w w' := by
  obtain ⟨W2, hW2⟩ : ∃ W2, W2 = (w.alloc (.cells #[.slice Ap L.length cp] 50)).alloc (.cells #[.slice none 0 0] 149) := ⟨_, rfl⟩
  have hB1 := below_box w (.cells #[.slice Ap L.length cp] 50)
  have hB2 : Below w.heap.size w W2 := by rw [hW2]; exact hB1.alloc hB1.size _
  have hs2 : W2.heap.size = w.heap.size + 2 := by rw [hW2]; simp
  have e0 : W2.heap[w.heap.size]? = some (.cells #[.slice Ap L.length cp] 50 (0, 0)) := by
    rw [hW2, (below_box _ _).block _ (by simp)]
    exact heap_alloc_new w _
  have e1 : W2.heap[w.heap.size + 1]? = some (.cells #[.slice none 0 0] 149 (0, 0)) := by
    rw [hW2]
    have h := heap_alloc_new (w.alloc (.cells #[.slice Ap L.length cp] 50)) (.cells #[.slice none 0 0] 149)
    rw [World.size_alloc] at h
    exact h
  have k0 : W2.cell? ⟨w.heap.size, 0, none⟩ = some (.slice Ap L.length cp) := by rw [cell_of_row W2 _ 0 _ 50 (0, 0) e0]; rfl
  have HT : Hid (∀ _ : Unit, Calls Tryz.prog 78 #[.slice Ap L.length cp, .func (.func 114) #[] #[.pointer (some ⟨w.heap.size, 0, none⟩), .pointer (some ⟨w.heap.size + 1, 0, none⟩)]] W2 fun e w' => e = .returned (.tuple #[.int .i64 (ck L).1, .int .i64 (ck L).2]) ∧ Below w.heap.size W2 w' ∧ ((ck L).2 = 0 → ∃ v, TB w' (w.heap.size + 1) v ∧ w'.ownsRow w.heap.size 9 1 v (nmL L L.length).length (stc (nmL L L.length)))) := fun _ => by
    by_cases hlen : 2048 < L.length
    · exact (through_long L Ap cp _ hlen W2).mono fun e w' ⟨h1, h2⟩ => ⟨h1, by rw [h2]; exact Below.refl _ _, fun q => by rw [ck_long hlen] at q; cases q⟩
    · refine (through_any L 114 _ _ Ap cp w.heap.size hL hT W2 (by omega) (hp.below hB2 (Nat.le_refl _)) (fun hne a ha => by
        obtain ⟨g, o, e, lt, _⟩ := hp hne
        rw [e] at ha
        cases ha
        exact lt) enters49 (see49 L Ap cp w.heap.size (w.heap.size + 1) w.heap.size W2.heap.size (by omega)) (fun b => b = w.heap.size + 1) ⟨by omega, ⟨_, ⟨e1⟩, fun b => by simp [Value.ownBlock], World.ownsRow_nil _ _ _ _⟩, k0, fun hne => ?_⟩).mono fun e w' ⟨h1, h2, k, X, hj, hk⟩ => ⟨h1, h2, fun q => by
          obtain ⟨v, h3, _, h4⟩ := hj.s
          rw [hk q] at h4
          exact ⟨v, h3, own_base h4 (by omega)⟩⟩
      obtain ⟨g, o, e, lt, cl⟩ := hp hne
      exact ⟨g, o, e, lt, by omega, cl.same (hB2.block g lt)⟩
  have HB2 := (show Hid (Below w.heap.size w W2) from hB2)
  clear hB1 hB2 e0 e1 hp hT hs2
  have HE : Hid (nmE L = if (ck L).2 = 0 then nmL L L.length else []) := rfl
  subst hW2
  go_enter Tryz.func109, Tryz.ntmps109
  go_wp2_with fail
  refine (HT.out ()).mono ?_
  rintro e w3 ⟨rfl, b3, hn⟩
  have HB3 := (show Hid (Below w.heap.size w w3) from HB2.out.trans b3)
  clear HT b3 HB2 k0
  by_cases hc : (ck L).2 = 0
  · obtain ⟨v, h3, h4⟩ := hn hc
    have c0 := h3.c0
    have HI := (show Hid (nmE L = nmL L L.length ∧ (ck L).2 = 0) from ⟨by rw [HE.out, if_pos hc], hc⟩)
    have HO := (show Hid (w3.ownsRow w.heap.size 9 1 v (nmL L L.length).length (stc (nmL L L.length))) from h4)
    have t1 : ((ck L).2 != 0) = false := by rw [hc]; rfl
    clear hn hc HE h3 h4
    go_wp2_with fail
    go_ret2
    exact ⟨⟨v, by rw [HI.out.2]; rfl, by rw [HI.out.1]; exact HO.out⟩, HB3.out⟩
  · have HI := (show Hid (nmE L = []) from by show nmE L = _; rw [HE.out, if_neg hc])
    have t1 : ((ck L).2 != 0) = true := by rw [bne, beq_eq_false_iff_ne.2 hc]; rfl
    clear hn hc HE
    go_wp2_with fail
    go_ret2
    exact ⟨⟨_, rfl, by rw [HI.out]; exact World.ownsRow_nil _ _ _ _⟩, HB3.out⟩
end Go.Proofs.YtbipjdgholdhcabGreat.T

namespace Go.Proofs
open Go.Shelf
def Tryz.lays189_ren : Go.Shelf.Ren := ⟨fun | 189 => 110 | 125 => 118 | 257 => 117 | 128 => 129 | 129 => 130 | 294 => 120 | 295 => 121 | 296 => 122 | 297 => 123 | 298 => 124 | 299 => 125 | 216 => 126 | 300 => 127 | 301 => 128 | 328 => 131 | 329 => 132 | 330 => 133 | 331 => 134 | 332 => 135 | 215 => 136 | 343 => 137 | n => n, fun | 28 => 29 | 3 => 3 | 46 => 157 | 0 => 0 | 51 => 169 | 53 => 53 | 4 => 4 | 183 => 162 | 182 => 161 | 131 => 118 | 5 => 5 | 9 => 9 | 218 => 171 | 222 => 175 | 228 => 178 | 229 => 179 | n => n, fun | n => n⟩
theorem Tryz.lays189 : Go.Proofs.Lays.n189 Tryz.prog Tryz.lays189_ren := {
  mixed := by kernel_rfl
  f125 := Tryz.func118.trans (congrArg some (by kernel_rfl))
  f128 := Tryz.func129.trans (congrArg some (by kernel_rfl))
  f129 := Tryz.func130.trans (congrArg some (by kernel_rfl))
  f189 := Tryz.func110.trans (congrArg some (by kernel_rfl))
  f215 := Tryz.func136.trans (congrArg some (by kernel_rfl))
  f216 := Tryz.func126.trans (congrArg some (by kernel_rfl))
  f257 := Tryz.func117.trans (congrArg some (by kernel_rfl))
  f294 := Tryz.func120.trans (congrArg some (by kernel_rfl))
  f295 := Tryz.func121.trans (congrArg some (by kernel_rfl))
  f296 := Tryz.func122.trans (congrArg some (by kernel_rfl))
  f297 := Tryz.func123.trans (congrArg some (by kernel_rfl))
  f298 := Tryz.func124.trans (congrArg some (by kernel_rfl))
  f299 := Tryz.func125.trans (congrArg some (by kernel_rfl))
  f300 := Tryz.func127.trans (congrArg some (by kernel_rfl))
  f301 := Tryz.func128.trans (congrArg some (by kernel_rfl))
  f328 := Tryz.func131.trans (congrArg some (by kernel_rfl))
  f329 := Tryz.func132.trans (congrArg some (by kernel_rfl))
  f330 := Tryz.func133.trans (congrArg some (by kernel_rfl))
  f331 := Tryz.func134.trans (congrArg some (by kernel_rfl))
  f332 := Tryz.func135.trans (congrArg some (by kernel_rfl))
  f343 := Tryz.func137.trans (congrArg some (by kernel_rfl))
  t0 := Tryz.underlying0
  a0 := Tryz.isAgg0
  z0 := Tryz.sizeOf0
  v0 := Tryz.zeroValue0
  t3 := Tryz.underlying3
  a3 := Tryz.isAgg3
  z3 := Tryz.sizeOf3
  v3 := Tryz.zeroValue3
  t4 := Tryz.underlying4
  a4 := Tryz.isAgg4
  z4 := Tryz.sizeOf4
  v4 := Tryz.zeroValue4
  t5 := Tryz.underlying5
  a5 := Tryz.isAgg5
  z5 := Tryz.sizeOf5
  v5 := Tryz.zeroValue5
  t9 := Tryz.underlying9
  a9 := Tryz.isAgg9
  z9 := Tryz.sizeOf9
  v9 := Tryz.zeroValue9
  t28 := Tryz.underlying29
  a28 := Tryz.isAgg29
  z28 := Tryz.sizeOf29
  v28 := Tryz.zeroValue29
  t46 := Tryz.underlying157
  a46 := Tryz.isAgg157
  z46 := Tryz.sizeOf157
  v46 := Tryz.zeroValue157
  t51 := Tryz.underlying169
  a51 := Tryz.isAgg169
  z51 := Tryz.sizeOf169
  v51 := Tryz.zeroValue169
  t53 := Tryz.underlying53
  a53 := Tryz.isAgg53
  z53 := Tryz.sizeOf53
  v53 := Tryz.zeroValue53
  t131 := Tryz.underlying118
  a131 := Tryz.isAgg118
  z131 := Tryz.sizeOf118
  v131 := Tryz.zeroValue118
  t182 := Tryz.underlying161
  a182 := Tryz.isAgg161
  z182 := Tryz.sizeOf161
  v182 := Tryz.zeroValue161
  t183 := Tryz.underlying162
  a183 := Tryz.isAgg162
  z183 := Tryz.sizeOf162
  v183 := Tryz.zeroValue162
  t218 := Tryz.underlying171
  a218 := Tryz.isAgg171
  z218 := Tryz.sizeOf171
  v218 := Tryz.zeroValue171
  t222 := Tryz.underlying175
  a222 := Tryz.isAgg175
  z222 := Tryz.sizeOf175
  v222 := Tryz.zeroValue175
  t228 := Tryz.underlying178
  a228 := Tryz.isAgg178
  z228 := Tryz.sizeOf178
  v228 := Tryz.zeroValue178
  t229 := Tryz.underlying179
  a229 := Tryz.isAgg179
  z229 := Tryz.sizeOf179
  v229 := Tryz.zeroValue179 }
end Go.Proofs

namespace Go.Proofs.YtbipjdgholdhcabGreat.N
open Go.RowKit Go.Maps
open Go.Proofs.YtbipjdgholdhcabGreat.T
theorem sortI_any {w : World} {base n : Nat} {v : Value} {zs : List Int} (hn : n = zs.length) (hl : zs.length ≤ 1000000) (h : w.ownsRow base 3 1 v n (zs.map (Value.int .i64))) :
    Calls Tryz.prog 110 #[v] w fun e w' => e = .returned (.tuple #[]) ∧ w'.ownsRow base 3 1 v n ((zs.mergeSort fun x y => decide (x ≤ y)).map (Value.int .i64)) ∧ w.grownBy w' v.ownBlock := by
  subst hn
  rcases h.2 with ⟨rfl, h0⟩ | ⟨g, cap, cur, rfl, hb, hg, h1, h2, h3, h4⟩
  · have hz : zs = [] := List.eq_nil_of_length_eq_zero h0
    subst hz
    refine (Any.slices_Sort_int_none Tryz.lays189 none 0 w).mono ?_
    rintro e w' ⟨rfl, rfl⟩
    exact ⟨rfl, by rw [List.mergeSort_nil]; exact World.ownsRow_nil _ _ _ _, World.grownBy.refl _ _⟩
  · have hH := Go.holds_of_blockI hg (ss := zs) (by rw [← h4, Nat.mul_one])
    refine (calls_of_every_depth fun D => AnyS.slices_Sort_int_in Tryz.lays189 D g 0 cap zs w hH (Array.getElem?_eq_some_iff.1 hg).1 (by omega)).mono ?_
    rintro e w' ⟨rfl, k, os, rfl⟩
    exact ⟨rfl, ownsRow_sortedI (by rw [List.length_mergeSort]) hb hg h1 h2 h3, grownBy_sortedI _⟩
open U (nI own_get own_slice wpList_app1 below_grown)
/-- While the numbers of names are laid down. -/
structure ClS (w wr : World) (gs : GL) (ns : List ByteArray) (v u : Value) (l : List Nat) : Prop where
  b : Below w.heap.size w wr
  o : wr.ownsRow w.heap.size 9 1 v ns.length (stc ns)
  r : wr.ownsRow w.heap.size 3 1 u l.length (l.map nI)
  x : ∀ (j : Nat) s, j < l.length → ns[j]? = some s → ∃ i, l[j]? = some i ∧ fdG gs s = some i
theorem nI_map (l : List Nat) : l.map nI = (l.map fun (x : Nat) => (x : Int)).map (Value.int .i64) := by rw [List.map_map]; rfl
theorem ClS.push {w wr w5 : World} {gs : GL} {ns : List ByteArray} {v u u' : Value} {l : List Nat} {s : ByteArray} {i : Nat} (h : ClS w wr gs ns v u l) (hs : ns[l.length]? = some s) (hf : fdG gs s = some i) (ho : w5.ownsRow w.heap.size 3 1 u' (l.length + 1) (l.map nI ++ [nI i])) (hg : wr.grownBy w5 u.ownBlock) : ClS w w5 gs ns v u' (l ++ [i]) := by
  refine ⟨below_grown h.b hg (fun k e => (h.r.lt k e).1), U.own_kept h.o hg (fun k e => own_apart h.r h.o (by decide) e), ?_, fun j t hj ht => ?_⟩
  · rw [List.length_append, List.map_append]; exact ho
  · rw [List.length_append] at hj
    by_cases q : j < l.length
    · obtain ⟨a, a1, a2⟩ := h.x j t q ht
      exact ⟨a, by rw [List.getElem?_append_left q]; exact a1, a2⟩
    · have e : j = l.length := by simp at hj; omega
      subst e
      rw [hs] at ht
      cases ht
      exact ⟨i, by rw [List.getElem?_append_right (Nat.le_refl _), Nat.sub_self]; rfl, hf⟩
theorem ClS.sorted {w wr : World} {gs : GL} {ns : List ByteArray} {v u : Value} {l : List Nat} {r : Nat} (h : ClS w wr gs ns v u l) (hl : l.length = ns.length) (hn : ns.length ≤ 2048)
    (hF : ∀ l : List Nat, l.length = ns.length → (∀ (k : Nat) s, ns[k]? = some s → ∃ j, l[k]? = some j ∧ fdG gs s = some j) → (l.map fun (x : Nat) => (x : Int)).mergeSort (fun x y => decide (x ≤ y)) = (cL gs r).map fun (x : Nat) => (x : Int)) :
    Calls Tryz.prog 110 #[u] wr fun e w' => e = .returned (.tuple #[]) ∧ w'.ownsRow w.heap.size 3 1 u (cL gs r).length ((cL gs r).map nI) ∧ Below w.heap.size w w' := by
  have h1 := h.r
  rw [nI_map] at h1
  have hs := hF l hl (fun j s hs => h.x j s (by have := (List.getElem?_eq_some_iff.1 hs).1; omega) hs)
  have hlen : (cL gs r).length = l.length := by
    have := congrArg List.length hs
    rw [List.length_mergeSort, List.length_map, List.length_map] at this
    exact this.symm
  refine (sortI_any (zs := l.map fun (x : Nat) => (x : Int)) (by rw [List.length_map]) (by rw [List.length_map]; omega) h1).mono ?_
  rintro e w' ⟨rfl, h2, h3⟩
  rw [hs, ← nI_map] at h2
  rw [hlen]
  exact ⟨rfl, h2, below_grown h.b h3 (fun k e => (h.r.lt k e).1)⟩
set_option maxRecDepth 100000 in
set_option maxHeartbeats 8000000 in
theorem calledBy_any {gs : GL} (hR : RtG gs) {r : Nat} {g : ByteArray × List Nd} (hgr : gs[r]? = some g) (A : Option Addr) (c B : Nat) (hL : g.2.length ≤ 2048) (hT : ∀ n ∈ g.2, n.tx.size ≤ 140737488355328) (w : World) (hp : RdN w A g.2) (hm : NmM w B gs) :
    Calls Tryz.prog 98 #[.slice A g.2.length c, .map (some B)] w fun e w' => (∃ v, e = .returned v ∧ w'.ownsRow w.heap.size 3 1 v (cL gs r).length ((cL gs r).map nI)) ∧ Below w.heap.size w w' := by
  have hck : (ck g.2).2 = 0 := hR.ck g (List.mem_of_getElem? hgr)
  have hnE : nmE g.2 = nmL g.2 g.2.length := by unfold nmE; rw [if_pos hck]
  obtain ⟨ns, hns⟩ : ∃ ns, ns = nmL g.2 g.2.length := ⟨_, rfl⟩
  have HN : Hid (∀ _ : Unit, Calls Tryz.prog 109 #[.slice A g.2.length c] w fun e w' => (∃ v, e = .returned (.tuple #[v, .int .i64 (ck g.2).2]) ∧ w'.ownsRow w.heap.size 9 1 v ns.length (stc ns)) ∧ Below w.heap.size w w') := fun _ => by
    have h := names_any g.2 A c (by omega) hT w hp
    unfold NmV at h
    rw [hnE, ← hns] at h
    exact h
  have HKn := (show Hid (∀ k, k < ns.length → ∃ s i, ns[k]? = some s ∧ s.size ≤ 140737488355328 ∧ fdG gs s = some i ∧ i < gs.length) from fun k hk => by
    have hs : ns[k]? = some ns[k] := List.getElem?_eq_getElem hk
    have hmem : ns[k] ∈ nmL g.2 g.2.length := by rw [← hns]; exact List.getElem_mem hk
    obtain ⟨n, n1, n2, n3⟩ := nmL_all.1 hmem
    obtain ⟨i, hi⟩ := hR.dn.c g (List.mem_of_getElem? hgr) n n1 n2
    exact ⟨ns[k], i, hs, by rw [← n3]; exact hT n n1, by rw [← n3]; exact hi, fdG_lt hi⟩)
  have hnl : ns.length ≤ 2048 := by rw [hns]; have := nmL_len g.2 g.2.length; omega
  have hg200 : gs.length ≤ 200 := hR.n2
  have HFin := (show Hid (∀ l : List Nat, l.length = ns.length → (∀ (k : Nat) s, ns[k]? = some s → ∃ j, l[k]? = some j ∧ fdG gs s = some j) → (l.map fun (x : Nat) => (x : Int)).mergeSort (fun x y => decide (x ≤ y)) = (cL gs r).map fun (x : Nat) => (x : Int)) from fun l h1 h2 => called_sort hR hgr (by rw [← hns]; exact h1) (by rw [← hns]; exact h2))
  have HM := (show Hid (NmM w B gs) from hm)
  clear hp hm hT hck hnE hns hR hgr
  go_enter Tryz.func98, Tryz.ntmps98
  go_wp2_with fail
  refine (HN.out ()).mono ?_
  rintro e w1 ⟨⟨v, rfl, ho⟩, b1⟩
  obtain ⟨A1, c1, rfl⟩ := own_slice ho
  have HS := (show Hid (ClS w w1 gs ns (.slice A1 ns.length c1) (.slice none 0 0) []) from ⟨b1, ho, World.ownsRow_nil _ _ _ _, fun j s hj => by cases hj⟩)
  clear HN b1 ho
  generalize (ck g.2).2 = cd at *
  go_wp2_with fail
  go_loopw [7, 17] (fun u t wr => ∃ (k : Nat) (l : List Nat) (A2 : Option Addr) (c2 : Nat), k ≤ ns.length ∧ t = .int .i64 (k : Int) ∧ u = .slice A2 k c2 ∧ Hid (l.length = k) ∧ Hid (ClS w wr gs ns (.slice A1 ns.length c1) (.slice A2 k c2) l)) (fun _ t _ => ns.length - (intOf t).toNat)
  case atStart => exact ⟨0, [], none, 0, by omega, by go_num, rfl, rfl, HS⟩
  case round =>
    obtain ⟨k, l, A2, c2, hk, rfl, rfl, HLk, HW⟩ := hrel
    clear HS
    by_cases hlt : k < ns.length
    · obtain ⟨s, i, hs, hsz, hf, hi⟩ := HKn.out k hlt
      obtain ⟨g1, cap1, e1, lb1, l1, x1, _⟩ := own_get HW.out.o (j := k) (x := .string s) (by unfold stc; rw [List.getElem?_map, hs]; rfl)
      cases e1
      have hrun : (Instr.lookup 63 (.map (some B)) (.string s) false).run Tryz.prog wr = .ok (.int .i64 i) wr := NmM.look0 (HM.out.same (HW.out.b.block B HM.out.lt)) hsz hf
      have z0 : (0 : Int) ≤ (k : Int) := by omega
      have z1 : (k : Int) < (ns.length : Int) := by omega
      have HO := (show Hid (wr.ownsRow w.heap.size 3 1 (.slice A2 k c2) k (l.map nI)) from by have h := HW.out.r; rw [HLk.out] at h; exact h)
      have HBw := (show Hid (w.heap.size ≤ wr.heap.size) from HW.out.b.size)
      have HPu := (show Hid (∀ (u' : Value) (w5 : World), w5.ownsRow w.heap.size 3 1 u' (k + 1) (l.map nI ++ [nI i]) → wr.grownBy w5 (Value.slice A2 k c2).ownBlock → ClS w w5 gs ns (.slice (some ⟨g1, 0, none⟩) ns.length c1) u' (l ++ [i])) from fun u' w5 h1 h2 => HW.out.push (by rw [HLk.out]; exact hs) hf (by rw [HLk.out]; exact h1) h2)
      have HL2 := (show Hid ((l ++ [i]).length = k + 1) from by show _ = _; rw [List.length_append, HLk.out]; rfl)
      clear HW hs hf hsz lb1 l1 HLk
      go_wp2_with (at_builtin; refine wpList_app1 rfl _ _ 29 rfl (.int .i64 0) 8 Tryz.underlying29 Tryz.info3 rfl w.heap.size k _ (l.map nI) rfl rfl HO.out rfl (by omega) (by decide) HBw.out ?_; intro g3 cap3 w5 ho5 hg5 hat5 hl5; have HW5 := (show Hid (ClS w w5 gs ns (.slice (some ⟨g1, 0, none⟩) ns.length c1) (.slice (some ⟨g3, 0, none⟩) (k + 1) cap3) (l ++ [i])) from HPu.out _ _ ho5 hg5); clear ho5 hg5 hat5 hl5 HPu HO HBw hrun x1)
      go_roundw
      case rel => exact ⟨k + 1, l ++ [i], some ⟨g3, 0, none⟩, cap3, by omega, by go_num, rfl, HL2, HW5⟩
      case measure => simp [intOf]; omega
    · obtain rfl : k = ns.length := by omega
      have HC := (show Hid (∀ _ : Unit, Calls Tryz.prog 110 #[.slice A2 ns.length c2] wr fun e w' => e = .returned (.tuple #[]) ∧ w'.ownsRow w.heap.size 3 1 (.slice A2 ns.length c2) (cL gs r).length ((cL gs r).map nI) ∧ Below w.heap.size w w') from fun _ => HW.out.sorted HLk.out hnl HFin.out)
      clear HFin HW HKn HM HLk
      go_wp2_with fail
      refine (HC.out ()).mono ?_
      rintro e w6 ⟨rfl, ho6, hb6⟩
      have HB6 := (show Hid (Below w.heap.size w w6) from hb6)
      have HO6 := (show Hid (w6.ownsRow w.heap.size 3 1 (.slice A2 ns.length c2) (cL gs r).length ((cL gs r).map nI)) from ho6)
      clear HC ho6 hb6
      go_wp2_with fail
      go_ret
      exact ⟨⟨_, rfl, HO6.out⟩, HB6.out⟩
end Go.Proofs.YtbipjdgholdhcabGreat.N

namespace Go.Proofs.YtbipjdgholdhcabGreat.N
open Go.RowKit Go.Maps
open Go.Proofs.YtbipjdgholdhcabGreat.T

open U (nI own_get own_slice wpList_app1 below_grown TT Out)
/-- A net: of each rule what it calls. -/
def ntM (gs : GL) : List (List Value) := (List.range gs.length).map fun i => (cL gs i).map nI
theorem ntM_len (gs : GL) : (ntM gs).length = gs.length := by unfold ntM; rw [List.length_map, List.length_range]
theorem ntM_get {gs : GL} {i : Nat} (h : i < gs.length) : (ntM gs)[i]? = some ((cL gs i).map nI) := by
  unfold ntM
  rw [List.getElem?_map, List.getElem?_range h]; rfl
theorem Tryz.info37 : (Tryz.prog.info? 29).map (fun i => (i.zero, i.size, i.bytes)) = some (some (.slice none 0 0), 1, 24) := by kernel_rfl
/-- What a step of the range tells: a name and its number. -/
theorem step_nm {gs : GL} {D : DataW Unit} (hD : NmD D gs) {key v : Value} {kl : Lit} {y : DataW Unit × List MemPlace} (hkey : keyOf Tryz.prog 9 key = some kl) (hv : plainElem Tryz.prog 3 v = some y) (hat : ∀ zd, D.atKey kl zd = y.1) : ∃ (s : ByteArray) (i : Nat), kl = .string s.data.toList ∧ v = .int .i64 i ∧ fdG gs s = some i := by
  obtain ⟨x, rfl, rfl, _⟩ := Maps.keyOf_str Tryz.underlying9 hkey
  obtain ⟨c, rfl, rfl, _⟩ := plainElem_int_inv Tryz.underlying3 hv
  have hh := has_true_of_atKey hat
  obtain ⟨h1, h2⟩ := hD ⟨x.toArray⟩
  have hx : (⟨x.toArray⟩ : ByteArray).data.toList = x := rfl
  rw [hx] at h1 h2
  rw [hh] at h1
  cases hf : fdG gs ⟨x.toArray⟩ with
  | none => rw [hf] at h1; cases h1
  | some i =>
    have e := h2 i hf (.lit (.int .i64 0))
    rw [hat] at e
    injection e with e
    injection e with _ e
    exact ⟨⟨x.toArray⟩, i, rfl, by rw [e], hf⟩
/-- While the net is made. -/
structure NtS (w wr : World) (gs : GL) (B r cnt : Nat) (D : DataW Unit) (left : Lit → Bool) (g : Nat) (M : List (List Value)) (xs : List Value) (u : Value) : Prop where
  b : Below w.heap.size w wr
  x : GX wr w.heap.size u
  rg : wr.ranges Tryz.prog 9 (plainElem Tryz.prog 3) B r gs.length D left cnt
  t : TT wr w.heap.size 29 3 (.slice (some ⟨g, 0, none⟩) gs.length gs.length) M xs
  ln : M.length = gs.length
  gr : w.heap.size < g ∧ g < r
  dn : ∀ (s : ByteArray) (i : Nat), fdG gs s = some i → left (.string s.data.toList) = false → M[i]? = some ((cL gs i).map nI)
theorem same_str {a b : ByteArray} : (Lit.string a.data.toList).sameKey (.string b.data.toList) = true ↔ a = b := by
  constructor
  · intro h
    have := WideAt.sameKey_eq h
    injection this with e
    exact ByteArray.ext (Array.ext' e)
  · rintro rfl
    simp [Lit.sameKey]
/-- One name is gone over. -/
theorem NtS.put {w wr wA w4 : World} {gs : GL} {B r cnt cnt1 g : Nat} {D : DataW Unit} {left : Lit → Bool} {M : List (List Value)} {xs : List Value} {u v4 : Value} {s : ByteArray} {i : Nat} (h : NtS w wr gs B r cnt D left g M xs u) (_hd : Dn gs) (hf : fdG gs s = some i)
    (hA : wr.grownBy wA (some r)) (hrg : wA.ranges Tryz.prog 9 (plainElem Tryz.prog 3) B r gs.length D (fun z => left z && !z.sameKey (.string s.data.toList)) cnt1)
    (hsz : wA.heap.size = wr.heap.size) (hB : B < w.heap.size) (hb : Below wA.heap.size wA w4) (ho : w4.ownsRow wA.heap.size 3 1 v4 (cL gs i).length ((cL gs i).map nI)) :
    ∃ M2 xs2, NtS w (w4.setCell ⟨g, i, none⟩ v4) gs B r cnt1 D (fun z => left z && !z.sameKey (.string s.data.toList)) g M2 xs2 u := by
  have hlx : xs.length = gs.length := h.t.len.trans h.ln
  have hr := h.rg.lt
  have hwr := h.b.size
  have ht : TT wr w.heap.size 29 3 (.slice (some ⟨g, 0, none⟩) xs.length gs.length) M xs := by rw [hlx]; exact h.t
  have hout : Out (.slice (some ⟨g, 0, none⟩) xs.length gs.length) xs r := by
    refine ⟨fun e => ?_, fun j x hj e => ?_⟩
    · have e : g = r := Option.some.inj e
      have := h.gr.2
      omega
    · obtain ⟨row, _, hrow⟩ := ht.both hj
      obtain ⟨cur, hc⟩ := own_ty hrow e
      obtain ⟨_, _, _, _, _, _, _, _, _, hh, _⟩ := h.rg
      rw [hc] at hh
      cases hh
  have hi : i < gs.length := fdG_lt hf
  have ht2 : TT w4 w.heap.size 29 3 (.slice (some ⟨g, 0, none⟩) xs.length gs.length) M xs := (ht.turn hout hA).below hb
  have hnew : ∀ k, v4.ownBlock = some k → Out (.slice (some ⟨g, 0, none⟩) xs.length gs.length) xs k := fun k hk => by
    have := (ho.lt k hk).1
    exact ht.new (by omega)
  have ht3 := ht2.put (y := v4) (s := (cL gs i).map nI) (by rw [List.length_map]; exact U.own_base ho (by omega)) hnew (i := i) (by omega)
  have hst := (ht2.o.stored i v4).2
  have hgw : Below w.heap.size w wA := below_grown h.b hA (fun k e => by cases e; have := h.gr; omega)
  have hg4 : Below w.heap.size w w4 := hgw.trans (hb.mono hgw.size)
  refine ⟨M.set i ((cL gs i).map nI), xs.set i v4, below_grown hg4 hst (fun k e => by cases e; have := h.gr; omega), ?_, ?_, ?_, by rw [List.length_set]; exact h.ln, h.gr, ?_⟩
  · refine ((h.x.same (hA.block _ h.x.lt (fun e => by injection e with e; have := h.gr; omega))).below hb).same (hst.block _ ?_ (fun e => by injection e with e; have := h.gr; omega))
    exact ((h.x.same (hA.block _ h.x.lt (fun e => by injection e with e; have := h.gr; omega))).below hb).lt
  · exact (hrg.kept (U.below_grow hb none) (by simp) (by simp)).kept hst (fun e => by injection e with e; have := h.gr; omega) (fun e => by injection e with e; have := h.gr; omega)
  · rw [hlx] at ht3; exact ht3
  · intro t j ht hl
    by_cases e : s = t
    · subst e
      rw [hf] at ht
      cases ht
      rw [List.getElem?_set_self (by rw [h.ln]; exact hi)]
    · have hij : i ≠ j := fun q => by
        subst q
        obtain ⟨x, x1, x2, _⟩ := fdG_some hf
        obtain ⟨y, y1, y2, _⟩ := fdG_some ht
        rw [x1] at y1
        cases y1
        exact e (x2.symm.trans y2)
      rw [List.getElem?_set_ne hij]
      refine h.dn t j ht ?_
      cases q : left (.string t.data.toList)
      · rfl
      · have hs : (Lit.string t.data.toList).sameKey (.string s.data.toList) = false := by
          cases q2 : (Lit.string t.data.toList).sameKey (.string s.data.toList)
          · rfl
          · exact absurd (same_str.1 q2).symm e
        simp only [q, hs] at hl
        cases hl
end Go.Proofs.YtbipjdgholdhcabGreat.N
