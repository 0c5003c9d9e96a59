/- DERIVED. Plain mathematics and walks, laid together (6). -/
import Derived.Maps.OwnOps
import Derived.Deep.RegionLaw
import Derived.Test.YtbnihflihelimaaGreatHa05
namespace Go.Proofs.YtbnihflihelimaaGreat.N
open Go.RowKit Go.Maps
open Go.Proofs.YtbnihflihelimaaGreat.T
/-- A rule in a box of its own. -/
structure RB (W : World) (b : Nat) (s : ByteArray) (v : Value) : Prop where
  heap : W.heap[b]? = some (.cells #[.string s, v] 50 (0, 0))
theorem RB.lt {W : World} {b : Nat} {s : ByteArray} {v : Value} (h : RB W b s v) : b < W.heap.size := (Array.getElem?_eq_some_iff.1 h.heap).1
theorem RB.c0 {W : World} {b : Nat} {s : ByteArray} {v : Value} (h : RB W b s v) : W.cell? ⟨b, 0, none⟩ = some (.string s) := by rw [cell_of_row W b 0 _ 50 (0, 0) h.heap]; rfl
theorem RB.c1 {W : World} {b : Nat} {s : ByteArray} {v : Value} (h : RB W b s v) : W.cell? ⟨b, 1, none⟩ = some v := by rw [cell_of_row W b 1 _ 50 (0, 0) h.heap]; rfl
theorem RB.same {W W' : World} {b : Nat} {s : ByteArray} {v : Value} (h : RB W b s v) (hb : W'.heap[b]? = W.heap[b]?) : RB W' b s v := ⟨hb.trans h.heap⟩
theorem RB.later {W W' : World} {b : Nat} {s : ByteArray} {v : Value} (h : RB W b s v) (hb : Below W.heap.size W W') : RB W' b s v := h.same (hb.block b h.lt)
theorem NuS.put {w wX w1 : World} {u : Value} {gs : GL} {g : ByteArray × List Nd} {k : Nat} {D : DataW Unit} {B : Nat} (hB : B = w.heap.size + 2) (h : UnS w wX u B gs) (hg : wX.grownBy w1 (some B)) (ho : w1.ownsMap Tryz.prog 9 (plainElem Tryz.prog 3) B (k + 1) (D.put (.string g.1.data.toList) (.lit (.int .i64 k)))) (hD : NmD D gs) (hf : fdG gs g.1 = none) (hk : gs.length = k) : UnS w w1 u B (gs ++ [g]) := by
  obtain ⟨D0, h1, _⟩ := h.m.ex
  have hm : Maps.IsMap D := by
    obtain ⟨es, clock, _, _, _, e⟩ := ho
    cases D with
    | map es => exact ⟨es, rfl⟩
    | _ => cases e
  refine ⟨h.b.grown hg h.b.size (fun j hj => by cases hj; omega), h.x.same (hg.block _ h.x.lt (fun e => by injection e with e; omega)), h.s.same (hg.block _ h.s.lt (fun e => by injection e with e; omega)), ⟨⟨D.put (.string g.1.data.toList) (.lit (.int .i64 k)), ?_, ?_⟩⟩⟩
  · rw [List.length_append, List.length_singleton, hk]; exact ho
  · have := NmD.put hm hD g hf
    rw [hk] at this
    exact this
/-- What numbered answers. -/
def NuV (w w' : World) (gs : GL) (e : Ending) : Prop := ((ckG gs).2 ≠ 0 ∧ e = .returned (.tuple #[.map none, .agg #[.int .i64 (ckG gs).1.1, .int .i64 (ckG gs).1.2], .int .i64 (ckG gs).2])) ∨ ((ckG gs).2 = 0 ∧ ∃ B, w.heap.size ≤ B ∧ e = .returned (.tuple #[.map (some B), .agg #[.int .i64 0, .int .i64 0], .int .i64 0]) ∧ NmM w' B gs)
theorem ckG_err {gs : GL} (h0 : ¬ gs.length = 0) (h2 : ¬ 200 < gs.length) : ∀ r, c1G gs 0 0 gs = r → r.2 ≠ 0 → ckG gs = r := fun r h hr => by
  unfold ckG
  rw [if_neg h0, if_neg h2, if_pos (by rw [h]; exact hr), h]
theorem ckG_un {gs : GL} (h0 : ¬ gs.length = 0) (h2 : ¬ 200 < gs.length) (h : c1G gs 0 0 gs = ((0, 0), 0)) : ckG gs = unG gs 0 gs := by
  unfold ckG
  rw [if_neg h0, if_neg h2, if_neg (by rw [h]; simp)]
set_option maxRecDepth 100000 in
set_option maxHeartbeats 32000000 in
theorem numb_any (gs : GL) (A : Option Addr) (c : Nat) (hl : gs.length ≤ 140737488355328) (hT : ∀ g ∈ gs, g.1.size ≤ 140737488355328 ∧ g.2.length ≤ 140737488355328 ∧ ∀ n ∈ g.2, n.tx.size ≤ 140737488355328) (w : World) (hp : GrD w A gs) :
    Calls Tryz.prog 117 #[.agg #[.slice A gs.length c]] w fun e w' => NuV w w' gs e ∧ Below w.heap.size w w' := by
  obtain ⟨w1, hw1⟩ : ∃ w1, w1 = (w.alloc (.cells #[.slice A gs.length c] 24)).alloc (.cells #[.int .i64 0, .int .i64 0] 60) := ⟨_, rfl⟩
  have HS : Hid (Below w.heap.size w w1 ∧ GX w1 w.heap.size (.slice A gs.length c) ∧ SX w1 (w.heap.size + 1) 0 0 ∧ w1.heap.size = w.heap.size + 2) := by
    show _ ∧ _ ∧ _ ∧ _
    rw [hw1]
    exact ⟨((Below.refl _ _).alloc (Nat.le_refl _) _).alloc (by rw [World.size_alloc]; omega) _, (GX.mk (heap_alloc_new w _)).below (below_box _ _), ⟨by have h := heap_alloc_new (w.alloc (.cells #[.slice A gs.length c] 24)) (.cells #[.int .i64 0, .int .i64 0] 60); rw [World.size_alloc] at h; exact h⟩, by simp⟩
  have q1 := HS.out.2.1.cl
  obtain ⟨mb, hmb⟩ : ∃ mb, mb = w.heap.size + 1 + 1 := ⟨_, rfl⟩
  have HMb := (show Hid (mb = w.heap.size + 2) from hmb)
  by_cases h0 : gs.length = 0
  · have HF := (show Hid (ckG gs = ((0, 0), 3)) from by show ckG gs = _; unfold ckG; rw [if_pos h0])
    have t0 : ((gs.length : Int) == 0) = true := beq_iff_eq.2 (by omega)
    have HBz := (show Hid (Below w.heap.size w w1) from HS.out.1)
    have c0 := HS.out.2.2.1.c0
    have c1 := HS.out.2.2.1.c1
    have f0 := HS.out.2.2.1.fz 0
    have f1 := HS.out.2.2.1.fz 1
    clear h0 hp hT HS
    go_enter Tryz.func117, Tryz.ntmps117
    go_wp2_with fail
    rw [← hw1]
    go_wp2_with fail
    refine bodyPost_ret (v := .tuple #[.map none, .agg #[.int .i64 0, .int .i64 0], .int .i64 3]) (by simp [results, Tryz.results117, go_sem, c0, c1]) rfl ⟨.inl ⟨by rw [HF.out]; decide, by rw [HF.out]; rfl⟩, HBz.out⟩
  have t0 : ((gs.length : Int) == 0) = false := beq_eq_false_iff_ne.2 (by omega)
  by_cases h2 : 200 < gs.length
  · have HF := (show Hid (ckG gs = ((0, 0), 2)) from by show ckG gs = _; unfold ckG; rw [if_neg h0, if_pos h2])
    have t2 : (200 : Int) < (gs.length : Int) := by omega
    have HBz := (show Hid (Below w.heap.size w w1) from HS.out.1)
    have c0 := HS.out.2.2.1.c0
    have c1 := HS.out.2.2.1.c1
    have f0 := HS.out.2.2.1.fz 0
    have f1 := HS.out.2.2.1.fz 1
    clear h0 hp hT h2 HS
    go_enter Tryz.func117, Tryz.ntmps117
    go_wp2_with fail
    rw [← hw1]
    go_wp2_with fail
    refine bodyPost_ret (v := .tuple #[.map none, .agg #[.int .i64 0, .int .i64 0], .int .i64 2]) (by simp [results, Tryz.results117, go_sem, c0, c1]) rfl ⟨.inl ⟨by rw [HF.out]; decide, by rw [HF.out]; rfl⟩, HBz.out⟩
  have t2 : ¬ (200 : Int) < (gs.length : Int) := by omega
  have hl200 : gs.length ≤ 200 := by omega
  have HE := (show Hid (∀ r, c1G gs 0 0 gs = r → r.2 ≠ 0 → ckG gs = r) from ckG_err h0 h2)
  have HEu := (show Hid (c1G gs 0 0 gs = ((0, 0), 0) → ckG gs = unG gs 0 gs) from ckG_un h0 h2)
  have HP := (show Hid (GrD w A gs) from hp)
  have HTT := (show Hid (∀ g ∈ gs, g.1.size ≤ 140737488355328 ∧ g.2.length ≤ 140737488355328 ∧ ∀ n ∈ g.2, n.tx.size ≤ 140737488355328) from hT)
  have HG := (show Hid (∀ k, k < gs.length → ∃ g, gs[k]? = some g ∧ g.1.size ≤ 140737488355328 ∧ g.2.length ≤ 140737488355328 ∧ (∀ n ∈ g.2, n.tx.size ≤ 140737488355328) ∧ gs.drop k = g :: gs.drop (k + 1)) from fun k hk => ⟨_, List.getElem?_eq_getElem hk, (hT _ (List.getElem_mem hk)).1, (hT _ (List.getElem_mem hk)).2.1, (hT _ (List.getElem_mem hk)).2.2, List.drop_eq_getElem_cons hk⟩)
  have HM := (show Hid (UnS w (w1.alloc (.map #[] 0)) (.slice A gs.length c) mb (gs.take 0)) from ⟨HS.out.1.alloc HS.out.1.size _, HS.out.2.1.below (below_box _ _), HS.out.2.2.1.below (below_box _ _), by have h := NmM.nil w1; rw [HS.out.2.2.2, ← HMb.out] at h; exact h⟩)
  have hsz := HS.out.2.2.2
  have hmm := @run_makeMap Tryz.prog
  clear h0 hp hT h2 HS
  go_enter Tryz.func117, Tryz.ntmps117
  go_wp2_with fail
  rw [← hw1]
  go_wp2_with fail
  rw [← hmb]
  clear hmm q1 hw1 hmb hsz
  generalize w1.alloc (.map #[] 0) = w2 at *
  go_loopw [6, 30] (fun v t wr => ∃ k m : Nat, k ≤ gs.length ∧ t = .int .i64 k ∧ v = .int .i64 m ∧ m ≤ 2048 ∧ Hid (c1G gs 0 0 gs = c1G gs k m (gs.drop k)) ∧ Hid (UnS w wr (.slice A gs.length c) mb (gs.take k))) (fun _ t _ => gs.length - (intOf t).toNat)
  case atStart => exact ⟨0, 0, by omega, by go_num, by go_num, by omega, rfl, HM⟩
  case round =>
    obtain ⟨k, m, hk, rfl, rfl, hm, HX0, HW⟩ := hrel
    clear HM
    by_cases hlt : k < gs.length
    · obtain ⟨g, hg, s1, s2, s3, hd⟩ := HG.out k hlt
      obtain ⟨b, o, A2, c2, rfl, lb, x0, x1, r2⟩ := HP.out k g hg
      have x0' := (HW.out.b.cell (p := ⟨b, o + k * 2, none⟩) lb).trans x0
      have x1' := (HW.out.b.cell (p := ⟨b, o + k * 2 + 1, none⟩) lb).trans x1
      clear x0 x1
      have z0 : (0 : Int) ≤ (k : Int) := by omega
      have z1 : (k : Int) < (gs.length : Int) := by omega
      have HRn := (show Hid (wr.heap.size ≠ mb) from by have := HW.out.m.lt; show wr.heap.size ≠ mb; omega)
      have HR0 := (show Hid (RB (wr.alloc (.cells #[.string g.1, .slice A2 g.2.length c2] 50)) wr.heap.size g.1 (.slice A2 g.2.length c2)) from ⟨heap_alloc_new wr _⟩)
      have HS0 := (show Hid (UnS w (wr.alloc (.cells #[.string g.1, .slice A2 g.2.length c2] 50)) (.slice (some ⟨b, o, none⟩) gs.length c) mb (gs.take k)) from HW.out.later (below_box _ _))
      have HNm : Hid (∀ W, Calls Tryz.prog 129 #[.string g.1] W fun e W' => e = .returned (.bool (nmB g.1)) ∧ Below W.heap.size W W') := fun W => nameP_any g.1 s1 W
      have HCk : Hid (∀ W, Below w.heap.size w W → Calls Tryz.prog 130 #[.slice A2 g.2.length c2] W fun e w' => e = .returned (.tuple #[.int .i64 (ck g.2).1, .int .i64 (ck g.2).2]) ∧ Below W.heap.size W w') := fun W hW => check_any g.2 A2 c2 s2 s3 W (r2.below hW (Nat.le_refl _))
      have hgk := hg
      have HX1 := (show Hid (c1G gs 0 0 gs = if ¬ (nmB g.1 = true ∨ (g.1.size = 0 ∧ gs.length = 1)) then ((k, 0), 6) else if tw gs g.1 k = true then ((k, 0), 80) else if (ck g.2).2 ≠ 0 then ((k, (ck g.2).1), (ck g.2).2) else if 2048 < m + g.2.length then ((k, 0), 2) else c1G gs (k + 1) (m + g.2.length) (gs.drop (k + 1))) from by show c1G gs 0 0 gs = _; rw [HX0.out, hd, c1G])
      have HSz := (show Hid (g.2.length ≤ 140737488355328) from s2)
      clear hg r2 s2 s3 HW HX0 hd
      have q3 := HS0.out.x.cl
      by_cases hs0 : g.1.size = 0
      · have te : (g.1.toList == []) = true := by
          have e := emp_t hs0
          rw [List.isEmpty_iff] at e
          rw [e]; rfl
        have te2 := emp_t hs0
        by_cases hl1 : gs.length = 1
        · have tl : ((gs.length : Int) == 1) = true := beq_iff_eq.2 (by omega)
          have HX := (show Hid (c1G gs 0 0 gs = if tw gs g.1 k = true then ((k, 0), 80) else if (ck g.2).2 ≠ 0 then ((k, (ck g.2).1), (ck g.2).2) else if 2048 < m + g.2.length then ((k, 0), 2) else c1G gs (k + 1) (m + g.2.length) (gs.drop (k + 1))) from by show c1G gs 0 0 gs = _; rw [HX1.out, if_neg (fun q => q (.inr ⟨hs0, hl1⟩))])
          clear HX1 hl1 hs0 HNm HEu HTT
          have HS := HS0
          have HR := HR0
          clear HS0 HR0
          obtain ⟨cc, hrun, _⟩ := HS.out.m.look g.1 s1
          by_cases htw : tw gs g.1 k = true
          · have HF := (show Hid (ckG gs = ((k, 0), 80)) from HE.out _ (by rw [HX.out, if_pos htw]) (by show (80 : Int) ≠ 0; decide))
            rw [← tw_take gs g.1 k (by omega), htw] at hrun
            have y0 := HR.out.c0
            clear HX HE HCk HR HG HP htw HSz
            have HZ := (show Hid (SX (((wr.alloc (.cells #[.string g.1, .slice A2 g.2.length c2] 50)).setCell ⟨w.heap.size + 1, 0, none⟩ (.int .i64 (k : Int))).setCell ⟨w.heap.size + 1, 1, none⟩ (.int .i64 0)) (w.heap.size + 1) (k : Int) 0) from HS.out.s.set _ _)
            have HBz := (show Hid (Below w.heap.size w (((wr.alloc (.cells #[.string g.1, .slice A2 g.2.length c2] 50)).setCell ⟨w.heap.size + 1, 0, none⟩ (.int .i64 (k : Int))).setCell ⟨w.heap.size + 1, 1, none⟩ (.int .i64 0))) from set_below (set_below HS.out.b (Nat.le_succ _)) (Nat.le_succ _))
            have c0 := HS.out.s.c0
            have c1 := HS.out.s.c1
            have f0 := HS.out.s.fz 0
            have f1 := HS.out.s.fz 1
            clear HS
            go_wp2_with fail
            have d0 := HZ.out.c0
            have d1 := HZ.out.c1
            clear c0 c1 f0 f1
            generalize ((wr.alloc (.cells #[.string g.1, .slice A2 g.2.length c2] 50)).setCell ⟨w.heap.size + 1, 0, none⟩ (.int .i64 (k : Int))).setCell ⟨w.heap.size + 1, 1, none⟩ (.int .i64 0) = wZ at *
            refine bodyPost_ret (v := .tuple #[.map none, .agg #[.int .i64 (k : Int), .int .i64 0], .int .i64 80]) (by simp [results, Tryz.results117, go_sem, d0, d1]) rfl ⟨.inl ⟨by rw [HF.out]; show (80 : Int) ≠ 0; decide, by rw [HF.out]; try rfl⟩, HBz.out⟩
          · have htw2 : tw gs g.1 k = false := by cases q : tw gs g.1 k; rfl; exact absurd q htw
            rw [← tw_take gs g.1 k (by omega), htw2] at hrun
            have HX2 := (show Hid (c1G gs 0 0 gs = if (ck g.2).2 ≠ 0 then ((k, (ck g.2).1), (ck g.2).2) else if 2048 < m + g.2.length then ((k, 0), 2) else c1G gs (k + 1) (m + g.2.length) (gs.drop (k + 1))) from by show c1G gs 0 0 gs = _; rw [HX.out, if_neg htw])
            have hfd : fdG (gs.take k) g.1 = none := by
              have := tw_take gs g.1 k (by omega)
              rw [htw2] at this
              cases q : fdG (gs.take k) g.1 with
              | none => rfl
              | some i => rw [q] at this; cases this
            obtain ⟨D, hown, hD⟩ := HS.out.m.ex
            have HD := (show Hid (NmD D (gs.take k)) from hD)
            have hlk : (gs.take k).length = k := by rw [List.length_take]; omega
            rw [hlk] at hown
            have HFd := (show Hid (fdG (gs.take k) g.1 = none) from hfd)
            have HLk := (show Hid ((gs.take k).length = k) from hlk)
            have HGk := (show Hid (gs.take (k + 1) = gs.take k ++ [g]) from by rw [List.take_add_one, hgk]; rfl)
            have HPut := (show Hid (∀ w1, ((wr.alloc (.cells #[.string g.1, .slice A2 g.2.length c2] 50))).grownBy w1 (some mb) → w1.ownsMap Tryz.prog 9 (plainElem Tryz.prog 3) mb (k + 1) (D.put (.string g.1.data.toList) (.lit (.int .i64 k))) → UnS w w1 (.slice (some ⟨b, o, none⟩) gs.length c) mb (gs.take (k + 1))) from fun w1 hgrow1 hown1 => by
              show UnS w w1 _ _ _
              rw [HGk.out]
              exact NuS.put HMb.out HS.out hgrow1 hown1 HD.out HFd.out HLk.out)
            have y0 := HR.out.c0
            have y1 := HR.out.c1
            have hkey := key_of s1
            clear HX htw htw2 hD hfd hlk hgk HD HFd HLk HGk
            go_wp2_with (
              at_mapUpdate
              refine wpList_mapUpdate_own _ rfl _ _ _ 52 rfl 9 3 keyed Tryz.underlying52 _ mb k D rfl hown (by unfold maxLen; omega) _ _ (.string g.1.data.toList) rfl rfl hkey _ [] (plainElem_int Tryz.underlying3 (WalkArith.wf_i64 (by omega))) ?_
              intro w1 hown1 hgrow1
              have HS1 := (show Hid (UnS w w1 (.slice (some ⟨b, o, none⟩) gs.length c) mb (gs.take (k + 1))) from HPut.out w1 hgrow1 hown1)
              have HR1 := (show Hid (RB w1 wr.heap.size g.1 (.slice A2 g.2.length c2)) from HR.out.same (hgrow1.block wr.heap.size HR.out.lt (fun e => by injection e with e; exact HRn.out e)))
              have z1' := HR1.out.c1
              clear hown hown1 hgrow1 y0 y1 hrun HS HR HPut)
            refine (HCk.out _ HS1.out.b).mono ?_
            rintro e w4 ⟨rfl, b4⟩
            have HS := (show Hid (UnS w w4 (.slice (some ⟨b, o, none⟩) gs.length c) mb (gs.take (k + 1))) from HS1.out.later b4)
            have y1 := (HR1.out.later b4).c1
            clear HCk b4 HS1 HR1 z1'
            by_cases hc : (ck g.2).2 = 0
            · have tc : ((ck g.2).2 != 0) = false := by rw [hc]; rfl
              have hg3 : g.2.length ≤ 2048 := by
                by_cases q : g.2.length ≤ 2048
                · exact q
                · have := ck_long (L := g.2) (by omega)
                  rw [this] at hc
                  exact absurd hc (by decide)
              have HV := (show Hid (c1G gs 0 0 gs = if 2048 < m + g.2.length then ((k, 0), 2) else c1G gs (k + 1) (m + g.2.length) (gs.drop (k + 1))) from by show c1G gs 0 0 gs = _; rw [HX2.out, if_neg (by rw [hc]; simp)])
              generalize hcc : (ck g.2).2 = cc2 at *
              clear hcc HX2
              by_cases hn : 2048 < m + g.2.length
              · have HF := (show Hid (ckG gs = ((k, 0), 2)) from HE.out _ (by rw [HV.out, if_pos hn]) (by show (2 : Int) ≠ 0; decide))
                have tn : (2048 : Int) < (m : Int) + (g.2.length : Int) := by omega
                clear HV HE HG HP hn
                have HZ := (show Hid (SX ((w4.setCell ⟨w.heap.size + 1, 0, none⟩ (.int .i64 (k : Int))).setCell ⟨w.heap.size + 1, 1, none⟩ (.int .i64 0)) (w.heap.size + 1) (k : Int) 0) from HS.out.s.set _ _)
                have HBz := (show Hid (Below w.heap.size w ((w4.setCell ⟨w.heap.size + 1, 0, none⟩ (.int .i64 (k : Int))).setCell ⟨w.heap.size + 1, 1, none⟩ (.int .i64 0))) from set_below (set_below HS.out.b (Nat.le_succ _)) (Nat.le_succ _))
                have c0 := HS.out.s.c0
                have c1 := HS.out.s.c1
                have f0 := HS.out.s.fz 0
                have f1 := HS.out.s.fz 1
                clear HS
                go_wp2_with fail
                have d0 := HZ.out.c0
                have d1 := HZ.out.c1
                clear c0 c1 f0 f1
                generalize (w4.setCell ⟨w.heap.size + 1, 0, none⟩ (.int .i64 (k : Int))).setCell ⟨w.heap.size + 1, 1, none⟩ (.int .i64 0) = wZ at *
                refine bodyPost_ret (v := .tuple #[.map none, .agg #[.int .i64 (k : Int), .int .i64 0], .int .i64 2]) (by simp [results, Tryz.results117, go_sem, d0, d1]) rfl ⟨.inl ⟨by rw [HF.out]; show (2 : Int) ≠ 0; decide, by rw [HF.out]; try rfl⟩, HBz.out⟩
              · have HX3 := (show Hid (c1G gs 0 0 gs = c1G gs (k + 1) (m + g.2.length) (gs.drop (k + 1))) from by show c1G gs 0 0 gs = _; rw [HV.out, if_neg hn])
                have tn : ¬ (2048 : Int) < (m : Int) + (g.2.length : Int) := by omega
                clear HV
                go_wp2_with fail
                go_roundw
                case rel => exact ⟨k + 1, m + g.2.length, by omega, by go_num, by go_num, by omega, HX3, HS⟩
                case measure => simp [intOf]; omega
            · have tc : ((ck g.2).2 != 0) = true := by rw [bne, beq_eq_false_iff_ne.2 hc]; rfl
              have HF := (show Hid (ckG gs = ((k, (ck g.2).1), (ck g.2).2)) from HE.out _ (by rw [HX2.out, if_pos hc]) hc)
              have HC := (show Hid ((ck g.2).2 ≠ 0) from hc)
              clear HX2 HE HG HP hc
              generalize hcc : (ck g.2).2 = cc2 at *
              generalize hcd : (ck g.2).1 = cc1 at *
              clear hcc hcd
              have HZ := (show Hid (SX ((w4.setCell ⟨w.heap.size + 1, 0, none⟩ (.int .i64 (k : Int))).setCell ⟨w.heap.size + 1, 1, none⟩ (.int .i64 (cc1 : Int))) (w.heap.size + 1) (k : Int) (cc1 : Int)) from HS.out.s.set _ _)
              have HBz := (show Hid (Below w.heap.size w ((w4.setCell ⟨w.heap.size + 1, 0, none⟩ (.int .i64 (k : Int))).setCell ⟨w.heap.size + 1, 1, none⟩ (.int .i64 (cc1 : Int)))) from set_below (set_below HS.out.b (Nat.le_succ _)) (Nat.le_succ _))
              have c0 := HS.out.s.c0
              have c1 := HS.out.s.c1
              have f0 := HS.out.s.fz 0
              have f1 := HS.out.s.fz 1
              clear HS
              go_wp2_with fail
              have d0 := HZ.out.c0
              have d1 := HZ.out.c1
              clear c0 c1 f0 f1
              generalize (w4.setCell ⟨w.heap.size + 1, 0, none⟩ (.int .i64 (k : Int))).setCell ⟨w.heap.size + 1, 1, none⟩ (.int .i64 (cc1 : Int)) = wZ at *
              refine bodyPost_ret (v := .tuple #[.map none, .agg #[.int .i64 (k : Int), .int .i64 (cc1 : Int)], .int .i64 cc2]) (by simp [results, Tryz.results117, go_sem, d0, d1]) rfl ⟨.inl ⟨by rw [HF.out]; exact HC.out, by rw [HF.out]; try rfl⟩, HBz.out⟩
        · have tl : ((gs.length : Int) == 1) = false := beq_eq_false_iff_ne.2 (by omega)
          have hnb : nmB g.1 = false := nmB_f (fun h => by have := h.1; omega)
          have HF := (show Hid (ckG gs = ((k, 0), 6)) from HE.out _ (by rw [HX1.out, if_pos (by rintro (q | q); rw [hnb] at q; cases q; exact hl1 q.2)]) (by show (6 : Int) ≠ 0; decide))
          rw [hnb] at HNm
          clear HX1 HE HG HP hl1 hs0 hgk HCk HEu HTT
          go_wp2_with fail
          refine (HNm.out _).mono ?_
          rintro e w3 ⟨rfl, b3⟩
          have HS := (show Hid (UnS w w3 (.slice (some ⟨b, o, none⟩) gs.length c) mb (gs.take k)) from HS0.out.later b3)
          clear HNm b3 HR0 HS0
          have HZ := (show Hid (SX ((w3.setCell ⟨w.heap.size + 1, 0, none⟩ (.int .i64 (k : Int))).setCell ⟨w.heap.size + 1, 1, none⟩ (.int .i64 0)) (w.heap.size + 1) (k : Int) 0) from HS.out.s.set _ _)
          have HBz := (show Hid (Below w.heap.size w ((w3.setCell ⟨w.heap.size + 1, 0, none⟩ (.int .i64 (k : Int))).setCell ⟨w.heap.size + 1, 1, none⟩ (.int .i64 0))) from set_below (set_below HS.out.b (Nat.le_succ _)) (Nat.le_succ _))
          have c0 := HS.out.s.c0
          have c1 := HS.out.s.c1
          have f0 := HS.out.s.fz 0
          have f1 := HS.out.s.fz 1
          clear HS
          go_wp2_with fail
          have d0 := HZ.out.c0
          have d1 := HZ.out.c1
          clear c0 c1 f0 f1
          generalize (w3.setCell ⟨w.heap.size + 1, 0, none⟩ (.int .i64 (k : Int))).setCell ⟨w.heap.size + 1, 1, none⟩ (.int .i64 0) = wZ at *
          refine bodyPost_ret (v := .tuple #[.map none, .agg #[.int .i64 (k : Int), .int .i64 0], .int .i64 6]) (by simp [results, Tryz.results117, go_sem, d0, d1]) rfl ⟨.inl ⟨by rw [HF.out]; show (6 : Int) ≠ 0; decide, by rw [HF.out]; try rfl⟩, HBz.out⟩
      · have te : (g.1.toList == []) = false := by
          have e := emp_f hs0
          cases hl : g.1.toList with
          | nil => rw [hl] at e; cases e
          | cons x r => rfl
        have te2 := emp_f hs0
        cases hnb : nmB g.1
        · have HF := (show Hid (ckG gs = ((k, 0), 6)) from HE.out _ (by rw [HX1.out, if_pos (by rintro (q | q); rw [hnb] at q; cases q; exact hs0 q.1)]) (by show (6 : Int) ≠ 0; decide))
          rw [hnb] at HNm
          clear HX1 HE HG HP hs0 hgk HCk HEu HTT
          go_wp2_with fail
          refine (HNm.out _).mono ?_
          rintro e w3 ⟨rfl, b3⟩
          have HS := (show Hid (UnS w w3 (.slice (some ⟨b, o, none⟩) gs.length c) mb (gs.take k)) from HS0.out.later b3)
          clear HNm b3 HR0 HS0
          have HZ := (show Hid (SX ((w3.setCell ⟨w.heap.size + 1, 0, none⟩ (.int .i64 (k : Int))).setCell ⟨w.heap.size + 1, 1, none⟩ (.int .i64 0)) (w.heap.size + 1) (k : Int) 0) from HS.out.s.set _ _)
          have HBz := (show Hid (Below w.heap.size w ((w3.setCell ⟨w.heap.size + 1, 0, none⟩ (.int .i64 (k : Int))).setCell ⟨w.heap.size + 1, 1, none⟩ (.int .i64 0))) from set_below (set_below HS.out.b (Nat.le_succ _)) (Nat.le_succ _))
          have c0 := HS.out.s.c0
          have c1 := HS.out.s.c1
          have f0 := HS.out.s.fz 0
          have f1 := HS.out.s.fz 1
          clear HS
          go_wp2_with fail
          have d0 := HZ.out.c0
          have d1 := HZ.out.c1
          clear c0 c1 f0 f1
          generalize (w3.setCell ⟨w.heap.size + 1, 0, none⟩ (.int .i64 (k : Int))).setCell ⟨w.heap.size + 1, 1, none⟩ (.int .i64 0) = wZ at *
          refine bodyPost_ret (v := .tuple #[.map none, .agg #[.int .i64 (k : Int), .int .i64 0], .int .i64 6]) (by simp [results, Tryz.results117, go_sem, d0, d1]) rfl ⟨.inl ⟨by rw [HF.out]; show (6 : Int) ≠ 0; decide, by rw [HF.out]; try rfl⟩, HBz.out⟩
        · have HX := (show Hid (c1G gs 0 0 gs = if tw gs g.1 k = true then ((k, 0), 80) else if (ck g.2).2 ≠ 0 then ((k, (ck g.2).1), (ck g.2).2) else if 2048 < m + g.2.length then ((k, 0), 2) else c1G gs (k + 1) (m + g.2.length) (gs.drop (k + 1))) from by show c1G gs 0 0 gs = _; rw [HX1.out, if_neg (fun q => q (.inl hnb))])
          rw [hnb] at HNm
          clear HX1 hs0 hnb HEu HTT
          go_wp2_with fail
          refine (HNm.out _).mono ?_
          rintro e wX ⟨rfl, b3⟩
          have HS := (show Hid (UnS w wX (.slice (some ⟨b, o, none⟩) gs.length c) mb (gs.take k)) from HS0.out.later b3)
          have HR := (show Hid (RB wX wr.heap.size g.1 (.slice A2 g.2.length c2)) from HR0.out.later b3)
          clear HNm b3 HR0 HS0 x0' x1'
          obtain ⟨cc, hrun, _⟩ := HS.out.m.look g.1 s1
          by_cases htw : tw gs g.1 k = true
          · have HF := (show Hid (ckG gs = ((k, 0), 80)) from HE.out _ (by rw [HX.out, if_pos htw]) (by show (80 : Int) ≠ 0; decide))
            rw [← tw_take gs g.1 k (by omega), htw] at hrun
            have y0 := HR.out.c0
            clear HX HE HCk HR HG HP htw HSz
            have HZ := (show Hid (SX ((wX.setCell ⟨w.heap.size + 1, 0, none⟩ (.int .i64 (k : Int))).setCell ⟨w.heap.size + 1, 1, none⟩ (.int .i64 0)) (w.heap.size + 1) (k : Int) 0) from HS.out.s.set _ _)
            have HBz := (show Hid (Below w.heap.size w ((wX.setCell ⟨w.heap.size + 1, 0, none⟩ (.int .i64 (k : Int))).setCell ⟨w.heap.size + 1, 1, none⟩ (.int .i64 0))) from set_below (set_below HS.out.b (Nat.le_succ _)) (Nat.le_succ _))
            have c0 := HS.out.s.c0
            have c1 := HS.out.s.c1
            have f0 := HS.out.s.fz 0
            have f1 := HS.out.s.fz 1
            clear HS
            go_wp2_with fail
            have d0 := HZ.out.c0
            have d1 := HZ.out.c1
            clear c0 c1 f0 f1
            generalize (wX.setCell ⟨w.heap.size + 1, 0, none⟩ (.int .i64 (k : Int))).setCell ⟨w.heap.size + 1, 1, none⟩ (.int .i64 0) = wZ at *
            refine bodyPost_ret (v := .tuple #[.map none, .agg #[.int .i64 (k : Int), .int .i64 0], .int .i64 80]) (by simp [results, Tryz.results117, go_sem, d0, d1]) rfl ⟨.inl ⟨by rw [HF.out]; show (80 : Int) ≠ 0; decide, by rw [HF.out]; try rfl⟩, HBz.out⟩
          · have htw2 : tw gs g.1 k = false := by cases q : tw gs g.1 k; rfl; exact absurd q htw
            rw [← tw_take gs g.1 k (by omega), htw2] at hrun
            have HX2 := (show Hid (c1G gs 0 0 gs = if (ck g.2).2 ≠ 0 then ((k, (ck g.2).1), (ck g.2).2) else if 2048 < m + g.2.length then ((k, 0), 2) else c1G gs (k + 1) (m + g.2.length) (gs.drop (k + 1))) from by show c1G gs 0 0 gs = _; rw [HX.out, if_neg htw])
            have hfd : fdG (gs.take k) g.1 = none := by
              have := tw_take gs g.1 k (by omega)
              rw [htw2] at this
              cases q : fdG (gs.take k) g.1 with
              | none => rfl
              | some i => rw [q] at this; cases this
            obtain ⟨D, hown, hD⟩ := HS.out.m.ex
            have HD := (show Hid (NmD D (gs.take k)) from hD)
            have hlk : (gs.take k).length = k := by rw [List.length_take]; omega
            rw [hlk] at hown
            have HFd := (show Hid (fdG (gs.take k) g.1 = none) from hfd)
            have HLk := (show Hid ((gs.take k).length = k) from hlk)
            have HGk := (show Hid (gs.take (k + 1) = gs.take k ++ [g]) from by rw [List.take_add_one, hgk]; rfl)
            have HPut := (show Hid (∀ w1, (wX).grownBy w1 (some mb) → w1.ownsMap Tryz.prog 9 (plainElem Tryz.prog 3) mb (k + 1) (D.put (.string g.1.data.toList) (.lit (.int .i64 k))) → UnS w w1 (.slice (some ⟨b, o, none⟩) gs.length c) mb (gs.take (k + 1))) from fun w1 hgrow1 hown1 => by
              show UnS w w1 _ _ _
              rw [HGk.out]
              exact NuS.put HMb.out HS.out hgrow1 hown1 HD.out HFd.out HLk.out)
            have y0 := HR.out.c0
            have y1 := HR.out.c1
            have hkey := key_of s1
            clear HX htw htw2 hD hfd hlk hgk HD HFd HLk HGk
            go_wp2_with (
              at_mapUpdate
              refine wpList_mapUpdate_own _ rfl _ _ _ 52 rfl 9 3 keyed Tryz.underlying52 _ mb k D rfl hown (by unfold maxLen; omega) _ _ (.string g.1.data.toList) rfl rfl hkey _ [] (plainElem_int Tryz.underlying3 (WalkArith.wf_i64 (by omega))) ?_
              intro w1 hown1 hgrow1
              have HS1 := (show Hid (UnS w w1 (.slice (some ⟨b, o, none⟩) gs.length c) mb (gs.take (k + 1))) from HPut.out w1 hgrow1 hown1)
              have HR1 := (show Hid (RB w1 wr.heap.size g.1 (.slice A2 g.2.length c2)) from HR.out.same (hgrow1.block wr.heap.size HR.out.lt (fun e => by injection e with e; exact HRn.out e)))
              have z1' := HR1.out.c1
              clear hown hown1 hgrow1 y0 y1 hrun HS HR HPut)
            refine (HCk.out _ HS1.out.b).mono ?_
            rintro e w4 ⟨rfl, b4⟩
            have HS := (show Hid (UnS w w4 (.slice (some ⟨b, o, none⟩) gs.length c) mb (gs.take (k + 1))) from HS1.out.later b4)
            have y1 := (HR1.out.later b4).c1
            clear HCk b4 HS1 HR1 z1'
            by_cases hc : (ck g.2).2 = 0
            · have tc : ((ck g.2).2 != 0) = false := by rw [hc]; rfl
              have hg3 : g.2.length ≤ 2048 := by
                by_cases q : g.2.length ≤ 2048
                · exact q
                · have := ck_long (L := g.2) (by omega)
                  rw [this] at hc
                  exact absurd hc (by decide)
              have HV := (show Hid (c1G gs 0 0 gs = if 2048 < m + g.2.length then ((k, 0), 2) else c1G gs (k + 1) (m + g.2.length) (gs.drop (k + 1))) from by show c1G gs 0 0 gs = _; rw [HX2.out, if_neg (by rw [hc]; simp)])
              generalize hcc : (ck g.2).2 = cc2 at *
              clear hcc HX2
              by_cases hn : 2048 < m + g.2.length
              · have HF := (show Hid (ckG gs = ((k, 0), 2)) from HE.out _ (by rw [HV.out, if_pos hn]) (by show (2 : Int) ≠ 0; decide))
                have tn : (2048 : Int) < (m : Int) + (g.2.length : Int) := by omega
                clear HV HE HG HP hn
                have HZ := (show Hid (SX ((w4.setCell ⟨w.heap.size + 1, 0, none⟩ (.int .i64 (k : Int))).setCell ⟨w.heap.size + 1, 1, none⟩ (.int .i64 0)) (w.heap.size + 1) (k : Int) 0) from HS.out.s.set _ _)
                have HBz := (show Hid (Below w.heap.size w ((w4.setCell ⟨w.heap.size + 1, 0, none⟩ (.int .i64 (k : Int))).setCell ⟨w.heap.size + 1, 1, none⟩ (.int .i64 0))) from set_below (set_below HS.out.b (Nat.le_succ _)) (Nat.le_succ _))
                have c0 := HS.out.s.c0
                have c1 := HS.out.s.c1
                have f0 := HS.out.s.fz 0
                have f1 := HS.out.s.fz 1
                clear HS
                go_wp2_with fail
                have d0 := HZ.out.c0
                have d1 := HZ.out.c1
                clear c0 c1 f0 f1
                generalize (w4.setCell ⟨w.heap.size + 1, 0, none⟩ (.int .i64 (k : Int))).setCell ⟨w.heap.size + 1, 1, none⟩ (.int .i64 0) = wZ at *
                refine bodyPost_ret (v := .tuple #[.map none, .agg #[.int .i64 (k : Int), .int .i64 0], .int .i64 2]) (by simp [results, Tryz.results117, go_sem, d0, d1]) rfl ⟨.inl ⟨by rw [HF.out]; show (2 : Int) ≠ 0; decide, by rw [HF.out]; try rfl⟩, HBz.out⟩
              · have HX3 := (show Hid (c1G gs 0 0 gs = c1G gs (k + 1) (m + g.2.length) (gs.drop (k + 1))) from by show c1G gs 0 0 gs = _; rw [HV.out, if_neg hn])
                have tn : ¬ (2048 : Int) < (m : Int) + (g.2.length : Int) := by omega
                clear HV
                go_wp2_with fail
                go_roundw
                case rel => exact ⟨k + 1, m + g.2.length, by omega, by go_num, by go_num, by omega, HX3, HS⟩
                case measure => simp [intOf]; omega
            · have tc : ((ck g.2).2 != 0) = true := by rw [bne, beq_eq_false_iff_ne.2 hc]; rfl
              have HF := (show Hid (ckG gs = ((k, (ck g.2).1), (ck g.2).2)) from HE.out _ (by rw [HX2.out, if_pos hc]) hc)
              have HC := (show Hid ((ck g.2).2 ≠ 0) from hc)
              clear HX2 HE HG HP hc
              generalize hcc : (ck g.2).2 = cc2 at *
              generalize hcd : (ck g.2).1 = cc1 at *
              clear hcc hcd
              have HZ := (show Hid (SX ((w4.setCell ⟨w.heap.size + 1, 0, none⟩ (.int .i64 (k : Int))).setCell ⟨w.heap.size + 1, 1, none⟩ (.int .i64 (cc1 : Int))) (w.heap.size + 1) (k : Int) (cc1 : Int)) from HS.out.s.set _ _)
              have HBz := (show Hid (Below w.heap.size w ((w4.setCell ⟨w.heap.size + 1, 0, none⟩ (.int .i64 (k : Int))).setCell ⟨w.heap.size + 1, 1, none⟩ (.int .i64 (cc1 : Int)))) from set_below (set_below HS.out.b (Nat.le_succ _)) (Nat.le_succ _))
              have c0 := HS.out.s.c0
              have c1 := HS.out.s.c1
              have f0 := HS.out.s.fz 0
              have f1 := HS.out.s.fz 1
              clear HS
              go_wp2_with fail
              have d0 := HZ.out.c0
              have d1 := HZ.out.c1
              clear c0 c1 f0 f1
              generalize (w4.setCell ⟨w.heap.size + 1, 0, none⟩ (.int .i64 (k : Int))).setCell ⟨w.heap.size + 1, 1, none⟩ (.int .i64 (cc1 : Int)) = wZ at *
              refine bodyPost_ret (v := .tuple #[.map none, .agg #[.int .i64 (k : Int), .int .i64 (cc1 : Int)], .int .i64 cc2]) (by simp [results, Tryz.results117, go_sem, d0, d1]) rfl ⟨.inl ⟨by rw [HF.out]; exact HC.out, by rw [HF.out]; try rfl⟩, HBz.out⟩
    · obtain rfl : k = gs.length := by omega
      have HE2 := (show Hid (ckG gs = unG gs 0 gs) from HEu.out (by rw [HX0.out, List.drop_length]; rfl))
      have HS := (show Hid (UnS w wr (.slice A gs.length c) mb gs) from by show UnS w wr _ _ gs; have h := HW.out; rw [List.take_length] at h; exact h)
      have HUn := (show Hid (∀ _ : Unit, Calls Tryz.prog 131 #[.agg #[.slice A gs.length c], .map (some mb)] wr fun e w' => e = .returned (.tuple #[.agg #[.int .i64 (unG gs 0 gs).1.1, .int .i64 (unG gs 0 gs).1.2], .int .i64 (unG gs 0 gs).2]) ∧ Below wr.heap.size wr w') from fun _ => unknown_any gs A c mb hl HTT.out wr (HP.out.later HS.out.b) HS.out.m)
      have q3 := HS.out.x.cl
      clear HX0 HG HP HW HE HEu HTT
      go_wp2_with fail
      refine (HUn.out ()).mono ?_
      rintro e w5 ⟨rfl, b5⟩
      obtain ⟨wX, hwX⟩ : ∃ wX, wX = w5.alloc (.cells #[.int .i64 ((unG gs 0 gs).1.1 : Int), .int .i64 ((unG gs 0 gs).1.2 : Int)] 60) := ⟨_, rfl⟩
      have HS5 := (show Hid (UnS w wX (.slice A gs.length c) mb gs ∧ SX wX w5.heap.size ((unG gs 0 gs).1.1 : Int) ((unG gs 0 gs).1.2 : Int)) from by
        show _ ∧ _
        rw [hwX]
        exact ⟨(HS.out.later b5).later (below_box _ _), ⟨heap_alloc_new _ _⟩⟩)
      have HMx := (show Hid (mb ≠ w.heap.size + 1 ∧ w.heap.size ≤ mb) from by show _ ∧ _; rw [HMb.out]; omega)
      clear HUn b5 HS q3
      by_cases hz : (unG gs 0 gs).2 = 0
      · have HF := (show Hid ((ckG gs).2 = 0) from by show _ = _; rw [HE2.out]; exact hz)
        have tz : ((unG gs 0 gs).2 != 0) = false := by rw [hz]; rfl
        have HZ := (show Hid (SX ((wX.setCell ⟨w.heap.size + 1, 0, none⟩ (.int .i64 0)).setCell ⟨w.heap.size + 1, 1, none⟩ (.int .i64 0)) (w.heap.size + 1) 0 0) from HS5.out.1.s.set _ _)
        have HBz := (show Hid (Below w.heap.size w ((wX.setCell ⟨w.heap.size + 1, 0, none⟩ (.int .i64 0)).setCell ⟨w.heap.size + 1, 1, none⟩ (.int .i64 0))) from set_below (set_below HS5.out.1.b (Nat.le_succ _)) (Nat.le_succ _))
        have HMz := (show Hid (NmM ((wX.setCell ⟨w.heap.size + 1, 0, none⟩ (.int .i64 0)).setCell ⟨w.heap.size + 1, 1, none⟩ (.int .i64 0)) mb gs) from (HS5.out.1.m.same (heap_setCell_other _ _ _ _ HMx.out.1)).same (heap_setCell_other _ _ _ _ HMx.out.1))
        have c0 := HS5.out.1.s.c0
        have c1 := HS5.out.1.s.c1
        have f0 := HS5.out.1.s.fz 0
        have f1 := HS5.out.1.s.fz 1
        clear HS5 HE2 hz
        subst hwX
        generalize (unG gs 0 gs).2 = cc2 at *
        go_wp2_with fail
        have d0 := HZ.out.c0
        have d1 := HZ.out.c1
        clear c0 c1 f0 f1
        generalize ((w5.alloc (.cells #[.int .i64 ((unG gs 0 gs).1.1 : Int), .int .i64 ((unG gs 0 gs).1.2 : Int)] 60)).setCell ⟨w.heap.size + 1, 0, none⟩ (.int .i64 0)).setCell ⟨w.heap.size + 1, 1, none⟩ (.int .i64 0) = wZ at *
        refine bodyPost_ret (v := .tuple #[.map (some mb), .agg #[.int .i64 0, .int .i64 0], .int .i64 0]) (by simp [results, Tryz.results117, go_sem, d0, d1]) rfl ⟨.inr ⟨HF.out, mb, HMx.out.2, rfl, HMz.out⟩, HBz.out⟩
      · have tz : ((unG gs 0 gs).2 != 0) = true := by rw [bne, beq_eq_false_iff_ne.2 hz]; rfl
        have HF := (show Hid (ckG gs = unG gs 0 gs) from HE2.out)
        have HC := (show Hid ((unG gs 0 gs).2 ≠ 0) from hz)
        have HZ := (show Hid (SX (((wX.setCell ⟨w.heap.size + 1, 0, none⟩ (.int .i64 ((unG gs 0 gs).1.1 : Int))).setCell ⟨w.heap.size + 1, 1, none⟩ (.int .i64 ((unG gs 0 gs).1.2 : Int))).drew) (w.heap.size + 1) ((unG gs 0 gs).1.1 : Int) ((unG gs 0 gs).1.2 : Int)) from (HS5.out.1.s.set _ _).below (Below.refl _ _).drew)
        have HBz := (show Hid (Below w.heap.size w (((wX.setCell ⟨w.heap.size + 1, 0, none⟩ (.int .i64 ((unG gs 0 gs).1.1 : Int))).setCell ⟨w.heap.size + 1, 1, none⟩ (.int .i64 ((unG gs 0 gs).1.2 : Int))).drew)) from (set_below (set_below HS5.out.1.b (Nat.le_succ _)) (Nat.le_succ _)).drew)
        have HF2 := (show Hid ((ckG gs).1.1 = (unG gs 0 gs).1.1 ∧ (ckG gs).1.2 = (unG gs 0 gs).1.2 ∧ (ckG gs).2 = (unG gs 0 gs).2) from by show _ ∧ _; rw [HF.out]; exact ⟨rfl, rfl, rfl⟩)
        have c0 := HS5.out.1.s.c0
        have c1 := HS5.out.1.s.c1
        have f0 := HS5.out.1.s.fz 0
        have f1 := HS5.out.1.s.fz 1
        have e0 := HS5.out.2.c0
        have e1 := HS5.out.2.c1
        clear HS5 HE2 hz HMx HF
        generalize (unG gs 0 gs).1.1 = ca at *
        generalize (unG gs 0 gs).1.2 = cb at *
        generalize (unG gs 0 gs).2 = cd at *
        go_wp2_with fail
        rw [← hwX]
        clear hwX
        go_region
        all_goals (go_wp2_with fail)
        all_goals
          have d0 := HZ.out.c0
          have d1 := HZ.out.c1
          clear c0 c1 f0 f1 e0 e1
          generalize ((wX.setCell ⟨w.heap.size + 1, 0, none⟩ (.int .i64 (ca : Int))).setCell ⟨w.heap.size + 1, 1, none⟩ (.int .i64 (cb : Int))).drew = wZ at *
          refine bodyPost_ret (v := .tuple #[.map none, .agg #[.int .i64 (ca : Int), .int .i64 (cb : Int)], .int .i64 cd]) (by simp [results, Tryz.results117, go_sem, d0, d1]) rfl ⟨.inl ⟨by rw [HF2.out.2.2]; exact HC.out, by rw [HF2.out.1, HF2.out.2.1, HF2.out.2.2]⟩, HBz.out⟩
end Go.Proofs.YtbnihflihelimaaGreat.N

namespace Go.Proofs.YtbnihflihelimaaGreat.N
open Go.RowKit Go.Maps
open Go.Proofs.YtbnihflihelimaaGreat.T
/-- Calls of two slots, as one step of a region that draws its order. -/
theorem step_call2 {F : Nat} (hen : ∀ args w, (callFunc F args).run Tryz.prog w = .ok (.enter F args) w) {ops : Array Oper} {o : Oper} {a : Act} {w : World} {K : Act → World → Prop} {Q : Exit → Act → World → Prop} {E : Prop} (hgd : o.guard = none) (x y : Nat) (T U : TypeId) (ho : o.op = .call { callee := .value (.func F), args := #[.tmp x, .tmp y], argTypes := #[T, U] }) (u v : Value) (hx : a.eval (.tmp x) = u) (hy : a.eval (.tmp y) = v)
    (hc : Calls Tryz.prog F #[u, v] w fun e w' => ∃ r, e = .returned r ∧ K (a.put o.dst r) w') :
    if Region.wanted o (yielded ops a.tmps) = true then Oper.wp Tryz.prog o a w K Q else E := by
  have hw : Region.wanted o (yielded ops a.tmps) = true := by simp [Region.wanted, hgd]
  rw [if_pos hw]
  have he : (execOp a.eval o).run Tryz.prog w = .ok (.enter F #[u, v]) w := by
    have hx2 : a.tmps[x]?.getD undef = u := by simpa [Act.eval] using hx
    have hy2 : a.tmps[y]?.getD undef = v := by simpa [Act.eval] using hy
    unfold execOp
    simp [ho, go_sem, invoke, hen]
    exact ⟨hx2, hy2⟩
  unfold Oper.wp
  rw [he, Oper.upon_enter]
  refine hc.mono ?_
  rintro e w' ⟨r, rfl, hk⟩
  exact hk
theorem enters_seq (args : Array Value) (w : World) : (callFunc 114 args).run Tryz.prog w = .ok (.enter 114 args) w := enters_of Tryz.func114 (by kernel_rfl) rfl args w
theorem enters_cho (args : Array Value) (w : World) : (callFunc 115 args).run Tryz.prog w = .ok (.enter 115 args) w := enters_of Tryz.func115 (by kernel_rfl) rfl args w
theorem enters_abo (args : Array Value) (w : World) : (callFunc 116 args).run Tryz.prog w = .ok (.enter 116 args) w := enters_of Tryz.func116 (by kernel_rfl) rfl args w
/-- What is known of the rules: the names' map and the list. -/
structure KnI (W : World) (gs : GL) (B : Nat) (A : Option Addr) (now : List Em) : Prop where
  m : NmM W B gs
  r : RdE W A now
  n : now.length = gs.length
theorem KnI.later {W W' : World} {gs : GL} {B : Nat} {A : Option Addr} {now : List Em} (h : KnI W gs B A now) (hb : Below W.heap.size W W') : KnI W' gs B A now := ⟨h.m.later hb, h.r.later hb, h.n⟩
/-- A box of it. -/
structure KX (W : World) (b : Nat) (m s : Value) : Prop where
  heap : W.heap[b]? = some (.cells #[m, s] 129 (0, 0))
theorem KX.lt {W : World} {b : Nat} {m s : Value} (h : KX W b m s) : b < W.heap.size := (Array.getElem?_eq_some_iff.1 h.heap).1
theorem KX.same {W W' : World} {b : Nat} {m s : Value} (h : KX W b m s) (hb : W'.heap[b]? = W.heap[b]?) : KX W' b m s := ⟨hb.trans h.heap⟩
theorem KX.below {W W' : World} {b : Nat} {m s : Value} (h : KX W b m s) (hb : Below W.heap.size W W') : KX W' b m s := h.same (hb.block b h.lt)
theorem KX.c0 {W : World} {b : Nat} {m s : Value} (h : KX W b m s) : W.cell? ⟨b, 0, none⟩ = some m := by rw [cell_of_row W b 0 _ 129 (0, 0) h.heap]; rfl
theorem KX.c1 {W : World} {b : Nat} {m s : Value} (h : KX W b m s) : W.cell? ⟨b, 1, none⟩ = some s := by rw [cell_of_row W b 1 _ 129 (0, 0) h.heap]; rfl
theorem KX.fz {W : World} {b : Nat} {m s : Value} (h : KX W b m s) (j : Nat) : W.frozen? ⟨b, j, none⟩ = false := frozen_of_row W b j _ 129 h.heap
theorem KX.set1 {W : World} {b : Nat} {m s : Value} (h : KX W b m s) (v : Value) : KX (W.setCell ⟨b, 1, none⟩ v) b m v := ⟨by rw [heap_setCell_same W b 1 _ 129 _ h.heap]; rfl⟩
theorem KX.set0 {W : World} {b : Nat} {m s : Value} (h : KX W b m s) (v : Value) : KX (W.setCell ⟨b, 0, none⟩ v) b v s := ⟨by rw [heap_setCell_same W b 0 _ 129 _ h.heap]; rfl⟩
theorem KX.new (W : World) (m s : Value) : KX (W.alloc (.cells #[m, s] 129)) W.heap.size m s := ⟨heap_alloc_new W _⟩
structure E5 (w W : World) (m s : Value) (n : Nd) : Prop where
  b : Below w.heap.size w W
  k : KX W w.heap.size m s
  n : NX W (w.heap.size + 1) n
  z : EX W (w.heap.size + 2) e0
theorem E5.start (w : World) (m s : Value) (n : Nd) : E5 w (((w.alloc (.cells #[m, s] 129)).alloc (ndO n)).alloc (emO e0)) m s n := by
  have s1 := World.size_alloc w (.cells #[m, s] 129)
  have s2 := World.size_alloc (w.alloc (.cells #[m, s] 129)) (ndO n)
  refine ⟨(((Below.refl _ _).alloc (Nat.le_refl _) _).alloc (by omega) _).alloc (by omega) _, ((KX.new w m s).below (below_box _ _)).below (below_box _ _), nx_below ?_ (below_box _ _), ?_⟩
  · have h : NX ((w.alloc (.cells #[m, s] 129)).alloc (ndO n)) (w.alloc (.cells #[m, s] 129)).heap.size n := ⟨heap_alloc_new _ _⟩
    rw [s1] at h; exact h
  · have h := EX.new ((w.alloc (.cells #[m, s] 129)).alloc (ndO n)) e0; rw [s2, s1] at h; exact h
theorem E5.later {w W W' : World} {m s : Value} {n : Nd} (h : E5 w W m s n) (hb : Below W.heap.size W W') : E5 w W' m s n := ⟨h.b.trans (hb.mono h.b.size), h.k.below hb, nx_below h.n hb, h.z.below hb⟩
theorem E5.ret {w W : World} {m s : Value} {n : Nd} (h : E5 w W m s n) (f : Em) : EX (st4 W (w.heap.size + 2) f) (w.heap.size + 2) f ∧ Below w.heap.size w (st4 W (w.heap.size + 2) f) := ⟨h.z.all f, st4_below h.b (by omega) f⟩
set_option maxRecDepth 100000 in
set_option maxHeartbeats 8000000 in
theorem node_1 (nd : Nd) (mv sv : Value) (A : Option Addr) (l c : Nat) (ho : nd.op = 1) (w : World) : Calls Tryz.prog 106 #[.agg #[mv, sv], ndG nd, .slice A l c] w fun e w' => e = .returned (emG nothE) ∧ Below w.heap.size w w' := by
  have t1 : (nd.op == 1) = true := by rw [ho]; rfl
  have HA := (show Hid (E5 w (((w.alloc (.cells #[mv, sv] 129)).alloc (.cells #[.int .i64 nd.op, .int .i64 nd.nn, .string nd.tx, .int .u64 nd.s0, .int .u64 nd.s1, .int .u64 nd.s2, .int .u64 nd.s3] 70)).alloc (.cells #[.bool false, .bool false, .int .i64 0, .int .i64 0] 74)) mv sv nd) from E5.start w mv sv nd)
  obtain ⟨w1, hw1⟩ : ∃ w1, w1 = ((w.alloc (.cells #[mv, sv] 129)).alloc (.cells #[.int .i64 nd.op, .int .i64 nd.nn, .string nd.tx, .int .u64 nd.s0, .int .u64 nd.s1, .int .u64 nd.s2, .int .u64 nd.s3] 70)).alloc (.cells #[.bool false, .bool false, .int .i64 0, .int .i64 0] 74) := ⟨_, rfl⟩
  have HE1 := (show Hid (((w.alloc (.cells #[mv, sv] 129)).alloc (.cells #[.int .i64 nd.op, .int .i64 nd.nn, .string nd.tx, .int .u64 nd.s0, .int .u64 nd.s1, .int .u64 nd.s2, .int .u64 nd.s3] 70)).alloc (.cells #[.bool false, .bool false, .int .i64 0, .int .i64 0] 74) = w1) from hw1.symm)
  rw [← hw1] at HA
  have q0 : w1.cell? ⟨w.heap.size + 1, 0, none⟩ = some (.int .i64 nd.op) := HA.out.n.nb.c0
  have q2 : w1.cell? ⟨w.heap.size + 1, 2, none⟩ = some (.string nd.tx) := HA.out.n.nb.c2
  clear hw1 ho
  have HR := (show Hid (∀ w, Calls Tryz.prog 112 #[] w fun e w' => e = .returned (.agg #[.bool true, .bool false, .int .i64 0, .int .i64 0]) ∧ Below w.heap.size w w') from fun w => nothing_any w)
  go_enter Tryz.func106, Tryz.ntmps106
  go_wp2_with (rw [HE1.out])
  refine (HR.out _).mono ?_
  rintro e w2 ⟨rfl, b2⟩
  have HA2 := (show Hid (E5 w w2 mv sv nd) from HA.out.later b2)
  have f0 := HA2.out.z.fz 0
  have f1 := HA2.out.z.fz 1
  have f2 := HA2.out.z.fz 2
  have f3 := HA2.out.z.fz 3
  have z0 : w2.cell? ⟨w.heap.size + 2, 0, none⟩ = some (.bool false) := HA2.out.z.eb.c0
  have z1 : w2.cell? ⟨w.heap.size + 2, 1, none⟩ = some (.bool false) := HA2.out.z.eb.c1
  have z2 : w2.cell? ⟨w.heap.size + 2, 2, none⟩ = some (.int .i64 0) := HA2.out.z.eb.c2
  have z3 : w2.cell? ⟨w.heap.size + 2, 3, none⟩ = some (.int .i64 0) := HA2.out.z.eb.c3
  have HZ := (show Hid _ from HA2.out.ret nothE)
  clear HA HA2 b2 HR q0 q2
  go_wp2_with fail
  refine ret_ex (s := 6) (k := w.heap.size + 2) (by rfl) (by rfl) (by rfl) HZ.out.1 ?_
  exact ⟨rfl, HZ.out.2⟩
set_option maxRecDepth 100000 in
set_option maxHeartbeats 8000000 in
theorem node_17 (nd : Nd) (mv sv : Value) (A : Option Addr) (l c : Nat) (ho : nd.op = 17) (w : World) : Calls Tryz.prog 106 #[.agg #[mv, sv], ndG nd, .slice A l c] w fun e w' => e = .returned (emG nothE) ∧ Below w.heap.size w w' := by
  have t1 : (nd.op == 1) = false := by rw [beq_eq_false_iff_ne]; omega
  have t17 : (nd.op == 17) = true := by rw [ho]; rfl
  have HA := (show Hid (E5 w (((w.alloc (.cells #[mv, sv] 129)).alloc (.cells #[.int .i64 nd.op, .int .i64 nd.nn, .string nd.tx, .int .u64 nd.s0, .int .u64 nd.s1, .int .u64 nd.s2, .int .u64 nd.s3] 70)).alloc (.cells #[.bool false, .bool false, .int .i64 0, .int .i64 0] 74)) mv sv nd) from E5.start w mv sv nd)
  obtain ⟨w1, hw1⟩ : ∃ w1, w1 = ((w.alloc (.cells #[mv, sv] 129)).alloc (.cells #[.int .i64 nd.op, .int .i64 nd.nn, .string nd.tx, .int .u64 nd.s0, .int .u64 nd.s1, .int .u64 nd.s2, .int .u64 nd.s3] 70)).alloc (.cells #[.bool false, .bool false, .int .i64 0, .int .i64 0] 74) := ⟨_, rfl⟩
  have HE1 := (show Hid (((w.alloc (.cells #[mv, sv] 129)).alloc (.cells #[.int .i64 nd.op, .int .i64 nd.nn, .string nd.tx, .int .u64 nd.s0, .int .u64 nd.s1, .int .u64 nd.s2, .int .u64 nd.s3] 70)).alloc (.cells #[.bool false, .bool false, .int .i64 0, .int .i64 0] 74) = w1) from hw1.symm)
  rw [← hw1] at HA
  have q0 : w1.cell? ⟨w.heap.size + 1, 0, none⟩ = some (.int .i64 nd.op) := HA.out.n.nb.c0
  have q2 : w1.cell? ⟨w.heap.size + 1, 2, none⟩ = some (.string nd.tx) := HA.out.n.nb.c2
  clear hw1 ho
  have HR := (show Hid (∀ w, Calls Tryz.prog 112 #[] w fun e w' => e = .returned (.agg #[.bool true, .bool false, .int .i64 0, .int .i64 0]) ∧ Below w.heap.size w w') from fun w => nothing_any w)
  go_enter Tryz.func106, Tryz.ntmps106
  go_wp2_with (rw [HE1.out])
  refine (HR.out _).mono ?_
  rintro e w2 ⟨rfl, b2⟩
  have HA2 := (show Hid (E5 w w2 mv sv nd) from HA.out.later b2)
  have f0 := HA2.out.z.fz 0
  have f1 := HA2.out.z.fz 1
  have f2 := HA2.out.z.fz 2
  have f3 := HA2.out.z.fz 3
  have z0 : w2.cell? ⟨w.heap.size + 2, 0, none⟩ = some (.bool false) := HA2.out.z.eb.c0
  have z1 : w2.cell? ⟨w.heap.size + 2, 1, none⟩ = some (.bool false) := HA2.out.z.eb.c1
  have z2 : w2.cell? ⟨w.heap.size + 2, 2, none⟩ = some (.int .i64 0) := HA2.out.z.eb.c2
  have z3 : w2.cell? ⟨w.heap.size + 2, 3, none⟩ = some (.int .i64 0) := HA2.out.z.eb.c3
  have HZ := (show Hid _ from HA2.out.ret nothE)
  clear HA HA2 b2 HR q0 q2
  go_wp2_with fail
  refine ret_ex (s := 6) (k := w.heap.size + 2) (by rfl) (by rfl) (by rfl) HZ.out.1 ?_
  exact ⟨rfl, HZ.out.2⟩
set_option maxRecDepth 100000 in
set_option maxHeartbeats 8000000 in
theorem node_2 (nd : Nd) (mv sv : Value) (A : Option Addr) (l c : Nat) (ho : nd.op = 2) (w : World) : Calls Tryz.prog 106 #[.agg #[mv, sv], ndG nd, .slice A l c] w fun e w' => e = .returned (emG ⟨false, true, -1, 0⟩) ∧ Below w.heap.size w w' := by
  have t1 : (nd.op == 1) = false := by rw [beq_eq_false_iff_ne]; omega
  have t17 : (nd.op == 17) = false := by rw [beq_eq_false_iff_ne]; omega
  have t2 : (nd.op == 2) = true := by rw [ho]; rfl
  have HA := (show Hid (E5 w (((w.alloc (.cells #[mv, sv] 129)).alloc (.cells #[.int .i64 nd.op, .int .i64 nd.nn, .string nd.tx, .int .u64 nd.s0, .int .u64 nd.s1, .int .u64 nd.s2, .int .u64 nd.s3] 70)).alloc (.cells #[.bool false, .bool false, .int .i64 0, .int .i64 0] 74)) mv sv nd) from E5.start w mv sv nd)
  obtain ⟨w1, hw1⟩ : ∃ w1, w1 = ((w.alloc (.cells #[mv, sv] 129)).alloc (.cells #[.int .i64 nd.op, .int .i64 nd.nn, .string nd.tx, .int .u64 nd.s0, .int .u64 nd.s1, .int .u64 nd.s2, .int .u64 nd.s3] 70)).alloc (.cells #[.bool false, .bool false, .int .i64 0, .int .i64 0] 74) := ⟨_, rfl⟩
  have HE1 := (show Hid (((w.alloc (.cells #[mv, sv] 129)).alloc (.cells #[.int .i64 nd.op, .int .i64 nd.nn, .string nd.tx, .int .u64 nd.s0, .int .u64 nd.s1, .int .u64 nd.s2, .int .u64 nd.s3] 70)).alloc (.cells #[.bool false, .bool false, .int .i64 0, .int .i64 0] 74) = w1) from hw1.symm)
  rw [← hw1] at HA
  have q0 : w1.cell? ⟨w.heap.size + 1, 0, none⟩ = some (.int .i64 nd.op) := HA.out.n.nb.c0
  have q2 : w1.cell? ⟨w.heap.size + 1, 2, none⟩ = some (.string nd.tx) := HA.out.n.nb.c2
  clear hw1 ho
  have f0 := HA.out.z.fz 0
  have f1 := HA.out.z.fz 1
  have f2 := HA.out.z.fz 2
  have f3 := HA.out.z.fz 3
  have z0 : w1.cell? ⟨w.heap.size + 2, 0, none⟩ = some (.bool false) := HA.out.z.eb.c0
  have z1 : w1.cell? ⟨w.heap.size + 2, 1, none⟩ = some (.bool false) := HA.out.z.eb.c1
  have z2 : w1.cell? ⟨w.heap.size + 2, 2, none⟩ = some (.int .i64 0) := HA.out.z.eb.c2
  have z3 : w1.cell? ⟨w.heap.size + 2, 3, none⟩ = some (.int .i64 0) := HA.out.z.eb.c3
  have HZ := (show Hid _ from HA.out.ret ⟨false, true, -1, 0⟩)
  clear HA
  go_enter Tryz.func106, Tryz.ntmps106
  go_wp2_with (rw [HE1.out])
  refine ret_ex (s := 6) (k := w.heap.size + 2) (by rfl) (by rfl) (by rfl) HZ.out.1 ?_
  exact ⟨rfl, HZ.out.2⟩
set_option maxRecDepth 100000 in
set_option maxHeartbeats 8000000 in
theorem node_3 (nd : Nd) (mv sv : Value) (A : Option Addr) (l c : Nat) (ho : nd.op = 3) (w : World) : Calls Tryz.prog 106 #[.agg #[mv, sv], ndG nd, .slice A l c] w fun e w' => e = .returned (emG (exaE 1)) ∧ Below w.heap.size w w' := by
  have t1 : (nd.op == 1) = false := by rw [beq_eq_false_iff_ne]; omega
  have t17 : (nd.op == 17) = false := by rw [beq_eq_false_iff_ne]; omega
  have t2 : (nd.op == 2) = false := by rw [beq_eq_false_iff_ne]; omega
  have t3 : (nd.op == 3) = true := by rw [ho]; rfl
  have HA := (show Hid (E5 w (((w.alloc (.cells #[mv, sv] 129)).alloc (.cells #[.int .i64 nd.op, .int .i64 nd.nn, .string nd.tx, .int .u64 nd.s0, .int .u64 nd.s1, .int .u64 nd.s2, .int .u64 nd.s3] 70)).alloc (.cells #[.bool false, .bool false, .int .i64 0, .int .i64 0] 74)) mv sv nd) from E5.start w mv sv nd)
  obtain ⟨w1, hw1⟩ : ∃ w1, w1 = ((w.alloc (.cells #[mv, sv] 129)).alloc (.cells #[.int .i64 nd.op, .int .i64 nd.nn, .string nd.tx, .int .u64 nd.s0, .int .u64 nd.s1, .int .u64 nd.s2, .int .u64 nd.s3] 70)).alloc (.cells #[.bool false, .bool false, .int .i64 0, .int .i64 0] 74) := ⟨_, rfl⟩
  have HE1 := (show Hid (((w.alloc (.cells #[mv, sv] 129)).alloc (.cells #[.int .i64 nd.op, .int .i64 nd.nn, .string nd.tx, .int .u64 nd.s0, .int .u64 nd.s1, .int .u64 nd.s2, .int .u64 nd.s3] 70)).alloc (.cells #[.bool false, .bool false, .int .i64 0, .int .i64 0] 74) = w1) from hw1.symm)
  rw [← hw1] at HA
  have q0 : w1.cell? ⟨w.heap.size + 1, 0, none⟩ = some (.int .i64 nd.op) := HA.out.n.nb.c0
  have q2 : w1.cell? ⟨w.heap.size + 1, 2, none⟩ = some (.string nd.tx) := HA.out.n.nb.c2
  clear hw1 ho
  have HR := (show Hid (∀ w, Calls Tryz.prog 113 #[.int .i64 1] w fun e w' => e = .returned (.agg #[.bool false, .bool true, .int .i64 1, .int .i64 1]) ∧ Below w.heap.size w w') from fun w => exactly_any 1 w)
  go_enter Tryz.func106, Tryz.ntmps106
  go_wp2_with (rw [HE1.out])
  refine (HR.out _).mono ?_
  rintro e w2 ⟨rfl, b2⟩
  have HA2 := (show Hid (E5 w w2 mv sv nd) from HA.out.later b2)
  have f0 := HA2.out.z.fz 0
  have f1 := HA2.out.z.fz 1
  have f2 := HA2.out.z.fz 2
  have f3 := HA2.out.z.fz 3
  have z0 : w2.cell? ⟨w.heap.size + 2, 0, none⟩ = some (.bool false) := HA2.out.z.eb.c0
  have z1 : w2.cell? ⟨w.heap.size + 2, 1, none⟩ = some (.bool false) := HA2.out.z.eb.c1
  have z2 : w2.cell? ⟨w.heap.size + 2, 2, none⟩ = some (.int .i64 0) := HA2.out.z.eb.c2
  have z3 : w2.cell? ⟨w.heap.size + 2, 3, none⟩ = some (.int .i64 0) := HA2.out.z.eb.c3
  have HZ := (show Hid _ from HA2.out.ret (exaE 1))
  clear HA HA2 b2 HR q0 q2
  go_wp2_with fail
  refine ret_ex (s := 6) (k := w.heap.size + 2) (by rfl) (by rfl) (by rfl) HZ.out.1 ?_
  exact ⟨rfl, HZ.out.2⟩
set_option maxRecDepth 100000 in
set_option maxHeartbeats 8000000 in
theorem node_5 (nd : Nd) (mv sv : Value) (A : Option Addr) (l c : Nat) (ho : nd.op = 5) (w : World) : Calls Tryz.prog 106 #[.agg #[mv, sv], ndG nd, .slice A l c] w fun e w' => e = .returned (emG (exaE 1)) ∧ Below w.heap.size w w' := by
  have t1 : (nd.op == 1) = false := by rw [beq_eq_false_iff_ne]; omega
  have t17 : (nd.op == 17) = false := by rw [beq_eq_false_iff_ne]; omega
  have t2 : (nd.op == 2) = false := by rw [beq_eq_false_iff_ne]; omega
  have t3 : (nd.op == 3) = false := by rw [beq_eq_false_iff_ne]; omega
  have t5 : (nd.op == 5) = true := by rw [ho]; rfl
  have HA := (show Hid (E5 w (((w.alloc (.cells #[mv, sv] 129)).alloc (.cells #[.int .i64 nd.op, .int .i64 nd.nn, .string nd.tx, .int .u64 nd.s0, .int .u64 nd.s1, .int .u64 nd.s2, .int .u64 nd.s3] 70)).alloc (.cells #[.bool false, .bool false, .int .i64 0, .int .i64 0] 74)) mv sv nd) from E5.start w mv sv nd)
  obtain ⟨w1, hw1⟩ : ∃ w1, w1 = ((w.alloc (.cells #[mv, sv] 129)).alloc (.cells #[.int .i64 nd.op, .int .i64 nd.nn, .string nd.tx, .int .u64 nd.s0, .int .u64 nd.s1, .int .u64 nd.s2, .int .u64 nd.s3] 70)).alloc (.cells #[.bool false, .bool false, .int .i64 0, .int .i64 0] 74) := ⟨_, rfl⟩
  have HE1 := (show Hid (((w.alloc (.cells #[mv, sv] 129)).alloc (.cells #[.int .i64 nd.op, .int .i64 nd.nn, .string nd.tx, .int .u64 nd.s0, .int .u64 nd.s1, .int .u64 nd.s2, .int .u64 nd.s3] 70)).alloc (.cells #[.bool false, .bool false, .int .i64 0, .int .i64 0] 74) = w1) from hw1.symm)
  rw [← hw1] at HA
  have q0 : w1.cell? ⟨w.heap.size + 1, 0, none⟩ = some (.int .i64 nd.op) := HA.out.n.nb.c0
  have q2 : w1.cell? ⟨w.heap.size + 1, 2, none⟩ = some (.string nd.tx) := HA.out.n.nb.c2
  clear hw1 ho
  have HR := (show Hid (∀ w, Calls Tryz.prog 113 #[.int .i64 1] w fun e w' => e = .returned (.agg #[.bool false, .bool true, .int .i64 1, .int .i64 1]) ∧ Below w.heap.size w w') from fun w => exactly_any 1 w)
  go_enter Tryz.func106, Tryz.ntmps106
  go_wp2_with (rw [HE1.out])
  refine (HR.out _).mono ?_
  rintro e w2 ⟨rfl, b2⟩
  have HA2 := (show Hid (E5 w w2 mv sv nd) from HA.out.later b2)
  have f0 := HA2.out.z.fz 0
  have f1 := HA2.out.z.fz 1
  have f2 := HA2.out.z.fz 2
  have f3 := HA2.out.z.fz 3
  have z0 : w2.cell? ⟨w.heap.size + 2, 0, none⟩ = some (.bool false) := HA2.out.z.eb.c0
  have z1 : w2.cell? ⟨w.heap.size + 2, 1, none⟩ = some (.bool false) := HA2.out.z.eb.c1
  have z2 : w2.cell? ⟨w.heap.size + 2, 2, none⟩ = some (.int .i64 0) := HA2.out.z.eb.c2
  have z3 : w2.cell? ⟨w.heap.size + 2, 3, none⟩ = some (.int .i64 0) := HA2.out.z.eb.c3
  have HZ := (show Hid _ from HA2.out.ret (exaE 1))
  clear HA HA2 b2 HR q0 q2
  go_wp2_with fail
  refine ret_ex (s := 6) (k := w.heap.size + 2) (by rfl) (by rfl) (by rfl) HZ.out.1 ?_
  exact ⟨rfl, HZ.out.2⟩
set_option maxRecDepth 100000 in
set_option maxHeartbeats 8000000 in
theorem node_4 (nd : Nd) (mv sv : Value) (A : Option Addr) (l c : Nat) (ho : nd.op = 4) (w : World) : Calls Tryz.prog 106 #[.agg #[mv, sv], ndG nd, .slice A l c] w fun e w' => e = .returned (emG (exaE (nd.tx.size : Int))) ∧ Below w.heap.size w w' := by
  have t1 : (nd.op == 1) = false := by rw [beq_eq_false_iff_ne]; omega
  have t17 : (nd.op == 17) = false := by rw [beq_eq_false_iff_ne]; omega
  have t2 : (nd.op == 2) = false := by rw [beq_eq_false_iff_ne]; omega
  have t3 : (nd.op == 3) = false := by rw [beq_eq_false_iff_ne]; omega
  have t5 : (nd.op == 5) = false := by rw [beq_eq_false_iff_ne]; omega
  have t4 : (nd.op == 4) = true := by rw [ho]; rfl
  have HA := (show Hid (E5 w (((w.alloc (.cells #[mv, sv] 129)).alloc (.cells #[.int .i64 nd.op, .int .i64 nd.nn, .string nd.tx, .int .u64 nd.s0, .int .u64 nd.s1, .int .u64 nd.s2, .int .u64 nd.s3] 70)).alloc (.cells #[.bool false, .bool false, .int .i64 0, .int .i64 0] 74)) mv sv nd) from E5.start w mv sv nd)
  obtain ⟨w1, hw1⟩ : ∃ w1, w1 = ((w.alloc (.cells #[mv, sv] 129)).alloc (.cells #[.int .i64 nd.op, .int .i64 nd.nn, .string nd.tx, .int .u64 nd.s0, .int .u64 nd.s1, .int .u64 nd.s2, .int .u64 nd.s3] 70)).alloc (.cells #[.bool false, .bool false, .int .i64 0, .int .i64 0] 74) := ⟨_, rfl⟩
  have HE1 := (show Hid (((w.alloc (.cells #[mv, sv] 129)).alloc (.cells #[.int .i64 nd.op, .int .i64 nd.nn, .string nd.tx, .int .u64 nd.s0, .int .u64 nd.s1, .int .u64 nd.s2, .int .u64 nd.s3] 70)).alloc (.cells #[.bool false, .bool false, .int .i64 0, .int .i64 0] 74) = w1) from hw1.symm)
  rw [← hw1] at HA
  have q0 : w1.cell? ⟨w.heap.size + 1, 0, none⟩ = some (.int .i64 nd.op) := HA.out.n.nb.c0
  have q2 : w1.cell? ⟨w.heap.size + 1, 2, none⟩ = some (.string nd.tx) := HA.out.n.nb.c2
  clear hw1 ho
  have HR := (show Hid (∀ w, Calls Tryz.prog 113 #[.int .i64 (nd.tx.size : Int)] w fun e w' => e = .returned (.agg #[.bool false, .bool true, .int .i64 (nd.tx.size : Int), .int .i64 (nd.tx.size : Int)]) ∧ Below w.heap.size w w') from fun w => exactly_any (nd.tx.size : Int) w)
  go_enter Tryz.func106, Tryz.ntmps106
  go_wp2_with (rw [HE1.out])
  refine (HR.out _).mono ?_
  rintro e w2 ⟨rfl, b2⟩
  have HA2 := (show Hid (E5 w w2 mv sv nd) from HA.out.later b2)
  have f0 := HA2.out.z.fz 0
  have f1 := HA2.out.z.fz 1
  have f2 := HA2.out.z.fz 2
  have f3 := HA2.out.z.fz 3
  have z0 : w2.cell? ⟨w.heap.size + 2, 0, none⟩ = some (.bool false) := HA2.out.z.eb.c0
  have z1 : w2.cell? ⟨w.heap.size + 2, 1, none⟩ = some (.bool false) := HA2.out.z.eb.c1
  have z2 : w2.cell? ⟨w.heap.size + 2, 2, none⟩ = some (.int .i64 0) := HA2.out.z.eb.c2
  have z3 : w2.cell? ⟨w.heap.size + 2, 3, none⟩ = some (.int .i64 0) := HA2.out.z.eb.c3
  have HZ := (show Hid _ from HA2.out.ret (exaE (nd.tx.size : Int)))
  clear HA HA2 b2 HR q0 q2
  go_wp2_with fail
  refine ret_ex (s := 6) (k := w.heap.size + 2) (by rfl) (by rfl) (by rfl) HZ.out.1 ?_
  exact ⟨rfl, HZ.out.2⟩
set_option maxRecDepth 100000 in
set_option maxHeartbeats 8000000 in
theorem node_6 {gs : GL} {now : List Em} {i : Nat} {e : Em} (nd : Nd) (B : Nat) (Ar A : Option Addr) (cr l c : Nat) (ho : nd.op = 6) (hs : nd.tx.size ≤ 140737488355328) (w : World) (hk : KnI w gs B Ar now) (hf : fdG gs nd.tx = some i) (he : now[i]? = some e) : Calls Tryz.prog 106 #[.agg #[.map (some B), .slice Ar now.length cr], ndG nd, .slice A l c] w fun e2 w' => e2 = .returned (emG e) ∧ Below w.heap.size w w' := by
  have t1 : (nd.op == 1) = false := by rw [beq_eq_false_iff_ne]; omega
  have t17 : (nd.op == 17) = false := by rw [beq_eq_false_iff_ne]; omega
  have t2 : (nd.op == 2) = false := by rw [beq_eq_false_iff_ne]; omega
  have t3 : (nd.op == 3) = false := by rw [beq_eq_false_iff_ne]; omega
  have t5 : (nd.op == 5) = false := by rw [beq_eq_false_iff_ne]; omega
  have t4 : (nd.op == 4) = false := by rw [beq_eq_false_iff_ne]; omega
  have t6 : (nd.op == 6) = true := by rw [ho]; rfl
  have HA := (show Hid (E5 w (((w.alloc (.cells #[.map (some B), .slice Ar now.length cr] 129)).alloc (.cells #[.int .i64 nd.op, .int .i64 nd.nn, .string nd.tx, .int .u64 nd.s0, .int .u64 nd.s1, .int .u64 nd.s2, .int .u64 nd.s3] 70)).alloc (.cells #[.bool false, .bool false, .int .i64 0, .int .i64 0] 74)) (.map (some B)) (.slice Ar now.length cr) nd) from E5.start w _ _ nd)
  obtain ⟨w1, hw1⟩ : ∃ w1, w1 = ((w.alloc (.cells #[.map (some B), .slice Ar now.length cr] 129)).alloc (.cells #[.int .i64 nd.op, .int .i64 nd.nn, .string nd.tx, .int .u64 nd.s0, .int .u64 nd.s1, .int .u64 nd.s2, .int .u64 nd.s3] 70)).alloc (.cells #[.bool false, .bool false, .int .i64 0, .int .i64 0] 74) := ⟨_, rfl⟩
  have HE1 := (show Hid (((w.alloc (.cells #[.map (some B), .slice Ar now.length cr] 129)).alloc (.cells #[.int .i64 nd.op, .int .i64 nd.nn, .string nd.tx, .int .u64 nd.s0, .int .u64 nd.s1, .int .u64 nd.s2, .int .u64 nd.s3] 70)).alloc (.cells #[.bool false, .bool false, .int .i64 0, .int .i64 0] 74) = w1) from hw1.symm)
  rw [← hw1] at HA
  have hil := (List.getElem?_eq_some_iff.1 he).1
  have hne : now ≠ [] := by rintro rfl; cases he
  obtain ⟨g, o, rfl, lg, hEB⟩ := hk.r hne
  obtain ⟨r0, r1, r2, r3⟩ := (hEB i e he).same (HA.out.b.block g lg)
  have hrun := NmM.look0 (hk.m.same (HA.out.b.block B hk.m.lt)) hs hf
  have k0 := HA.out.k.c0
  have k1 := HA.out.k.c1
  have q0 : w1.cell? ⟨w.heap.size + 1, 0, none⟩ = some (.int .i64 nd.op) := HA.out.n.nb.c0
  have q2 : w1.cell? ⟨w.heap.size + 1, 2, none⟩ = some (.string nd.tx) := HA.out.n.nb.c2
  have v0 : (0 : Int) ≤ (i : Int) := by omega
  have v1 : (i : Int) < (now.length : Int) := by omega
  have f0 := HA.out.z.fz 0
  have f1 := HA.out.z.fz 1
  have f2 := HA.out.z.fz 2
  have f3 := HA.out.z.fz 3
  have z0 : w1.cell? ⟨w.heap.size + 2, 0, none⟩ = some (.bool false) := HA.out.z.eb.c0
  have z1 : w1.cell? ⟨w.heap.size + 2, 1, none⟩ = some (.bool false) := HA.out.z.eb.c1
  have z2 : w1.cell? ⟨w.heap.size + 2, 2, none⟩ = some (.int .i64 0) := HA.out.z.eb.c2
  have z3 : w1.cell? ⟨w.heap.size + 2, 3, none⟩ = some (.int .i64 0) := HA.out.z.eb.c3
  have HZ := (show Hid _ from HA.out.ret e)
  obtain ⟨en, ec, el, em⟩ := e
  simp only at r0 r1 r2 r3
  clear HA hw1 ho hk hf he hne lg hEB hs hil
  go_enter Tryz.func106, Tryz.ntmps106
  go_wp2_with (rw [HE1.out])
  refine ret_ex (s := 6) (k := w.heap.size + 2) (by rfl) (by rfl) (by rfl) HZ.out.1 ?_
  exact ⟨rfl, HZ.out.2⟩
set_option maxRecDepth 100000 in
set_option maxHeartbeats 8000000 in
theorem node_7 {x y : Em} (nd : Nd) (mv sv : Value) (A : Option Addr) (l c : Nat) (ho : nd.op = 7) (hx : OkE x) (hy : OkE y) (w : World) (hp : RdE w A [x, y]) (hl : l = 2) : Calls Tryz.prog 106 #[.agg #[mv, sv], ndG nd, .slice A l c] w fun e w' => e = .returned (emG (seqE x y)) ∧ Below w.heap.size w w' := by
  have t1 : (nd.op == 1) = false := by rw [beq_eq_false_iff_ne]; omega
  have t17 : (nd.op == 17) = false := by rw [beq_eq_false_iff_ne]; omega
  have t2 : (nd.op == 2) = false := by rw [beq_eq_false_iff_ne]; omega
  have t3 : (nd.op == 3) = false := by rw [beq_eq_false_iff_ne]; omega
  have t5 : (nd.op == 5) = false := by rw [beq_eq_false_iff_ne]; omega
  have t4 : (nd.op == 4) = false := by rw [beq_eq_false_iff_ne]; omega
  have t6 : (nd.op == 6) = false := by rw [beq_eq_false_iff_ne]; omega
  have t7 : (nd.op == 7) = true := by rw [ho]; rfl
  have HA := (show Hid (E5 w (((w.alloc (.cells #[mv, sv] 129)).alloc (.cells #[.int .i64 nd.op, .int .i64 nd.nn, .string nd.tx, .int .u64 nd.s0, .int .u64 nd.s1, .int .u64 nd.s2, .int .u64 nd.s3] 70)).alloc (.cells #[.bool false, .bool false, .int .i64 0, .int .i64 0] 74)) mv sv nd) from E5.start w mv sv nd)
  obtain ⟨w1, hw1⟩ : ∃ w1, w1 = ((w.alloc (.cells #[mv, sv] 129)).alloc (.cells #[.int .i64 nd.op, .int .i64 nd.nn, .string nd.tx, .int .u64 nd.s0, .int .u64 nd.s1, .int .u64 nd.s2, .int .u64 nd.s3] 70)).alloc (.cells #[.bool false, .bool false, .int .i64 0, .int .i64 0] 74) := ⟨_, rfl⟩
  have HE1 := (show Hid (((w.alloc (.cells #[mv, sv] 129)).alloc (.cells #[.int .i64 nd.op, .int .i64 nd.nn, .string nd.tx, .int .u64 nd.s0, .int .u64 nd.s1, .int .u64 nd.s2, .int .u64 nd.s3] 70)).alloc (.cells #[.bool false, .bool false, .int .i64 0, .int .i64 0] 74) = w1) from hw1.symm)
  rw [← hw1] at HA
  have q0 : w1.cell? ⟨w.heap.size + 1, 0, none⟩ = some (.int .i64 nd.op) := HA.out.n.nb.c0
  have q2 : w1.cell? ⟨w.heap.size + 1, 2, none⟩ = some (.string nd.tx) := HA.out.n.nb.c2
  clear hw1 ho
  subst hl
  obtain ⟨g, o, rfl, lg, hEB⟩ := hp (by simp)
  have hx0 := (hEB 0 x rfl)
  have hy0 := (hEB 1 y rfl)
  rw [Nat.zero_mul, Nat.add_zero] at hx0
  rw [Nat.one_mul] at hy0
  have HD := (show Hid (E5 w w1.drew mv sv nd) from HA.out.later (Below.refl _ _).drew)
  obtain ⟨x0, x1, x2, x3⟩ := hx0.same (HD.out.b.block g lg)
  obtain ⟨y0, y1, y2, y3⟩ := hy0.same (HD.out.b.block g lg)
  have HR := (show Hid (∀ _ : Unit, Calls Tryz.prog 114 #[emG x, emG y] w1.drew fun e w' => e = .returned (emG (seqE x y)) ∧ E5 w w' mv sv nd) from fun _ => (sequence_any x y hx hy w1.drew).mono fun e w' q => ⟨q.1, HD.out.later q.2⟩)
  generalize seqE x y = rr at *
  obtain ⟨rn, rc, rl, rm⟩ := rr
  obtain ⟨xn, xc, xl, xm⟩ := x
  obtain ⟨yn, yc, yl, ym⟩ := y
  simp only [emG] at HR
  simp only at x0 x1 x2 x3 y0 y1 y2 y3
  clear HD hp hEB hx0 hy0 lg hx hy
  go_enter Tryz.func106, Tryz.ntmps106
  go_wp2_with (rw [HE1.out])
  rw [show w.heap.size + 1 + 1 = w.heap.size + 2 from rfl]
  go_region_law (refine step_call2 enters_seq rfl _ _ _ _ (by rfl) (.agg #[.bool xn, .bool xc, .int .i64 xl, .int .i64 xm]) (.agg #[.bool yn, .bool yc, .int .i64 yl, .int .i64 ym]) (by rfl) (by rfl) ?_; with_reducible refine (HR.out ()).mono ?_; rintro e w2 ⟨rfl, h2⟩; refine ⟨_, rfl, ?_⟩; have f0 := h2.z.fz 0; have f1 := h2.z.fz 1; have f2 := h2.z.fz 2; have f3 := h2.z.fz 3; have z0 := h2.z.eb.c0; have z1 := h2.z.eb.c1; have z2 := h2.z.eb.c2; have z3 := h2.z.eb.c3)
  all_goals
    go_wp2_with fail
    have HZ := h2.ret ⟨rn, rc, rl, rm⟩
    refine ret_ex (s := 6) (k := w.heap.size + 2) (by rfl) (by rfl) (by rfl) HZ.1 ?_
    exact ⟨rfl, HZ.2⟩
set_option maxRecDepth 100000 in
set_option maxHeartbeats 8000000 in
theorem node_8 {x y : Em} (nd : Nd) (mv sv : Value) (A : Option Addr) (l c : Nat) (ho : nd.op = 8) (w : World) (hp : RdE w A [x, y]) (hl : l = 2) : Calls Tryz.prog 106 #[.agg #[mv, sv], ndG nd, .slice A l c] w fun e w' => e = .returned (emG (choE x y)) ∧ Below w.heap.size w w' := by
  have t1 : (nd.op == 1) = false := by rw [beq_eq_false_iff_ne]; omega
  have t17 : (nd.op == 17) = false := by rw [beq_eq_false_iff_ne]; omega
  have t2 : (nd.op == 2) = false := by rw [beq_eq_false_iff_ne]; omega
  have t3 : (nd.op == 3) = false := by rw [beq_eq_false_iff_ne]; omega
  have t5 : (nd.op == 5) = false := by rw [beq_eq_false_iff_ne]; omega
  have t4 : (nd.op == 4) = false := by rw [beq_eq_false_iff_ne]; omega
  have t6 : (nd.op == 6) = false := by rw [beq_eq_false_iff_ne]; omega
  have t7 : (nd.op == 7) = false := by rw [beq_eq_false_iff_ne]; omega
  have t8 : (nd.op == 8) = true := by rw [ho]; rfl
  have HA := (show Hid (E5 w (((w.alloc (.cells #[mv, sv] 129)).alloc (.cells #[.int .i64 nd.op, .int .i64 nd.nn, .string nd.tx, .int .u64 nd.s0, .int .u64 nd.s1, .int .u64 nd.s2, .int .u64 nd.s3] 70)).alloc (.cells #[.bool false, .bool false, .int .i64 0, .int .i64 0] 74)) mv sv nd) from E5.start w mv sv nd)
  obtain ⟨w1, hw1⟩ : ∃ w1, w1 = ((w.alloc (.cells #[mv, sv] 129)).alloc (.cells #[.int .i64 nd.op, .int .i64 nd.nn, .string nd.tx, .int .u64 nd.s0, .int .u64 nd.s1, .int .u64 nd.s2, .int .u64 nd.s3] 70)).alloc (.cells #[.bool false, .bool false, .int .i64 0, .int .i64 0] 74) := ⟨_, rfl⟩
  have HE1 := (show Hid (((w.alloc (.cells #[mv, sv] 129)).alloc (.cells #[.int .i64 nd.op, .int .i64 nd.nn, .string nd.tx, .int .u64 nd.s0, .int .u64 nd.s1, .int .u64 nd.s2, .int .u64 nd.s3] 70)).alloc (.cells #[.bool false, .bool false, .int .i64 0, .int .i64 0] 74) = w1) from hw1.symm)
  rw [← hw1] at HA
  have q0 : w1.cell? ⟨w.heap.size + 1, 0, none⟩ = some (.int .i64 nd.op) := HA.out.n.nb.c0
  have q2 : w1.cell? ⟨w.heap.size + 1, 2, none⟩ = some (.string nd.tx) := HA.out.n.nb.c2
  clear hw1 ho
  subst hl
  obtain ⟨g, o, rfl, lg, hEB⟩ := hp (by simp)
  have hx0 := (hEB 0 x rfl)
  have hy0 := (hEB 1 y rfl)
  rw [Nat.zero_mul, Nat.add_zero] at hx0
  rw [Nat.one_mul] at hy0
  have HD := (show Hid (E5 w w1.drew mv sv nd) from HA.out.later (Below.refl _ _).drew)
  obtain ⟨x0, x1, x2, x3⟩ := hx0.same (HD.out.b.block g lg)
  obtain ⟨y0, y1, y2, y3⟩ := hy0.same (HD.out.b.block g lg)
  have HR := (show Hid (∀ _ : Unit, Calls Tryz.prog 115 #[emG x, emG y] w1.drew fun e w' => e = .returned (emG (choE x y)) ∧ E5 w w' mv sv nd) from fun _ => (choice_any x y w1.drew).mono fun e w' q => ⟨q.1, HD.out.later q.2⟩)
  generalize choE x y = rr at *
  obtain ⟨rn, rc, rl, rm⟩ := rr
  obtain ⟨xn, xc, xl, xm⟩ := x
  obtain ⟨yn, yc, yl, ym⟩ := y
  simp only [emG] at HR
  simp only at x0 x1 x2 x3 y0 y1 y2 y3
  clear HD hp hEB hx0 hy0 lg
  go_enter Tryz.func106, Tryz.ntmps106
  go_wp2_with (rw [HE1.out])
  rw [show w.heap.size + 1 + 1 = w.heap.size + 2 from rfl]
  go_region_law (refine step_call2 enters_cho rfl _ _ _ _ (by rfl) (.agg #[.bool xn, .bool xc, .int .i64 xl, .int .i64 xm]) (.agg #[.bool yn, .bool yc, .int .i64 yl, .int .i64 ym]) (by rfl) (by rfl) ?_; with_reducible refine (HR.out ()).mono ?_; rintro e w2 ⟨rfl, h2⟩; refine ⟨_, rfl, ?_⟩; have f0 := h2.z.fz 0; have f1 := h2.z.fz 1; have f2 := h2.z.fz 2; have f3 := h2.z.fz 3; have z0 := h2.z.eb.c0; have z1 := h2.z.eb.c1; have z2 := h2.z.eb.c2; have z3 := h2.z.eb.c3)
  all_goals
    go_wp2_with fail
    have HZ := h2.ret ⟨rn, rc, rl, rm⟩
    refine ret_ex (s := 6) (k := w.heap.size + 2) (by rfl) (by rfl) (by rfl) HZ.1 ?_
    exact ⟨rfl, HZ.2⟩
set_option maxRecDepth 100000 in
set_option maxHeartbeats 8000000 in
theorem node_else {x : Em} (nd : Nd) (mv sv : Value) (A : Option Addr) (l c : Nat) (ho : ∀ c : Int, (c = 1 ∨ c = 17 ∨ c = 2 ∨ c = 3 ∨ c = 5 ∨ c = 4 ∨ c = 6 ∨ c = 7 ∨ c = 8) → nd.op ≠ c) (hN : nd.op = 14 ∨ nd.op = 15 ∨ nd.op = 16 → 0 ≤ nd.nn ∧ nd.nn ≤ 50) (hx : OkE x) (w : World) (hp : RdE w A [x]) (hl : l = 1) : Calls Tryz.prog 106 #[.agg #[mv, sv], ndG nd, .slice A l c] w fun e w' => e = .returned (emG (abE nd x)) ∧ Below w.heap.size w w' := by
  have t1 : (nd.op == 1) = false := by rw [beq_eq_false_iff_ne]; exact ho 1 (by omega)
  have t17 : (nd.op == 17) = false := by rw [beq_eq_false_iff_ne]; exact ho 17 (by omega)
  have t2 : (nd.op == 2) = false := by rw [beq_eq_false_iff_ne]; exact ho 2 (by omega)
  have t3 : (nd.op == 3) = false := by rw [beq_eq_false_iff_ne]; exact ho 3 (by omega)
  have t5 : (nd.op == 5) = false := by rw [beq_eq_false_iff_ne]; exact ho 5 (by omega)
  have t4 : (nd.op == 4) = false := by rw [beq_eq_false_iff_ne]; exact ho 4 (by omega)
  have t6 : (nd.op == 6) = false := by rw [beq_eq_false_iff_ne]; exact ho 6 (by omega)
  have t7 : (nd.op == 7) = false := by rw [beq_eq_false_iff_ne]; exact ho 7 (by omega)
  have t8 : (nd.op == 8) = false := by rw [beq_eq_false_iff_ne]; exact ho 8 (by omega)
  have HA := (show Hid (E5 w (((w.alloc (.cells #[mv, sv] 129)).alloc (.cells #[.int .i64 nd.op, .int .i64 nd.nn, .string nd.tx, .int .u64 nd.s0, .int .u64 nd.s1, .int .u64 nd.s2, .int .u64 nd.s3] 70)).alloc (.cells #[.bool false, .bool false, .int .i64 0, .int .i64 0] 74)) mv sv nd) from E5.start w mv sv nd)
  obtain ⟨w1, hw1⟩ : ∃ w1, w1 = ((w.alloc (.cells #[mv, sv] 129)).alloc (.cells #[.int .i64 nd.op, .int .i64 nd.nn, .string nd.tx, .int .u64 nd.s0, .int .u64 nd.s1, .int .u64 nd.s2, .int .u64 nd.s3] 70)).alloc (.cells #[.bool false, .bool false, .int .i64 0, .int .i64 0] 74) := ⟨_, rfl⟩
  have HE1 := (show Hid (((w.alloc (.cells #[mv, sv] 129)).alloc (.cells #[.int .i64 nd.op, .int .i64 nd.nn, .string nd.tx, .int .u64 nd.s0, .int .u64 nd.s1, .int .u64 nd.s2, .int .u64 nd.s3] 70)).alloc (.cells #[.bool false, .bool false, .int .i64 0, .int .i64 0] 74) = w1) from hw1.symm)
  rw [← hw1] at HA
  have q0 : w1.cell? ⟨w.heap.size + 1, 0, none⟩ = some (.int .i64 nd.op) := HA.out.n.nb.c0
  have q2 : w1.cell? ⟨w.heap.size + 1, 2, none⟩ = some (.string nd.tx) := HA.out.n.nb.c2
  clear hw1 ho
  subst hl
  obtain ⟨g, o, rfl, lg, hEB⟩ := hp (by simp)
  have hx0 := (hEB 0 x rfl)
  rw [Nat.zero_mul, Nat.add_zero] at hx0
  have HD := (show Hid (E5 w w1.drew mv sv nd) from HA.out.later (Below.refl _ _).drew)
  obtain ⟨x0, x1, x2, x3⟩ := hx0.same (HD.out.b.block g lg)
  have n0 : w1.drew.cell? ⟨w.heap.size + 1, 0, none⟩ = some (.int .i64 nd.op) := HD.out.n.nb.c0
  have n1 : w1.drew.cell? ⟨w.heap.size + 1, 1, none⟩ = some (.int .i64 nd.nn) := HD.out.n.nb.c1
  have n2 : w1.drew.cell? ⟨w.heap.size + 1, 2, none⟩ = some (.string nd.tx) := HD.out.n.nb.c2
  have n3 : w1.drew.cell? ⟨w.heap.size + 1, 3, none⟩ = some (.int .u64 nd.s0) := HD.out.n.nb.c3
  have n4 : w1.drew.cell? ⟨w.heap.size + 1, 4, none⟩ = some (.int .u64 nd.s1) := HD.out.n.nb.c4
  have n5 : w1.drew.cell? ⟨w.heap.size + 1, 5, none⟩ = some (.int .u64 nd.s2) := HD.out.n.nb.c5
  have n6 : w1.drew.cell? ⟨w.heap.size + 1, 6, none⟩ = some (.int .u64 nd.s3) := HD.out.n.nb.c6
  have HR := (show Hid (∀ _ : Unit, Calls Tryz.prog 116 #[ndG nd, emG x] w1.drew fun e w' => e = .returned (emG (abE nd x)) ∧ E5 w w' mv sv nd) from fun _ => (above_any nd x hN hx w1.drew).mono fun e w' q => ⟨q.1, HD.out.later q.2⟩)
  generalize abE nd x = rr at *
  obtain ⟨rn, rc, rl, rm⟩ := rr
  obtain ⟨xn, xc, xl, xm⟩ := x
  simp only [emG] at HR
  simp only at x0 x1 x2 x3
  clear HD hp hEB hx0 lg hx hN
  go_enter Tryz.func106, Tryz.ntmps106
  go_wp2_with (rw [HE1.out])
  rw [show w.heap.size + 1 + 1 = w.heap.size + 2 from rfl]
  go_region_law (refine step_call2 enters_abo rfl _ _ _ _ (by rfl) (ndG nd) (.agg #[.bool xn, .bool xc, .int .i64 xl, .int .i64 xm]) (by rfl) (by rfl) ?_; with_reducible refine (HR.out ()).mono ?_; rintro e w2 ⟨rfl, h2⟩; refine ⟨_, rfl, ?_⟩; have f0 := h2.z.fz 0; have f1 := h2.z.fz 1; have f2 := h2.z.fz 2; have f3 := h2.z.fz 3; have z0 := h2.z.eb.c0; have z1 := h2.z.eb.c1; have z2 := h2.z.eb.c2; have z3 := h2.z.eb.c3)
  all_goals
    go_wp2_with fail
    have HZ := h2.ret ⟨rn, rc, rl, rm⟩
    refine ret_ex (s := 6) (k := w.heap.size + 2) (by rfl) (by rfl) (by rfl) HZ.1 ?_
    exact ⟨rfl, HZ.2⟩
end Go.Proofs.YtbnihflihelimaaGreat.N
