/- DERIVED. Plain mathematics and walks, laid together (6). -/
import Derived.Maps.OwnOps
import Derived.Test.YtppggnmlbcdegabGreatRo05
namespace Go.Proofs.YtppggnmlbcdegabGreat.N
open Go.RowKit Go.Maps
open Go.Proofs.YtppggnmlbcdegabGreat.T
/-- A rule in a box of its own. -/
structure RB (W : World) (b : Nat) (s : ByteArray) (v : Value) : Prop where
  heap : W.heap[b]? = some (.cells #[.string s, v] 44 (0, 0))
theorem RB.lt {W : World} {b : Nat} {s : ByteArray} {v : Value} (h : RB W b s v) : b < W.heap.size := (Array.getElem?_eq_some_iff.1 h.heap).1
theorem RB.c0 {W : World} {b : Nat} {s : ByteArray} {v : Value} (h : RB W b s v) : W.cell? ⟨b, 0, none⟩ = some (.string s) := by rw [cell_of_row W b 0 _ 44 (0, 0) h.heap]; rfl
theorem RB.c1 {W : World} {b : Nat} {s : ByteArray} {v : Value} (h : RB W b s v) : W.cell? ⟨b, 1, none⟩ = some v := by rw [cell_of_row W b 1 _ 44 (0, 0) h.heap]; rfl
theorem RB.same {W W' : World} {b : Nat} {s : ByteArray} {v : Value} (h : RB W b s v) (hb : W'.heap[b]? = W.heap[b]?) : RB W' b s v := ⟨hb.trans h.heap⟩
theorem RB.later {W W' : World} {b : Nat} {s : ByteArray} {v : Value} (h : RB W b s v) (hb : Below W.heap.size W W') : RB W' b s v := h.same (hb.block b h.lt)
theorem NuS.put {w wX w1 : World} {u : Value} {gs : GL} {g : ByteArray × List Nd} {k : Nat} {D : DataW Unit} {B : Nat} (hB : B = w.heap.size + 2) (h : UnS w wX u B gs) (hg : wX.grownBy w1 (some B)) (ho : w1.ownsMap Tryz.prog 9 (plainElem Tryz.prog 3) B (k + 1) (D.put (.string g.1.data.toList) (.lit (.int .i64 k)))) (hD : NmD D gs) (hf : fdG gs g.1 = none) (hk : gs.length = k) : UnS w w1 u B (gs ++ [g]) := by
  obtain ⟨D0, h1, _⟩ := h.m.ex
  have hm : Maps.IsMap D := by
    obtain ⟨es, clock, _, _, _, e⟩ := ho
    cases D with
    | map es => exact ⟨es, rfl⟩
    | _ => cases e
  refine ⟨h.b.grown hg h.b.size (fun j hj => by cases hj; omega), h.x.same (hg.block _ h.x.lt (fun e => by injection e with e; omega)), h.s.same (hg.block _ h.s.lt (fun e => by injection e with e; omega)), ⟨⟨D.put (.string g.1.data.toList) (.lit (.int .i64 k)), ?_, ?_⟩⟩⟩
  · rw [List.length_append, List.length_singleton, hk]; exact ho
  · have := NmD.put hm hD g hf
    rw [hk] at this
    exact this
/-- What numbered answers. -/
def NuV (w w' : World) (gs : GL) (e : Ending) : Prop := ((ckG gs).2 ≠ 0 ∧ e = .returned (.tuple #[.map none, .agg #[.int .i64 (ckG gs).1.1, .int .i64 (ckG gs).1.2], .int .i64 (ckG gs).2])) ∨ ((ckG gs).2 = 0 ∧ ∃ B, w.heap.size ≤ B ∧ e = .returned (.tuple #[.map (some B), .agg #[.int .i64 0, .int .i64 0], .int .i64 0]) ∧ NmM w' B gs)
theorem ckG_err {gs : GL} (h0 : ¬ gs.length = 0) (h2 : ¬ 200 < gs.length) : ∀ r, c1G gs 0 0 gs = r → r.2 ≠ 0 → ckG gs = r := fun r h hr => by
  unfold ckG
  rw [if_neg h0, if_neg h2, if_pos (by rw [h]; exact hr), h]
theorem ckG_un {gs : GL} (h0 : ¬ gs.length = 0) (h2 : ¬ 200 < gs.length) (h : c1G gs 0 0 gs = ((0, 0), 0)) : ckG gs = unG gs 0 gs := by
  unfold ckG
  rw [if_neg h0, if_neg h2, if_neg (by rw [h]; simp)]
set_option maxRecDepth 100000 in
set_option maxHeartbeats 32000000 in
theorem numb_any (gs : GL) (A : Option Addr) (c : Nat) (hl : gs.length ≤ 140737488355328) (hT : ∀ g ∈ gs, g.1.size ≤ 140737488355328 ∧ g.2.length ≤ 140737488355328 ∧ ∀ n ∈ g.2, n.tx.size ≤ 140737488355328) (w : World) (hp : GrD w A gs) :
    Calls Tryz.prog 46 #[.agg #[.slice A gs.length c]] w fun e w' => NuV w w' gs e ∧ Below w.heap.size w w' := by
  obtain ⟨w1, hw1⟩ : ∃ w1, w1 = (w.alloc (.cells #[.slice A gs.length c] 24)).alloc (.cells #[.int .i64 0, .int .i64 0] 61) := ⟨_, rfl⟩
  have HS : Hid (Below w.heap.size w w1 ∧ GX w1 w.heap.size (.slice A gs.length c) ∧ SX w1 (w.heap.size + 1) 0 0 ∧ w1.heap.size = w.heap.size + 2) := by
    show _ ∧ _ ∧ _ ∧ _
    rw [hw1]
    exact ⟨((Below.refl _ _).alloc (Nat.le_refl _) _).alloc (by rw [World.size_alloc]; omega) _, (GX.mk (heap_alloc_new w _)).below (below_box _ _), ⟨by have h := heap_alloc_new (w.alloc (.cells #[.slice A gs.length c] 24)) (.cells #[.int .i64 0, .int .i64 0] 61); rw [World.size_alloc] at h; exact h⟩, by simp⟩
  have q1 := HS.out.2.1.cl
  obtain ⟨mb, hmb⟩ : ∃ mb, mb = w.heap.size + 1 + 1 := ⟨_, rfl⟩
  have HMb := (show Hid (mb = w.heap.size + 2) from hmb)
  by_cases h0 : gs.length = 0
  · have HF := (show Hid (ckG gs = ((0, 0), 3)) from by show ckG gs = _; unfold ckG; rw [if_pos h0])
    have t0 : ((gs.length : Int) == 0) = true := beq_iff_eq.2 (by omega)
    have HBz := (show Hid (Below w.heap.size w w1) from HS.out.1)
    have c0 := HS.out.2.2.1.c0
    have c1 := HS.out.2.2.1.c1
    have f0 := HS.out.2.2.1.fz 0
    have f1 := HS.out.2.2.1.fz 1
    clear h0 hp hT HS
    go_enter Tryz.func46, Tryz.ntmps46
    go_wp2_with fail
    rw [← hw1]
    go_wp2_with fail
    refine bodyPost_ret (v := .tuple #[.map none, .agg #[.int .i64 0, .int .i64 0], .int .i64 3]) (by simp [results, Tryz.results46, go_sem, c0, c1]) rfl ⟨.inl ⟨by rw [HF.out]; decide, by rw [HF.out]; rfl⟩, HBz.out⟩
  have t0 : ((gs.length : Int) == 0) = false := beq_eq_false_iff_ne.2 (by omega)
  by_cases h2 : 200 < gs.length
  · have HF := (show Hid (ckG gs = ((0, 0), 2)) from by show ckG gs = _; unfold ckG; rw [if_neg h0, if_pos h2])
    have t2 : (200 : Int) < (gs.length : Int) := by omega
    have HBz := (show Hid (Below w.heap.size w w1) from HS.out.1)
    have c0 := HS.out.2.2.1.c0
    have c1 := HS.out.2.2.1.c1
    have f0 := HS.out.2.2.1.fz 0
    have f1 := HS.out.2.2.1.fz 1
    clear h0 hp hT h2 HS
    go_enter Tryz.func46, Tryz.ntmps46
    go_wp2_with fail
    rw [← hw1]
    go_wp2_with fail
    refine bodyPost_ret (v := .tuple #[.map none, .agg #[.int .i64 0, .int .i64 0], .int .i64 2]) (by simp [results, Tryz.results46, go_sem, c0, c1]) rfl ⟨.inl ⟨by rw [HF.out]; decide, by rw [HF.out]; rfl⟩, HBz.out⟩
  have t2 : ¬ (200 : Int) < (gs.length : Int) := by omega
  have hl200 : gs.length ≤ 200 := by omega
  have HE := (show Hid (∀ r, c1G gs 0 0 gs = r → r.2 ≠ 0 → ckG gs = r) from ckG_err h0 h2)
  have HEu := (show Hid (c1G gs 0 0 gs = ((0, 0), 0) → ckG gs = unG gs 0 gs) from ckG_un h0 h2)
  have HP := (show Hid (GrD w A gs) from hp)
  have HTT := (show Hid (∀ g ∈ gs, g.1.size ≤ 140737488355328 ∧ g.2.length ≤ 140737488355328 ∧ ∀ n ∈ g.2, n.tx.size ≤ 140737488355328) from hT)
  have HG := (show Hid (∀ k, k < gs.length → ∃ g, gs[k]? = some g ∧ g.1.size ≤ 140737488355328 ∧ g.2.length ≤ 140737488355328 ∧ (∀ n ∈ g.2, n.tx.size ≤ 140737488355328) ∧ gs.drop k = g :: gs.drop (k + 1)) from fun k hk => ⟨_, List.getElem?_eq_getElem hk, (hT _ (List.getElem_mem hk)).1, (hT _ (List.getElem_mem hk)).2.1, (hT _ (List.getElem_mem hk)).2.2, List.drop_eq_getElem_cons hk⟩)
  have HM := (show Hid (UnS w (w1.alloc (.map #[] 0)) (.slice A gs.length c) mb (gs.take 0)) from ⟨HS.out.1.alloc HS.out.1.size _, HS.out.2.1.below (below_box _ _), HS.out.2.2.1.below (below_box _ _), by have h := NmM.nil w1; rw [HS.out.2.2.2, ← HMb.out] at h; exact h⟩)
  have hsz := HS.out.2.2.2
  have hmm := @run_makeMap Tryz.prog
  clear h0 hp hT h2 HS
  go_enter Tryz.func46, Tryz.ntmps46
  go_wp2_with fail
  rw [← hw1]
  go_wp2_with fail
  rw [← hmb]
  clear hmm q1 hw1 hmb hsz
  generalize w1.alloc (.map #[] 0) = w2 at *
  go_loopw [6, 30] (fun v t wr => ∃ k m : Nat, k ≤ gs.length ∧ t = .int .i64 k ∧ v = .int .i64 m ∧ m ≤ 2048 ∧ Hid (c1G gs 0 0 gs = c1G gs k m (gs.drop k)) ∧ Hid (UnS w wr (.slice A gs.length c) mb (gs.take k))) (fun _ t _ => gs.length - (intOf t).toNat)
  case atStart => exact ⟨0, 0, by omega, by go_num, by go_num, by omega, rfl, HM⟩
  case round =>
    obtain ⟨k, m, hk, rfl, rfl, hm, HX0, HW⟩ := hrel
    clear HM
    by_cases hlt : k < gs.length
    · obtain ⟨g, hg, s1, s2, s3, hd⟩ := HG.out k hlt
      obtain ⟨b, o, A2, c2, rfl, lb, x0, x1, r2⟩ := HP.out k g hg
      have x0' := (HW.out.b.cell (p := ⟨b, o + k * 2, none⟩) lb).trans x0
      have x1' := (HW.out.b.cell (p := ⟨b, o + k * 2 + 1, none⟩) lb).trans x1
      clear x0 x1
      have z0 : (0 : Int) ≤ (k : Int) := by omega
      have z1 : (k : Int) < (gs.length : Int) := by omega
      have HRn := (show Hid (wr.heap.size ≠ mb) from by have := HW.out.m.lt; show wr.heap.size ≠ mb; omega)
      have HR0 := (show Hid (RB (wr.alloc (.cells #[.string g.1, .slice A2 g.2.length c2] 44)) wr.heap.size g.1 (.slice A2 g.2.length c2)) from ⟨heap_alloc_new wr _⟩)
      have HS0 := (show Hid (UnS w (wr.alloc (.cells #[.string g.1, .slice A2 g.2.length c2] 44)) (.slice (some ⟨b, o, none⟩) gs.length c) mb (gs.take k)) from HW.out.later (below_box _ _))
      have HNm : Hid (∀ W, Calls Tryz.prog 22 #[.string g.1] W fun e W' => e = .returned (.bool (nmB g.1)) ∧ Below W.heap.size W W') := fun W => nameP_any g.1 s1 W
      have HCk : Hid (∀ W, Below w.heap.size w W → Calls Tryz.prog 47 #[.slice A2 g.2.length c2] W fun e w' => e = .returned (.tuple #[.int .i64 (ck g.2).1, .int .i64 (ck g.2).2]) ∧ Below W.heap.size W w') := fun W hW => check_any g.2 A2 c2 s2 s3 W (r2.below hW (Nat.le_refl _))
      have hgk := hg
      have HX1 := (show Hid (c1G gs 0 0 gs = if ¬ (nmB g.1 = true ∨ (g.1.size = 0 ∧ gs.length = 1)) then ((k, 0), 6) else if tw gs g.1 k = true then ((k, 0), 80) else if (ck g.2).2 ≠ 0 then ((k, (ck g.2).1), (ck g.2).2) else if 2048 < m + g.2.length then ((k, 0), 2) else c1G gs (k + 1) (m + g.2.length) (gs.drop (k + 1))) from by show c1G gs 0 0 gs = _; rw [HX0.out, hd, c1G])
      have HSz := (show Hid (g.2.length ≤ 140737488355328) from s2)
      clear hg r2 s2 s3 HW HX0 hd
      have q3 := HS0.out.x.cl
      by_cases hs0 : g.1.size = 0
      · have te : (g.1.toList == []) = true := by
          have e := emp_t hs0
          rw [List.isEmpty_iff] at e
          rw [e]; rfl
        have te2 := emp_t hs0
        by_cases hl1 : gs.length = 1
        · have tl : ((gs.length : Int) == 1) = true := beq_iff_eq.2 (by omega)
          have HX := (show Hid (c1G gs 0 0 gs = if tw gs g.1 k = true then ((k, 0), 80) else if (ck g.2).2 ≠ 0 then ((k, (ck g.2).1), (ck g.2).2) else if 2048 < m + g.2.length then ((k, 0), 2) else c1G gs (k + 1) (m + g.2.length) (gs.drop (k + 1))) from by show c1G gs 0 0 gs = _; rw [HX1.out, if_neg (fun q => q (.inr ⟨hs0, hl1⟩))])
          clear HX1 hl1 hs0 HNm HEu HTT
          have HS := HS0
          have HR := HR0
          clear HS0 HR0
          obtain ⟨cc, hrun, _⟩ := HS.out.m.look g.1 s1
          by_cases htw : tw gs g.1 k = true
          · have HF := (show Hid (ckG gs = ((k, 0), 80)) from HE.out _ (by rw [HX.out, if_pos htw]) (by show (80 : Int) ≠ 0; decide))
            rw [← tw_take gs g.1 k (by omega), htw] at hrun
            have y0 := HR.out.c0
            clear HX HE HCk HR HG HP htw HSz
            have HZ := (show Hid (SX (((wr.alloc (.cells #[.string g.1, .slice A2 g.2.length c2] 44)).setCell ⟨w.heap.size + 1, 0, none⟩ (.int .i64 (k : Int))).setCell ⟨w.heap.size + 1, 1, none⟩ (.int .i64 0)) (w.heap.size + 1) (k : Int) 0) from HS.out.s.set _ _)
            have HBz := (show Hid (Below w.heap.size w (((wr.alloc (.cells #[.string g.1, .slice A2 g.2.length c2] 44)).setCell ⟨w.heap.size + 1, 0, none⟩ (.int .i64 (k : Int))).setCell ⟨w.heap.size + 1, 1, none⟩ (.int .i64 0))) from set_below (set_below HS.out.b (Nat.le_succ _)) (Nat.le_succ _))
            have c0 := HS.out.s.c0
            have c1 := HS.out.s.c1
            have f0 := HS.out.s.fz 0
            have f1 := HS.out.s.fz 1
            clear HS
            go_wp2_with fail
            have d0 := HZ.out.c0
            have d1 := HZ.out.c1
            clear c0 c1 f0 f1
            generalize ((wr.alloc (.cells #[.string g.1, .slice A2 g.2.length c2] 44)).setCell ⟨w.heap.size + 1, 0, none⟩ (.int .i64 (k : Int))).setCell ⟨w.heap.size + 1, 1, none⟩ (.int .i64 0) = wZ at *
            refine bodyPost_ret (v := .tuple #[.map none, .agg #[.int .i64 (k : Int), .int .i64 0], .int .i64 80]) (by simp [results, Tryz.results46, go_sem, d0, d1]) rfl ⟨.inl ⟨by rw [HF.out]; show (80 : Int) ≠ 0; decide, by rw [HF.out]; try rfl⟩, HBz.out⟩
          · have htw2 : tw gs g.1 k = false := by cases q : tw gs g.1 k; rfl; exact absurd q htw
            rw [← tw_take gs g.1 k (by omega), htw2] at hrun
            have HX2 := (show Hid (c1G gs 0 0 gs = if (ck g.2).2 ≠ 0 then ((k, (ck g.2).1), (ck g.2).2) else if 2048 < m + g.2.length then ((k, 0), 2) else c1G gs (k + 1) (m + g.2.length) (gs.drop (k + 1))) from by show c1G gs 0 0 gs = _; rw [HX.out, if_neg htw])
            have hfd : fdG (gs.take k) g.1 = none := by
              have := tw_take gs g.1 k (by omega)
              rw [htw2] at this
              cases q : fdG (gs.take k) g.1 with
              | none => rfl
              | some i => rw [q] at this; cases this
            obtain ⟨D, hown, hD⟩ := HS.out.m.ex
            have HD := (show Hid (NmD D (gs.take k)) from hD)
            have hlk : (gs.take k).length = k := by rw [List.length_take]; omega
            rw [hlk] at hown
            have HFd := (show Hid (fdG (gs.take k) g.1 = none) from hfd)
            have HLk := (show Hid ((gs.take k).length = k) from hlk)
            have HGk := (show Hid (gs.take (k + 1) = gs.take k ++ [g]) from by rw [List.take_add_one, hgk]; rfl)
            have HPut := (show Hid (∀ w1, ((wr.alloc (.cells #[.string g.1, .slice A2 g.2.length c2] 44))).grownBy w1 (some mb) → w1.ownsMap Tryz.prog 9 (plainElem Tryz.prog 3) mb (k + 1) (D.put (.string g.1.data.toList) (.lit (.int .i64 k))) → UnS w w1 (.slice (some ⟨b, o, none⟩) gs.length c) mb (gs.take (k + 1))) from fun w1 hgrow1 hown1 => by
              show UnS w w1 _ _ _
              rw [HGk.out]
              exact NuS.put HMb.out HS.out hgrow1 hown1 HD.out HFd.out HLk.out)
            have y0 := HR.out.c0
            have y1 := HR.out.c1
            have hkey := key_of s1
            clear HX htw htw2 hD hfd hlk hgk HD HFd HLk HGk
            go_wp2_with (
              at_mapUpdate
              refine wpList_mapUpdate_own _ rfl _ _ _ 54 rfl 9 3 keyed Tryz.underlying54 _ mb k D rfl hown (by unfold maxLen; omega) _ _ (.string g.1.data.toList) rfl rfl hkey _ [] (plainElem_int Tryz.underlying3 (WalkArith.wf_i64 (by omega))) ?_
              intro w1 hown1 hgrow1
              have HS1 := (show Hid (UnS w w1 (.slice (some ⟨b, o, none⟩) gs.length c) mb (gs.take (k + 1))) from HPut.out w1 hgrow1 hown1)
              have HR1 := (show Hid (RB w1 wr.heap.size g.1 (.slice A2 g.2.length c2)) from HR.out.same (hgrow1.block wr.heap.size HR.out.lt (fun e => by injection e with e; exact HRn.out e)))
              have z1' := HR1.out.c1
              clear hown hown1 hgrow1 y0 y1 hrun HS HR HPut)
            refine (HCk.out _ HS1.out.b).mono ?_
            rintro e w4 ⟨rfl, b4⟩
            have HS := (show Hid (UnS w w4 (.slice (some ⟨b, o, none⟩) gs.length c) mb (gs.take (k + 1))) from HS1.out.later b4)
            have y1 := (HR1.out.later b4).c1
            clear HCk b4 HS1 HR1 z1'
            by_cases hc : (ck g.2).2 = 0
            · have tc : ((ck g.2).2 != 0) = false := by rw [hc]; rfl
              have hg3 : g.2.length ≤ 2048 := by
                by_cases q : g.2.length ≤ 2048
                · exact q
                · have := ck_long (L := g.2) (by omega)
                  rw [this] at hc
                  exact absurd hc (by decide)
              have HV := (show Hid (c1G gs 0 0 gs = if 2048 < m + g.2.length then ((k, 0), 2) else c1G gs (k + 1) (m + g.2.length) (gs.drop (k + 1))) from by show c1G gs 0 0 gs = _; rw [HX2.out, if_neg (by rw [hc]; simp)])
              generalize hcc : (ck g.2).2 = cc2 at *
              clear hcc HX2
              by_cases hn : 2048 < m + g.2.length
              · have HF := (show Hid (ckG gs = ((k, 0), 2)) from HE.out _ (by rw [HV.out, if_pos hn]) (by show (2 : Int) ≠ 0; decide))
                have tn : (2048 : Int) < (m : Int) + (g.2.length : Int) := by omega
                clear HV HE HG HP hn
                have HZ := (show Hid (SX ((w4.setCell ⟨w.heap.size + 1, 0, none⟩ (.int .i64 (k : Int))).setCell ⟨w.heap.size + 1, 1, none⟩ (.int .i64 0)) (w.heap.size + 1) (k : Int) 0) from HS.out.s.set _ _)
                have HBz := (show Hid (Below w.heap.size w ((w4.setCell ⟨w.heap.size + 1, 0, none⟩ (.int .i64 (k : Int))).setCell ⟨w.heap.size + 1, 1, none⟩ (.int .i64 0))) from set_below (set_below HS.out.b (Nat.le_succ _)) (Nat.le_succ _))
                have c0 := HS.out.s.c0
                have c1 := HS.out.s.c1
                have f0 := HS.out.s.fz 0
                have f1 := HS.out.s.fz 1
                clear HS
                go_wp2_with fail
                have d0 := HZ.out.c0
                have d1 := HZ.out.c1
                clear c0 c1 f0 f1
                generalize (w4.setCell ⟨w.heap.size + 1, 0, none⟩ (.int .i64 (k : Int))).setCell ⟨w.heap.size + 1, 1, none⟩ (.int .i64 0) = wZ at *
                refine bodyPost_ret (v := .tuple #[.map none, .agg #[.int .i64 (k : Int), .int .i64 0], .int .i64 2]) (by simp [results, Tryz.results46, go_sem, d0, d1]) rfl ⟨.inl ⟨by rw [HF.out]; show (2 : Int) ≠ 0; decide, by rw [HF.out]; try rfl⟩, HBz.out⟩
              · have HX3 := (show Hid (c1G gs 0 0 gs = c1G gs (k + 1) (m + g.2.length) (gs.drop (k + 1))) from by show c1G gs 0 0 gs = _; rw [HV.out, if_neg hn])
                have tn : ¬ (2048 : Int) < (m : Int) + (g.2.length : Int) := by omega
                clear HV
                go_wp2_with fail
                go_roundw
                case rel => exact ⟨k + 1, m + g.2.length, by omega, by go_num, by go_num, by omega, HX3, HS⟩
                case measure => simp [intOf]; omega
            · have tc : ((ck g.2).2 != 0) = true := by rw [bne, beq_eq_false_iff_ne.2 hc]; rfl
              have HF := (show Hid (ckG gs = ((k, (ck g.2).1), (ck g.2).2)) from HE.out _ (by rw [HX2.out, if_pos hc]) hc)
              have HC := (show Hid ((ck g.2).2 ≠ 0) from hc)
              clear HX2 HE HG HP hc
              generalize hcc : (ck g.2).2 = cc2 at *
              generalize hcd : (ck g.2).1 = cc1 at *
              clear hcc hcd
              have HZ := (show Hid (SX ((w4.setCell ⟨w.heap.size + 1, 0, none⟩ (.int .i64 (k : Int))).setCell ⟨w.heap.size + 1, 1, none⟩ (.int .i64 (cc1 : Int))) (w.heap.size + 1) (k : Int) (cc1 : Int)) from HS.out.s.set _ _)
              have HBz := (show Hid (Below w.heap.size w ((w4.setCell ⟨w.heap.size + 1, 0, none⟩ (.int .i64 (k : Int))).setCell ⟨w.heap.size + 1, 1, none⟩ (.int .i64 (cc1 : Int)))) from set_below (set_below HS.out.b (Nat.le_succ _)) (Nat.le_succ _))
              have c0 := HS.out.s.c0
              have c1 := HS.out.s.c1
              have f0 := HS.out.s.fz 0
              have f1 := HS.out.s.fz 1
              clear HS
              go_wp2_with fail
              have d0 := HZ.out.c0
              have d1 := HZ.out.c1
              clear c0 c1 f0 f1
              generalize (w4.setCell ⟨w.heap.size + 1, 0, none⟩ (.int .i64 (k : Int))).setCell ⟨w.heap.size + 1, 1, none⟩ (.int .i64 (cc1 : Int)) = wZ at *
              refine bodyPost_ret (v := .tuple #[.map none, .agg #[.int .i64 (k : Int), .int .i64 (cc1 : Int)], .int .i64 cc2]) (by simp [results, Tryz.results46, go_sem, d0, d1]) rfl ⟨.inl ⟨by rw [HF.out]; exact HC.out, by rw [HF.out]; try rfl⟩, HBz.out⟩
        · have tl : ((gs.length : Int) == 1) = false := beq_eq_false_iff_ne.2 (by omega)
          have hnb : nmB g.1 = false := nmB_f (fun h => by have := h.1; omega)
          have HF := (show Hid (ckG gs = ((k, 0), 6)) from HE.out _ (by rw [HX1.out, if_pos (by rintro (q | q); rw [hnb] at q; cases q; exact hl1 q.2)]) (by show (6 : Int) ≠ 0; decide))
          rw [hnb] at HNm
          clear HX1 HE HG HP hl1 hs0 hgk HCk HEu HTT
          go_wp2_with fail
          refine (HNm.out _).mono ?_
          rintro e w3 ⟨rfl, b3⟩
          have HS := (show Hid (UnS w w3 (.slice (some ⟨b, o, none⟩) gs.length c) mb (gs.take k)) from HS0.out.later b3)
          clear HNm b3 HR0 HS0
          have HZ := (show Hid (SX ((w3.setCell ⟨w.heap.size + 1, 0, none⟩ (.int .i64 (k : Int))).setCell ⟨w.heap.size + 1, 1, none⟩ (.int .i64 0)) (w.heap.size + 1) (k : Int) 0) from HS.out.s.set _ _)
          have HBz := (show Hid (Below w.heap.size w ((w3.setCell ⟨w.heap.size + 1, 0, none⟩ (.int .i64 (k : Int))).setCell ⟨w.heap.size + 1, 1, none⟩ (.int .i64 0))) from set_below (set_below HS.out.b (Nat.le_succ _)) (Nat.le_succ _))
          have c0 := HS.out.s.c0
          have c1 := HS.out.s.c1
          have f0 := HS.out.s.fz 0
          have f1 := HS.out.s.fz 1
          clear HS
          go_wp2_with fail
          have d0 := HZ.out.c0
          have d1 := HZ.out.c1
          clear c0 c1 f0 f1
          generalize (w3.setCell ⟨w.heap.size + 1, 0, none⟩ (.int .i64 (k : Int))).setCell ⟨w.heap.size + 1, 1, none⟩ (.int .i64 0) = wZ at *
          refine bodyPost_ret (v := .tuple #[.map none, .agg #[.int .i64 (k : Int), .int .i64 0], .int .i64 6]) (by simp [results, Tryz.results46, go_sem, d0, d1]) rfl ⟨.inl ⟨by rw [HF.out]; show (6 : Int) ≠ 0; decide, by rw [HF.out]; try rfl⟩, HBz.out⟩
      · have te : (g.1.toList == []) = false := by
          have e := emp_f hs0
          cases hl : g.1.toList with
          | nil => rw [hl] at e; cases e
          | cons x r => rfl
        have te2 := emp_f hs0
        cases hnb : nmB g.1
        · have HF := (show Hid (ckG gs = ((k, 0), 6)) from HE.out _ (by rw [HX1.out, if_pos (by rintro (q | q); rw [hnb] at q; cases q; exact hs0 q.1)]) (by show (6 : Int) ≠ 0; decide))
          rw [hnb] at HNm
          clear HX1 HE HG HP hs0 hgk HCk HEu HTT
          go_wp2_with fail
          refine (HNm.out _).mono ?_
          rintro e w3 ⟨rfl, b3⟩
          have HS := (show Hid (UnS w w3 (.slice (some ⟨b, o, none⟩) gs.length c) mb (gs.take k)) from HS0.out.later b3)
          clear HNm b3 HR0 HS0
          have HZ := (show Hid (SX ((w3.setCell ⟨w.heap.size + 1, 0, none⟩ (.int .i64 (k : Int))).setCell ⟨w.heap.size + 1, 1, none⟩ (.int .i64 0)) (w.heap.size + 1) (k : Int) 0) from HS.out.s.set _ _)
          have HBz := (show Hid (Below w.heap.size w ((w3.setCell ⟨w.heap.size + 1, 0, none⟩ (.int .i64 (k : Int))).setCell ⟨w.heap.size + 1, 1, none⟩ (.int .i64 0))) from set_below (set_below HS.out.b (Nat.le_succ _)) (Nat.le_succ _))
          have c0 := HS.out.s.c0
          have c1 := HS.out.s.c1
          have f0 := HS.out.s.fz 0
          have f1 := HS.out.s.fz 1
          clear HS
          go_wp2_with fail
          have d0 := HZ.out.c0
          have d1 := HZ.out.c1
          clear c0 c1 f0 f1
          generalize (w3.setCell ⟨w.heap.size + 1, 0, none⟩ (.int .i64 (k : Int))).setCell ⟨w.heap.size + 1, 1, none⟩ (.int .i64 0) = wZ at *
          refine bodyPost_ret (v := .tuple #[.map none, .agg #[.int .i64 (k : Int), .int .i64 0], .int .i64 6]) (by simp [results, Tryz.results46, go_sem, d0, d1]) rfl ⟨.inl ⟨by rw [HF.out]; show (6 : Int) ≠ 0; decide, by rw [HF.out]; try rfl⟩, HBz.out⟩
        · have HX := (show Hid (c1G gs 0 0 gs = if tw gs g.1 k = true then ((k, 0), 80) else if (ck g.2).2 ≠ 0 then ((k, (ck g.2).1), (ck g.2).2) else if 2048 < m + g.2.length then ((k, 0), 2) else c1G gs (k + 1) (m + g.2.length) (gs.drop (k + 1))) from by show c1G gs 0 0 gs = _; rw [HX1.out, if_neg (fun q => q (.inl hnb))])
          rw [hnb] at HNm
          clear HX1 hs0 hnb HEu HTT
          go_wp2_with fail
          refine (HNm.out _).mono ?_
          rintro e wX ⟨rfl, b3⟩
          have HS := (show Hid (UnS w wX (.slice (some ⟨b, o, none⟩) gs.length c) mb (gs.take k)) from HS0.out.later b3)
          have HR := (show Hid (RB wX wr.heap.size g.1 (.slice A2 g.2.length c2)) from HR0.out.later b3)
          clear HNm b3 HR0 HS0 x0' x1'
          obtain ⟨cc, hrun, _⟩ := HS.out.m.look g.1 s1
          by_cases htw : tw gs g.1 k = true
          · have HF := (show Hid (ckG gs = ((k, 0), 80)) from HE.out _ (by rw [HX.out, if_pos htw]) (by show (80 : Int) ≠ 0; decide))
            rw [← tw_take gs g.1 k (by omega), htw] at hrun
            have y0 := HR.out.c0
            clear HX HE HCk HR HG HP htw HSz
            have HZ := (show Hid (SX ((wX.setCell ⟨w.heap.size + 1, 0, none⟩ (.int .i64 (k : Int))).setCell ⟨w.heap.size + 1, 1, none⟩ (.int .i64 0)) (w.heap.size + 1) (k : Int) 0) from HS.out.s.set _ _)
            have HBz := (show Hid (Below w.heap.size w ((wX.setCell ⟨w.heap.size + 1, 0, none⟩ (.int .i64 (k : Int))).setCell ⟨w.heap.size + 1, 1, none⟩ (.int .i64 0))) from set_below (set_below HS.out.b (Nat.le_succ _)) (Nat.le_succ _))
            have c0 := HS.out.s.c0
            have c1 := HS.out.s.c1
            have f0 := HS.out.s.fz 0
            have f1 := HS.out.s.fz 1
            clear HS
            go_wp2_with fail
            have d0 := HZ.out.c0
            have d1 := HZ.out.c1
            clear c0 c1 f0 f1
            generalize (wX.setCell ⟨w.heap.size + 1, 0, none⟩ (.int .i64 (k : Int))).setCell ⟨w.heap.size + 1, 1, none⟩ (.int .i64 0) = wZ at *
            refine bodyPost_ret (v := .tuple #[.map none, .agg #[.int .i64 (k : Int), .int .i64 0], .int .i64 80]) (by simp [results, Tryz.results46, go_sem, d0, d1]) rfl ⟨.inl ⟨by rw [HF.out]; show (80 : Int) ≠ 0; decide, by rw [HF.out]; try rfl⟩, HBz.out⟩
          · have htw2 : tw gs g.1 k = false := by cases q : tw gs g.1 k; rfl; exact absurd q htw
            rw [← tw_take gs g.1 k (by omega), htw2] at hrun
            have HX2 := (show Hid (c1G gs 0 0 gs = if (ck g.2).2 ≠ 0 then ((k, (ck g.2).1), (ck g.2).2) else if 2048 < m + g.2.length then ((k, 0), 2) else c1G gs (k + 1) (m + g.2.length) (gs.drop (k + 1))) from by show c1G gs 0 0 gs = _; rw [HX.out, if_neg htw])
            have hfd : fdG (gs.take k) g.1 = none := by
              have := tw_take gs g.1 k (by omega)
              rw [htw2] at this
              cases q : fdG (gs.take k) g.1 with
              | none => rfl
              | some i => rw [q] at this; cases this
            obtain ⟨D, hown, hD⟩ := HS.out.m.ex
            have HD := (show Hid (NmD D (gs.take k)) from hD)
            have hlk : (gs.take k).length = k := by rw [List.length_take]; omega
            rw [hlk] at hown
            have HFd := (show Hid (fdG (gs.take k) g.1 = none) from hfd)
            have HLk := (show Hid ((gs.take k).length = k) from hlk)
            have HGk := (show Hid (gs.take (k + 1) = gs.take k ++ [g]) from by rw [List.take_add_one, hgk]; rfl)
            have HPut := (show Hid (∀ w1, (wX).grownBy w1 (some mb) → w1.ownsMap Tryz.prog 9 (plainElem Tryz.prog 3) mb (k + 1) (D.put (.string g.1.data.toList) (.lit (.int .i64 k))) → UnS w w1 (.slice (some ⟨b, o, none⟩) gs.length c) mb (gs.take (k + 1))) from fun w1 hgrow1 hown1 => by
              show UnS w w1 _ _ _
              rw [HGk.out]
              exact NuS.put HMb.out HS.out hgrow1 hown1 HD.out HFd.out HLk.out)
            have y0 := HR.out.c0
            have y1 := HR.out.c1
            have hkey := key_of s1
            clear HX htw htw2 hD hfd hlk hgk HD HFd HLk HGk
            go_wp2_with (
              at_mapUpdate
              refine wpList_mapUpdate_own _ rfl _ _ _ 54 rfl 9 3 keyed Tryz.underlying54 _ mb k D rfl hown (by unfold maxLen; omega) _ _ (.string g.1.data.toList) rfl rfl hkey _ [] (plainElem_int Tryz.underlying3 (WalkArith.wf_i64 (by omega))) ?_
              intro w1 hown1 hgrow1
              have HS1 := (show Hid (UnS w w1 (.slice (some ⟨b, o, none⟩) gs.length c) mb (gs.take (k + 1))) from HPut.out w1 hgrow1 hown1)
              have HR1 := (show Hid (RB w1 wr.heap.size g.1 (.slice A2 g.2.length c2)) from HR.out.same (hgrow1.block wr.heap.size HR.out.lt (fun e => by injection e with e; exact HRn.out e)))
              have z1' := HR1.out.c1
              clear hown hown1 hgrow1 y0 y1 hrun HS HR HPut)
            refine (HCk.out _ HS1.out.b).mono ?_
            rintro e w4 ⟨rfl, b4⟩
            have HS := (show Hid (UnS w w4 (.slice (some ⟨b, o, none⟩) gs.length c) mb (gs.take (k + 1))) from HS1.out.later b4)
            have y1 := (HR1.out.later b4).c1
            clear HCk b4 HS1 HR1 z1'
            by_cases hc : (ck g.2).2 = 0
            · have tc : ((ck g.2).2 != 0) = false := by rw [hc]; rfl
              have hg3 : g.2.length ≤ 2048 := by
                by_cases q : g.2.length ≤ 2048
                · exact q
                · have := ck_long (L := g.2) (by omega)
                  rw [this] at hc
                  exact absurd hc (by decide)
              have HV := (show Hid (c1G gs 0 0 gs = if 2048 < m + g.2.length then ((k, 0), 2) else c1G gs (k + 1) (m + g.2.length) (gs.drop (k + 1))) from by show c1G gs 0 0 gs = _; rw [HX2.out, if_neg (by rw [hc]; simp)])
              generalize hcc : (ck g.2).2 = cc2 at *
              clear hcc HX2
              by_cases hn : 2048 < m + g.2.length
              · have HF := (show Hid (ckG gs = ((k, 0), 2)) from HE.out _ (by rw [HV.out, if_pos hn]) (by show (2 : Int) ≠ 0; decide))
                have tn : (2048 : Int) < (m : Int) + (g.2.length : Int) := by omega
                clear HV HE HG HP hn
                have HZ := (show Hid (SX ((w4.setCell ⟨w.heap.size + 1, 0, none⟩ (.int .i64 (k : Int))).setCell ⟨w.heap.size + 1, 1, none⟩ (.int .i64 0)) (w.heap.size + 1) (k : Int) 0) from HS.out.s.set _ _)
                have HBz := (show Hid (Below w.heap.size w ((w4.setCell ⟨w.heap.size + 1, 0, none⟩ (.int .i64 (k : Int))).setCell ⟨w.heap.size + 1, 1, none⟩ (.int .i64 0))) from set_below (set_below HS.out.b (Nat.le_succ _)) (Nat.le_succ _))
                have c0 := HS.out.s.c0
                have c1 := HS.out.s.c1
                have f0 := HS.out.s.fz 0
                have f1 := HS.out.s.fz 1
                clear HS
                go_wp2_with fail
                have d0 := HZ.out.c0
                have d1 := HZ.out.c1
                clear c0 c1 f0 f1
                generalize (w4.setCell ⟨w.heap.size + 1, 0, none⟩ (.int .i64 (k : Int))).setCell ⟨w.heap.size + 1, 1, none⟩ (.int .i64 0) = wZ at *
                refine bodyPost_ret (v := .tuple #[.map none, .agg #[.int .i64 (k : Int), .int .i64 0], .int .i64 2]) (by simp [results, Tryz.results46, go_sem, d0, d1]) rfl ⟨.inl ⟨by rw [HF.out]; show (2 : Int) ≠ 0; decide, by rw [HF.out]; try rfl⟩, HBz.out⟩
              · have HX3 := (show Hid (c1G gs 0 0 gs = c1G gs (k + 1) (m + g.2.length) (gs.drop (k + 1))) from by show c1G gs 0 0 gs = _; rw [HV.out, if_neg hn])
                have tn : ¬ (2048 : Int) < (m : Int) + (g.2.length : Int) := by omega
                clear HV
                go_wp2_with fail
                go_roundw
                case rel => exact ⟨k + 1, m + g.2.length, by omega, by go_num, by go_num, by omega, HX3, HS⟩
                case measure => simp [intOf]; omega
            · have tc : ((ck g.2).2 != 0) = true := by rw [bne, beq_eq_false_iff_ne.2 hc]; rfl
              have HF := (show Hid (ckG gs = ((k, (ck g.2).1), (ck g.2).2)) from HE.out _ (by rw [HX2.out, if_pos hc]) hc)
              have HC := (show Hid ((ck g.2).2 ≠ 0) from hc)
              clear HX2 HE HG HP hc
              generalize hcc : (ck g.2).2 = cc2 at *
              generalize hcd : (ck g.2).1 = cc1 at *
              clear hcc hcd
              have HZ := (show Hid (SX ((w4.setCell ⟨w.heap.size + 1, 0, none⟩ (.int .i64 (k : Int))).setCell ⟨w.heap.size + 1, 1, none⟩ (.int .i64 (cc1 : Int))) (w.heap.size + 1) (k : Int) (cc1 : Int)) from HS.out.s.set _ _)
              have HBz := (show Hid (Below w.heap.size w ((w4.setCell ⟨w.heap.size + 1, 0, none⟩ (.int .i64 (k : Int))).setCell ⟨w.heap.size + 1, 1, none⟩ (.int .i64 (cc1 : Int)))) from set_below (set_below HS.out.b (Nat.le_succ _)) (Nat.le_succ _))
              have c0 := HS.out.s.c0
              have c1 := HS.out.s.c1
              have f0 := HS.out.s.fz 0
              have f1 := HS.out.s.fz 1
              clear HS
              go_wp2_with fail
              have d0 := HZ.out.c0
              have d1 := HZ.out.c1
              clear c0 c1 f0 f1
              generalize (w4.setCell ⟨w.heap.size + 1, 0, none⟩ (.int .i64 (k : Int))).setCell ⟨w.heap.size + 1, 1, none⟩ (.int .i64 (cc1 : Int)) = wZ at *
              refine bodyPost_ret (v := .tuple #[.map none, .agg #[.int .i64 (k : Int), .int .i64 (cc1 : Int)], .int .i64 cc2]) (by simp [results, Tryz.results46, go_sem, d0, d1]) rfl ⟨.inl ⟨by rw [HF.out]; exact HC.out, by rw [HF.out]; try rfl⟩, HBz.out⟩
    · obtain rfl : k = gs.length := by omega
      have HE2 := (show Hid (ckG gs = unG gs 0 gs) from HEu.out (by rw [HX0.out, List.drop_length]; rfl))
      have HS := (show Hid (UnS w wr (.slice A gs.length c) mb gs) from by show UnS w wr _ _ gs; have h := HW.out; rw [List.take_length] at h; exact h)
      have HUn := (show Hid (∀ _ : Unit, Calls Tryz.prog 59 #[.agg #[.slice A gs.length c], .map (some mb)] wr fun e w' => e = .returned (.tuple #[.agg #[.int .i64 (unG gs 0 gs).1.1, .int .i64 (unG gs 0 gs).1.2], .int .i64 (unG gs 0 gs).2]) ∧ Below wr.heap.size wr w') from fun _ => unknown_any gs A c mb hl HTT.out wr (HP.out.later HS.out.b) HS.out.m)
      have q3 := HS.out.x.cl
      clear HX0 HG HP HW HE HEu HTT
      go_wp2_with fail
      refine (HUn.out ()).mono ?_
      rintro e w5 ⟨rfl, b5⟩
      obtain ⟨wX, hwX⟩ : ∃ wX, wX = w5.alloc (.cells #[.int .i64 ((unG gs 0 gs).1.1 : Int), .int .i64 ((unG gs 0 gs).1.2 : Int)] 61) := ⟨_, rfl⟩
      have HS5 := (show Hid (UnS w wX (.slice A gs.length c) mb gs ∧ SX wX w5.heap.size ((unG gs 0 gs).1.1 : Int) ((unG gs 0 gs).1.2 : Int)) from by
        show _ ∧ _
        rw [hwX]
        exact ⟨(HS.out.later b5).later (below_box _ _), ⟨heap_alloc_new _ _⟩⟩)
      have HMx := (show Hid (mb ≠ w.heap.size + 1 ∧ w.heap.size ≤ mb) from by show _ ∧ _; rw [HMb.out]; omega)
      clear HUn b5 HS q3
      by_cases hz : (unG gs 0 gs).2 = 0
      · have HF := (show Hid ((ckG gs).2 = 0) from by show _ = _; rw [HE2.out]; exact hz)
        have tz : ((unG gs 0 gs).2 != 0) = false := by rw [hz]; rfl
        have HZ := (show Hid (SX ((wX.setCell ⟨w.heap.size + 1, 0, none⟩ (.int .i64 0)).setCell ⟨w.heap.size + 1, 1, none⟩ (.int .i64 0)) (w.heap.size + 1) 0 0) from HS5.out.1.s.set _ _)
        have HBz := (show Hid (Below w.heap.size w ((wX.setCell ⟨w.heap.size + 1, 0, none⟩ (.int .i64 0)).setCell ⟨w.heap.size + 1, 1, none⟩ (.int .i64 0))) from set_below (set_below HS5.out.1.b (Nat.le_succ _)) (Nat.le_succ _))
        have HMz := (show Hid (NmM ((wX.setCell ⟨w.heap.size + 1, 0, none⟩ (.int .i64 0)).setCell ⟨w.heap.size + 1, 1, none⟩ (.int .i64 0)) mb gs) from (HS5.out.1.m.same (heap_setCell_other _ _ _ _ HMx.out.1)).same (heap_setCell_other _ _ _ _ HMx.out.1))
        have c0 := HS5.out.1.s.c0
        have c1 := HS5.out.1.s.c1
        have f0 := HS5.out.1.s.fz 0
        have f1 := HS5.out.1.s.fz 1
        clear HS5 HE2 hz
        subst hwX
        generalize (unG gs 0 gs).2 = cc2 at *
        go_wp2_with fail
        have d0 := HZ.out.c0
        have d1 := HZ.out.c1
        clear c0 c1 f0 f1
        generalize ((w5.alloc (.cells #[.int .i64 ((unG gs 0 gs).1.1 : Int), .int .i64 ((unG gs 0 gs).1.2 : Int)] 61)).setCell ⟨w.heap.size + 1, 0, none⟩ (.int .i64 0)).setCell ⟨w.heap.size + 1, 1, none⟩ (.int .i64 0) = wZ at *
        refine bodyPost_ret (v := .tuple #[.map (some mb), .agg #[.int .i64 0, .int .i64 0], .int .i64 0]) (by simp [results, Tryz.results46, go_sem, d0, d1]) rfl ⟨.inr ⟨HF.out, mb, HMx.out.2, rfl, HMz.out⟩, HBz.out⟩
      · have tz : ((unG gs 0 gs).2 != 0) = true := by rw [bne, beq_eq_false_iff_ne.2 hz]; rfl
        have HF := (show Hid (ckG gs = unG gs 0 gs) from HE2.out)
        have HC := (show Hid ((unG gs 0 gs).2 ≠ 0) from hz)
        have HZ := (show Hid (SX (((wX.setCell ⟨w.heap.size + 1, 0, none⟩ (.int .i64 ((unG gs 0 gs).1.1 : Int))).setCell ⟨w.heap.size + 1, 1, none⟩ (.int .i64 ((unG gs 0 gs).1.2 : Int))).drew) (w.heap.size + 1) ((unG gs 0 gs).1.1 : Int) ((unG gs 0 gs).1.2 : Int)) from (HS5.out.1.s.set _ _).below (Below.refl _ _).drew)
        have HBz := (show Hid (Below w.heap.size w (((wX.setCell ⟨w.heap.size + 1, 0, none⟩ (.int .i64 ((unG gs 0 gs).1.1 : Int))).setCell ⟨w.heap.size + 1, 1, none⟩ (.int .i64 ((unG gs 0 gs).1.2 : Int))).drew)) from (set_below (set_below HS5.out.1.b (Nat.le_succ _)) (Nat.le_succ _)).drew)
        have HF2 := (show Hid ((ckG gs).1.1 = (unG gs 0 gs).1.1 ∧ (ckG gs).1.2 = (unG gs 0 gs).1.2 ∧ (ckG gs).2 = (unG gs 0 gs).2) from by show _ ∧ _; rw [HF.out]; exact ⟨rfl, rfl, rfl⟩)
        have c0 := HS5.out.1.s.c0
        have c1 := HS5.out.1.s.c1
        have f0 := HS5.out.1.s.fz 0
        have f1 := HS5.out.1.s.fz 1
        have e0 := HS5.out.2.c0
        have e1 := HS5.out.2.c1
        clear HS5 HE2 hz HMx HF
        generalize (unG gs 0 gs).1.1 = ca at *
        generalize (unG gs 0 gs).1.2 = cb at *
        generalize (unG gs 0 gs).2 = cd at *
        go_wp2_with fail
        rw [← hwX]
        clear hwX
        go_region
        all_goals (go_wp2_with fail)
        all_goals
          have d0 := HZ.out.c0
          have d1 := HZ.out.c1
          clear c0 c1 f0 f1 e0 e1
          generalize ((wX.setCell ⟨w.heap.size + 1, 0, none⟩ (.int .i64 (ca : Int))).setCell ⟨w.heap.size + 1, 1, none⟩ (.int .i64 (cb : Int))).drew = wZ at *
          refine bodyPost_ret (v := .tuple #[.map none, .agg #[.int .i64 (ca : Int), .int .i64 (cb : Int)], .int .i64 cd]) (by simp [results, Tryz.results46, go_sem, d0, d1]) rfl ⟨.inl ⟨by rw [HF2.out.2.2]; exact HC.out, by rw [HF2.out.1, HF2.out.2.1, HF2.out.2.2]⟩, HBz.out⟩
end Go.Proofs.YtppggnmlbcdegabGreat.N

namespace Go.Proofs.YtppggnmlbcdegabGreat.N
open Go.RowKit Go.Maps
open Go.Proofs.YtppggnmlbcdegabGreat.T
/-- A grammar that can be read, of a size that can be. -/
structure GI (W : World) (A : Option Addr) (gs : GL) : Prop where
  d : GrD W A gs
  l : gs.length ≤ 140737488355328
  t : ∀ g ∈ gs, g.1.size ≤ 140737488355328 ∧ g.2.length ≤ 140737488355328 ∧ ∀ n ∈ g.2, n.tx.size ≤ 140737488355328
theorem GI.later {W W' : World} {A : Option Addr} {gs : GL} (h : GI W A gs) (hb : Below W.heap.size W W') : GI W' A gs := ⟨h.d.later hb, h.l, h.t⟩
theorem GrIn.gi {W : World} {A : Option Addr} {c : Nat} {gs : GL} (h : GrIn W A c gs) : GI W A gs := ⟨h.d, by have := h.len; omega, h.tx⟩
theorem unG_zero {gs : GL} : ∀ (l : GL) (i : Nat), (unG gs i l).2 = 0 → unG gs i l = ((0, 0), 0) := by
  intro l
  induction l with
  | nil => intro i _; rfl
  | cons g l ih =>
    intro i h
    rw [unG_cons] at h ⊢
    cases q : unN gs 0 g.2 with
    | some k => rw [q] at h; exact absurd h (show (81 : Int) ≠ 0 by decide)
    | none => rw [q] at h; exact ih _ h
theorem ckG_zero {gs : GL} (h : (ckG gs).2 = 0) : ckG gs = ((0, 0), 0) := by
  unfold ckG at h ⊢
  by_cases h0 : gs.length = 0
  · rw [if_pos h0] at h; exact absurd h (by decide)
  · rw [if_neg h0] at h ⊢
    by_cases h2 : 200 < gs.length
    · rw [if_pos h2] at h; exact absurd h (by decide)
    · rw [if_neg h2] at h ⊢
      by_cases h3 : (c1G gs 0 0 gs).2 ≠ 0
      · rw [if_pos h3] at h; exact absurd h h3
      · rw [if_neg h3] at h ⊢; exact unG_zero _ _ h
theorem NuV.form {w w' : World} {gs : GL} {e : Ending} (h : NuV w w' gs e) : ∃ mv, e = .returned (.tuple #[mv, .agg #[.int .i64 (ckG gs).1.1, .int .i64 (ckG gs).1.2], .int .i64 (ckG gs).2]) ∧ ((ckG gs).2 = 0 → ∃ B, w.heap.size ≤ B ∧ mv = .map (some B) ∧ NmM w' B gs) := by
  rcases h with ⟨h1, h2⟩ | ⟨h1, B, h2, h3, h4⟩
  · exact ⟨_, h2, fun q => absurd q h1⟩
  · refine ⟨.map (some B), ?_, fun _ => ⟨B, h2, rfl, h4⟩⟩
    rw [ckG_zero h1]; exact h3
set_option maxRecDepth 100000 in
set_option maxHeartbeats 4000000 in
theorem checkP_any (gs : GL) (A : Option Addr) (c : Nat) (w : World) (hp : GI w A gs) :
    Calls Tryz.prog 25 #[.agg #[.slice A gs.length c]] w fun e w' => e = .returned (.tuple #[.agg #[.int .i64 (ckG gs).1.1, .int .i64 (ckG gs).1.2], .int .i64 (ckG gs).2]) ∧ Below w.heap.size w w' := by
  obtain ⟨w1, hw1⟩ : ∃ w1, w1 = (w.alloc (.cells #[.slice A gs.length c] 24)).alloc (.cells #[.int .i64 0, .int .i64 0] 61) := ⟨_, rfl⟩
  have HS : Hid (Below w.heap.size w w1 ∧ GX w1 w.heap.size (.slice A gs.length c) ∧ SX w1 (w.heap.size + 1) 0 0) := by
    show _ ∧ _ ∧ _
    rw [hw1]
    exact ⟨((Below.refl _ _).alloc (Nat.le_refl _) _).alloc (by rw [World.size_alloc]; omega) _, (GX.mk (heap_alloc_new w _)).below (below_box _ _), ⟨by have h := heap_alloc_new (w.alloc (.cells #[.slice A gs.length c] 24)) (.cells #[.int .i64 0, .int .i64 0] 61); rw [World.size_alloc] at h; exact h⟩⟩
  have HN := (show Hid (∀ _ : Unit, Calls Tryz.prog 46 #[.agg #[.slice A gs.length c]] w1 fun e w' => NuV w1 w' gs e ∧ Below w1.heap.size w1 w') from fun _ => numb_any gs A c hp.l hp.t w1 (hp.d.later (by rw [hw1]; exact ((Below.refl _ _).alloc (Nat.le_refl _) _).alloc (by rw [World.size_alloc]; omega) _)))
  have q1 := HS.out.2.1.cl
  clear hp
  go_enter Tryz.func25, Tryz.ntmps25
  go_wp2_with fail
  rw [← hw1]
  refine (HN.out ()).mono ?_
  rintro e w3 ⟨hv, b3⟩
  obtain ⟨mv, rfl, _⟩ := hv.form
  have HB := (show Hid (Below w.heap.size w w3) from HS.out.1.trans (b3.mono HS.out.1.size))
  have HX := (show Hid (SX w3 (w.heap.size + 1) 0 0) from HS.out.2.2.below b3)
  clear HN HS b3 q1 hw1 hv
  obtain ⟨ca, cb, cd, hcc⟩ : ∃ (ca cb : Nat) (cd : Int), ckG gs = ((ca, cb), cd) := ⟨_, _, _, rfl⟩
  have HCC := (show Hid (ckG gs = ((ca, cb), cd)) from hcc)
  rw [hcc]
  clear hcc
  have c0 := HX.out.c0
  have c1 := HX.out.c1
  have f0 := HX.out.fz 0
  have f1 := HX.out.fz 1
  have HX2 := (show Hid (SX ((w3.setCell ⟨w.heap.size + 1, 0, none⟩ (.int .i64 (ca : Int))).setCell ⟨w.heap.size + 1, 1, none⟩ (.int .i64 (cb : Int))) (w.heap.size + 1) ca cb) from HX.out.set _ _)
  have HX3 := (show Hid (SX ((((w3.setCell ⟨w.heap.size + 1, 0, none⟩ (.int .i64 (ca : Int))).setCell ⟨w.heap.size + 1, 1, none⟩ (.int .i64 (cb : Int))).setCell ⟨w.heap.size + 1, 0, none⟩ (.int .i64 (ca : Int))).setCell ⟨w.heap.size + 1, 1, none⟩ (.int .i64 (cb : Int))) (w.heap.size + 1) ca cb) from HX2.out.set _ _)
  have HB3 := (show Hid (Below w.heap.size w ((((w3.setCell ⟨w.heap.size + 1, 0, none⟩ (.int .i64 (ca : Int))).setCell ⟨w.heap.size + 1, 1, none⟩ (.int .i64 (cb : Int))).setCell ⟨w.heap.size + 1, 0, none⟩ (.int .i64 (ca : Int))).setCell ⟨w.heap.size + 1, 1, none⟩ (.int .i64 (cb : Int)))) from set_below (set_below (set_below (set_below HB.out (Nat.le_succ _)) (Nat.le_succ _)) (Nat.le_succ _)) (Nat.le_succ _))
  have HBz := (show Hid (Below w.heap.size w ((w3.setCell ⟨w.heap.size + 1, 0, none⟩ (.int .i64 (ca : Int))).setCell ⟨w.heap.size + 1, 1, none⟩ (.int .i64 (cb : Int)))) from set_below (set_below HB.out (Nat.le_succ _)) (Nat.le_succ _))
  clear HX HB
  go_wp2_with fail
  have d0 := HX3.out.c0
  have d1 := HX3.out.c1
  clear c0 c1 f0 f1 HX2 HBz
  generalize (((w3.setCell ⟨w.heap.size + 1, 0, none⟩ (.int .i64 (ca : Int))).setCell ⟨w.heap.size + 1, 1, none⟩ (.int .i64 (cb : Int))).setCell ⟨w.heap.size + 1, 0, none⟩ (.int .i64 (ca : Int))).setCell ⟨w.heap.size + 1, 1, none⟩ (.int .i64 (cb : Int)) = wZ at *
  refine bodyPost_ret (v := .tuple #[.agg #[.int .i64 (ca : Int), .int .i64 (cb : Int)], .int .i64 cd]) (by simp [results, Tryz.results25, go_sem, d0, d1]) rfl ⟨by rw [HCC.out], HB3.out⟩
/-- What Find answers. -/
def fnR (gs : GL) (s : ByteArray) : Int × Int := if (ckG gs).2 ≠ 0 then (0, (ckG gs).2) else match fdG gs s with
  | none => (0, 5)
  | some i => ((i : Int), 0)
set_option maxRecDepth 100000 in
set_option maxHeartbeats 4000000 in
theorem findP_any (gs : GL) (A : Option Addr) (c : Nat) (s : ByteArray) (hs : s.size ≤ 140737488355328) (w : World) (hp : GI w A gs) :
    Calls Tryz.prog 38 #[.agg #[.slice A gs.length c], .string s] w fun e w' => e = .returned (.tuple #[.int .i64 (fnR gs s).1, .int .i64 (fnR gs s).2]) ∧ Below w.heap.size w w' := by
  obtain ⟨w1, hw1⟩ : ∃ w1, w1 = (w.alloc (.cells #[.slice A gs.length c] 24)) := ⟨_, rfl⟩
  have HB1 : Hid (Below w.heap.size w w1) := by show Below _ _ _; rw [hw1]; exact below_box _ _
  have HN := (show Hid (∀ _ : Unit, Calls Tryz.prog 46 #[.agg #[.slice A gs.length c]] w1 fun e w' => NuV w1 w' gs e ∧ Below w1.heap.size w1 w') from fun _ => numb_any gs A c hp.l hp.t w1 (hp.d.later HB1.out))
  clear hp
  go_enter Tryz.func38, Tryz.ntmps38
  go_wp2_with fail
  rw [← hw1]
  refine (HN.out ()).mono ?_
  rintro e w3 ⟨hv, b3⟩
  obtain ⟨mv, rfl, hm⟩ := hv.form
  obtain ⟨w4, hw4⟩ : ∃ w4, w4 = w3.alloc (.cells #[.int .i64 ((ckG gs).1.1 : Int), .int .i64 ((ckG gs).1.2 : Int)] 61) := ⟨_, rfl⟩
  have HB := (show Hid (Below w.heap.size w w4) from by show Below _ _ _; rw [hw4]; exact (HB1.out.trans (b3.mono HB1.out.size)).alloc (HB1.out.trans (b3.mono HB1.out.size)).size _)
  clear HN b3 hw1 hv HB1
  by_cases hz : (ckG gs).2 = 0
  · obtain ⟨B, _, rfl, hM⟩ := hm hz
    have tz : ((ckG gs).2 != 0) = false := by rw [hz]; rfl
    have hM4 : NmM w4 B gs := by rw [hw4]; exact hM.later (below_box _ _)
    obtain ⟨cc, hrun, hc⟩ := hM4.look s hs
    cases hf : fdG gs s with
    | none =>
      have HE := (show Hid (fnR gs s = (0, 5)) from by show fnR gs s = _; unfold fnR; rw [if_neg (fun q => q hz), hf])
      rw [hf] at hrun
      clear hM hM4 hc hm hz
      subst hw4
      generalize (ckG gs).2 = cd at *
      go_wp2_with fail
      refine bodyPost_ret (v := .tuple #[.int .i64 0, .int .i64 5]) (by simp [results, Tryz.results38, go_sem]) rfl ⟨by rw [HE.out], HB.out⟩
    | some i =>
      have HE := (show Hid (fnR gs s = ((i : Int), 0)) from by show fnR gs s = _; unfold fnR; rw [if_neg (fun q => q hz), hf])
      rw [hf] at hrun
      obtain rfl := hc i hf
      clear hM hM4 hc hm hz
      subst hw4
      generalize (ckG gs).2 = cd at *
      go_wp2_with fail
      refine bodyPost_ret (v := .tuple #[.int .i64 (i : Int), .int .i64 0]) (by simp [results, Tryz.results38, go_sem]) rfl ⟨by rw [HE.out], HB.out⟩
  · have tz : ((ckG gs).2 != 0) = true := by rw [bne, beq_eq_false_iff_ne.2 hz]; rfl
    have HE := (show Hid (fnR gs s = (0, (ckG gs).2)) from by show fnR gs s = _; unfold fnR; rw [if_pos hz])
    clear hm hz
    subst hw4
    generalize (ckG gs).2 = cd at *
    go_wp2_with fail
    refine bodyPost_ret (v := .tuple #[.int .i64 0, .int .i64 cd]) (by simp [results, Tryz.results38, go_sem]) rfl ⟨by rw [HE.out], HB.out⟩
/-- What is refused ahead of a rule's number. -/
def lkR (gs : GL) (r : Int) : Int := if (ckG gs).2 ≠ 0 then (ckG gs).2 else if r < 0 ∨ (gs.length : Int) ≤ r then 1 else 0
set_option maxRecDepth 100000 in
set_option maxHeartbeats 4000000 in
theorem numbW_any (gs : GL) (A : Option Addr) (c : Nat) (r : Int) (w : World) (hp : GI w A gs) :
    Calls Tryz.prog 21 #[.agg #[.slice A gs.length c], .int .i64 r] w fun e w' => (∃ mv, e = .returned (.tuple #[mv, .int .i64 (lkR gs r)]) ∧ (lkR gs r = 0 → ∃ B, w.heap.size ≤ B ∧ mv = .map (some B) ∧ NmM w' B gs)) ∧ Below w.heap.size w w' := by
  obtain ⟨w1, hw1⟩ : ∃ w1, w1 = (w.alloc (.cells #[.slice A gs.length c] 24)) := ⟨_, rfl⟩
  have HB1 : Hid (Below w.heap.size w w1) := by show Below _ _ _; rw [hw1]; exact below_box _ _
  have HG1 : Hid (GX w1 w.heap.size (.slice A gs.length c)) := by show GX _ _ _; rw [hw1]; exact GX.mk (heap_alloc_new w _)
  have HN := (show Hid (∀ _ : Unit, Calls Tryz.prog 46 #[.agg #[.slice A gs.length c]] w1 fun e w' => NuV w1 w' gs e ∧ Below w1.heap.size w1 w') from fun _ => numb_any gs A c hp.l hp.t w1 (hp.d.later HB1.out))
  clear hp
  go_enter Tryz.func21, Tryz.ntmps21
  go_wp2_with fail
  rw [← hw1]
  refine (HN.out ()).mono ?_
  rintro e w3 ⟨hv, b3⟩
  obtain ⟨mv, rfl, hm⟩ := hv.form
  obtain ⟨w4, hw4⟩ : ∃ w4, w4 = w3.alloc (.cells #[.int .i64 ((ckG gs).1.1 : Int), .int .i64 ((ckG gs).1.2 : Int)] 61) := ⟨_, rfl⟩
  have HB := (show Hid (Below w.heap.size w w4) from by show Below _ _ _; rw [hw4]; exact (HB1.out.trans (b3.mono HB1.out.size)).alloc (HB1.out.trans (b3.mono HB1.out.size)).size _)
  have HG := (show Hid (GX w4 w.heap.size (.slice A gs.length c)) from by show GX _ _ _; rw [hw4]; exact (HG1.out.below b3).below (below_box _ _))
  have HB1s := (show Hid (w.heap.size ≤ w1.heap.size) from HB1.out.size)
  have q1 := HG.out.cl
  clear HN b3 hw1 hv HB1 HG HG1
  by_cases hz : (ckG gs).2 = 0
  · obtain ⟨B, hB, rfl, hM⟩ := hm hz
    have tz : ((ckG gs).2 != 0) = false := by rw [hz]; rfl
    have HM4 := (show Hid (NmM w4 B gs) from by show NmM _ _ _; rw [hw4]; exact hM.later (below_box _ _))
    have HBb := (show Hid (w.heap.size ≤ B) from Nat.le_trans HB1s.out hB)
    have HE0 := (show Hid (lkR gs r = if r < 0 ∨ (gs.length : Int) ≤ r then 1 else 0) from by show lkR gs r = _; unfold lkR; rw [if_neg (fun q => q hz)])
    clear hM hm hz hB
    subst hw4
    generalize (ckG gs).2 = cd at *
    by_cases h1 : r < 0
    · have HE := (show Hid (lkR gs r = 1) from by show lkR gs r = _; rw [HE0.out, if_pos (.inl h1)])
      clear HE0
      go_wp2_with fail
      refine bodyPost_ret (v := .tuple #[.map none, .int .i64 1]) (by simp [results, Tryz.results21, go_sem]) rfl ⟨⟨_, by rw [HE.out], fun q => by rw [HE.out] at q; cases q⟩, HB.out⟩
    · by_cases h2 : (gs.length : Int) ≤ r
      · have HE := (show Hid (lkR gs r = 1) from by show lkR gs r = _; rw [HE0.out, if_pos (.inr h2)])
        clear HE0
        go_wp2_with fail
        refine bodyPost_ret (v := .tuple #[.map none, .int .i64 1]) (by simp [results, Tryz.results21, go_sem]) rfl ⟨⟨_, by rw [HE.out], fun q => by rw [HE.out] at q; cases q⟩, HB.out⟩
      · have HE := (show Hid (lkR gs r = 0) from by show lkR gs r = _; rw [HE0.out, if_neg (by rintro (q | q); exact h1 q; exact h2 q)])
        clear HE0
        go_wp2_with fail
        refine bodyPost_ret (v := .tuple #[.map (some B), .int .i64 0]) (by simp [results, Tryz.results21, go_sem]) rfl ⟨⟨_, by rw [HE.out], fun _ => ⟨B, HBb.out, rfl, HM4.out⟩⟩, HB.out⟩
  · have tz : ((ckG gs).2 != 0) = true := by rw [bne, beq_eq_false_iff_ne.2 hz]; rfl
    have HE := (show Hid (lkR gs r = (ckG gs).2) from by show lkR gs r = _; unfold lkR; rw [if_pos hz])
    have HZ := (show Hid ((ckG gs).2 ≠ 0) from hz)
    clear hm hz
    subst hw4
    generalize (ckG gs).2 = cd at *
    go_wp2_with fail
    refine bodyPost_ret (v := .tuple #[.map none, .int .i64 cd]) (by simp [results, Tryz.results21, go_sem]) rfl ⟨⟨_, by rw [HE.out], fun q => by rw [HE.out] at q; exact absurd q HZ.out⟩, HB.out⟩
end Go.Proofs.YtppggnmlbcdegabGreat.N

namespace Go.Proofs.YtppggnmlbcdegabGreat.N
open Go.RowKit Go.Maps
open Go.Proofs.YtppggnmlbcdegabGreat.T
def fdN (gs : GL) (s : ByteArray) : Int := match fdG gs s with
  | some i => (i : Int)
  | none => -1
theorem fdN_some {gs : GL} {s : ByteArray} {i : Nat} (h : fdG gs s = some i) : fdN gs s = (i : Int) := by unfold fdN; rw [h]
theorem fdN_none {gs : GL} {s : ByteArray} (h : fdG gs s = none) : fdN gs s = -1 := by unfold fdN; rw [h]
set_option maxRecDepth 100000 in
set_option maxHeartbeats 4000000 in
theorem find_any (gs : GL) (A : Option Addr) (c : Nat) (s : ByteArray) (w : World) (hp : GI w A gs) :
    Calls Tryz.prog 19 #[.agg #[.slice A gs.length c], .string s] w fun e w' => e = .returned (.int .i64 (fdN gs s)) ∧ Below w.heap.size w w' := by
  have HP := (show Hid (GrD w A gs) from hp.d)
  have hl := hp.l
  have HB1 := (show Hid (Below w.heap.size w (w.alloc (.cells #[.slice A gs.length c] 24))) from below_box _ _)
  have HG1 := (show Hid (GX (w.alloc (.cells #[.slice A gs.length c] 24)) w.heap.size (.slice A gs.length c)) from GX.mk (heap_alloc_new w _))
  clear hp
  go_enter Tryz.func19, Tryz.ntmps19
  go_wp2_with fail
  generalize w.alloc (.cells #[.slice A gs.length c] 24) = w1 at *
  have q1 := HG1.out.cl
  clear HG1
  go_loopw [5] (fun t wr => ∃ k : Nat, k ≤ gs.length ∧ t = .int .i64 k ∧ wr = w1 ∧ Hid (∀ j g, j < k → gs[j]? = some g → g.1 ≠ s)) (fun t _ => gs.length - (intOf t).toNat)
  case atStart => exact ⟨0, by omega, by go_num, rfl, fun j g h => by omega⟩
  case round =>
    obtain ⟨k, hk, rfl, rfl, HX⟩ := hrel
    by_cases hlt : k < gs.length
    · obtain ⟨g, hg⟩ : ∃ g, gs[k]? = some g := ⟨_, List.getElem?_eq_getElem hlt⟩
      obtain ⟨b, o, A2, c2, rfl, lb, x0, x1, r2⟩ := HP.out k g hg
      have x0' := (HB1.out.cell (p := ⟨b, o + k * 2, none⟩) lb).trans x0
      have z0 : (0 : Int) ≤ (k : Int) := by omega
      have z1 : (k : Int) < (gs.length : Int) := by omega
      clear x0 x1 r2 HP
      by_cases e : g.1 = s
      · have te : (g.1.toList == s.toList) = true := by rw [e]; simp
        have HE := (show Hid (fdN gs s = (k : Int)) from fdN_some (fdG_of hg e (fun j h hj hj2 => HX.out j h hj hj2)))
        clear HX hg e
        go_wp2_with fail
        go_ret
        exact ⟨by rw [HE.out]; rfl, HB1.out⟩
      · have te : (g.1.toList == s.toList) = false := by
          cases q : g.1.toList == s.toList
          · rfl
          · exact absurd (tx_ext (by simpa using q)) e
        have HX2 := (show Hid (∀ j g, j < k + 1 → gs[j]? = some g → g.1 ≠ s) from fun j h hj hj2 => by
          by_cases q : j = k
          · subst q; rw [hg] at hj2; cases hj2; exact e
          · exact HX.out j h (by omega) hj2)
        clear HX hg e
        go_wp2_with fail
        go_roundw
        case rel => exact ⟨k + 1, by omega, by go_num, by first | rfl | trivial, HX2⟩
        case measure => simp [intOf]; omega
    · obtain rfl : k = gs.length := by omega
      have HE := (show Hid (fdN gs s = -1) from fdN_none (fdG_none.2 fun g hg => by
        obtain ⟨j, hj, rfl⟩ := List.mem_iff_getElem.1 hg
        exact HX.out j _ hj (List.getElem?_eq_getElem hj)))
      clear HX HP
      go_wp2_with fail
      go_ret
      exact ⟨by rw [HE.out]; rfl, HB1.out⟩
end Go.Proofs.YtppggnmlbcdegabGreat.N
