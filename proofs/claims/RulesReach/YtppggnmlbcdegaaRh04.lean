/- DERIVED. Plain mathematics and walks, laid together (4). -/
import Derived.Maps.OwnOps
import Derived.Lib.ConvBytes
import Derived.Lib.AtoiErrMem
import Derived.Lib.UnsafeStr
import Derived.Lib.AppendStr
import Derived.Deep.RegionLaw
import Derived.Deep.AppendLies
import Derived.Test.YtppggnmlbcdegaaRh03
namespace Go.Proofs.Ytppggnmlbcdegaa.N
open Go.RowKit Go.Maps
open Go.Proofs.Ytppggnmlbcdegaa.T
/-- A rule in a box of its own. -/
structure RB (W : World) (b : Nat) (s : ByteArray) (v : Value) : Prop where
  heap : W.heap[b]? = some (.cells #[.string s, v] 57 (0, 0))
theorem RB.lt {W : World} {b : Nat} {s : ByteArray} {v : Value} (h : RB W b s v) : b < W.heap.size := (Array.getElem?_eq_some_iff.1 h.heap).1
theorem RB.c0 {W : World} {b : Nat} {s : ByteArray} {v : Value} (h : RB W b s v) : W.cell? ⟨b, 0, none⟩ = some (.string s) := by rw [cell_of_row W b 0 _ 57 (0, 0) h.heap]; rfl
theorem RB.c1 {W : World} {b : Nat} {s : ByteArray} {v : Value} (h : RB W b s v) : W.cell? ⟨b, 1, none⟩ = some v := by rw [cell_of_row W b 1 _ 57 (0, 0) h.heap]; rfl
theorem RB.same {W W' : World} {b : Nat} {s : ByteArray} {v : Value} (h : RB W b s v) (hb : W'.heap[b]? = W.heap[b]?) : RB W' b s v := ⟨hb.trans h.heap⟩
theorem RB.later {W W' : World} {b : Nat} {s : ByteArray} {v : Value} (h : RB W b s v) (hb : Below W.heap.size W W') : RB W' b s v := h.same (hb.block b h.lt)
theorem NuS.put {w wX w1 : World} {u : Value} {gs : GL} {g : ByteArray × List Nd} {k : Nat} {D : DataW Unit} {B : Nat} (hB : B = w.heap.size + 2) (h : UnS w wX u B gs) (hg : wX.grownBy w1 (some B)) (ho : w1.ownsMap Try.prog 9 (plainElem Try.prog 3) B (k + 1) (D.put (.string g.1.data.toList) (.lit (.int .i64 k)))) (hD : NmD D gs) (hf : fdG gs g.1 = none) (hk : gs.length = k) : UnS w w1 u B (gs ++ [g]) := by
  obtain ⟨D0, h1, _⟩ := h.m.ex
  have hm : Maps.IsMap D := by
    obtain ⟨es, clock, _, _, _, e⟩ := ho
    cases D with
    | map es => exact ⟨es, rfl⟩
    | _ => cases e
  refine ⟨h.b.grown hg h.b.size (fun j hj => by cases hj; omega), h.x.same (hg.block _ h.x.lt (fun e => by injection e with e; omega)), h.s.same (hg.block _ h.s.lt (fun e => by injection e with e; omega)), ⟨⟨D.put (.string g.1.data.toList) (.lit (.int .i64 k)), ?_, ?_⟩⟩⟩
  · rw [List.length_append, List.length_singleton, hk]; exact ho
  · have := NmD.put hm hD g hf
    rw [hk] at this
    exact this
/-- What numbered answers. -/
def NuV (w w' : World) (gs : GL) (e : Ending) : Prop := ((ckG gs).2 ≠ 0 ∧ e = .returned (.tuple #[.map none, .agg #[.int .i64 (ckG gs).1.1, .int .i64 (ckG gs).1.2], .int .i64 (ckG gs).2])) ∨ ((ckG gs).2 = 0 ∧ ∃ B, w.heap.size ≤ B ∧ e = .returned (.tuple #[.map (some B), .agg #[.int .i64 0, .int .i64 0], .int .i64 0]) ∧ NmM w' B gs)
theorem ckG_err {gs : GL} (h0 : ¬ gs.length = 0) (h2 : ¬ 200 < gs.length) : ∀ r, c1G gs 0 0 gs = r → r.2 ≠ 0 → ckG gs = r := fun r h hr => by
  unfold ckG
  rw [if_neg h0, if_neg h2, if_pos (by rw [h]; exact hr), h]
theorem ckG_un {gs : GL} (h0 : ¬ gs.length = 0) (h2 : ¬ 200 < gs.length) (h : c1G gs 0 0 gs = ((0, 0), 0)) : ckG gs = unG gs 0 gs := by
  unfold ckG
  rw [if_neg h0, if_neg h2, if_neg (by rw [h]; simp)]
set_option maxRecDepth 100000 in
set_option maxHeartbeats 32000000 in
theorem numb_any (gs : GL) (A : Option Addr) (c : Nat) (hl : gs.length ≤ 140737488355328) (hT : ∀ g ∈ gs, g.1.size ≤ 140737488355328 ∧ g.2.length ≤ 140737488355328 ∧ ∀ n ∈ g.2, n.tx.size ≤ 140737488355328) (w : World) (hp : GrD w A gs) :
    Calls Try.prog 34 #[.agg #[.slice A gs.length c]] w fun e w' => NuV w w' gs e ∧ Below w.heap.size w w' := by
  obtain ⟨w1, hw1⟩ : ∃ w1, w1 = (w.alloc (.cells #[.slice A gs.length c] 24)).alloc (.cells #[.int .i64 0, .int .i64 0] 27) := ⟨_, rfl⟩
  have HS : Hid (Below w.heap.size w w1 ∧ GX w1 w.heap.size (.slice A gs.length c) ∧ SX w1 (w.heap.size + 1) 0 0 ∧ w1.heap.size = w.heap.size + 2) := by
    show _ ∧ _ ∧ _ ∧ _
    rw [hw1]
    exact ⟨((Below.refl _ _).alloc (Nat.le_refl _) _).alloc (by rw [World.size_alloc]; omega) _, (GX.mk (heap_alloc_new w _)).below (below_box _ _), ⟨by have h := heap_alloc_new (w.alloc (.cells #[.slice A gs.length c] 24)) (.cells #[.int .i64 0, .int .i64 0] 27); rw [World.size_alloc] at h; exact h⟩, by simp⟩
  have q1 := HS.out.2.1.cl
  obtain ⟨mb, hmb⟩ : ∃ mb, mb = w.heap.size + 1 + 1 := ⟨_, rfl⟩
  have HMb := (show Hid (mb = w.heap.size + 2) from hmb)
  by_cases h0 : gs.length = 0
  · have HF := (show Hid (ckG gs = ((0, 0), 3)) from by show ckG gs = _; unfold ckG; rw [if_pos h0])
    have t0 : ((gs.length : Int) == 0) = true := beq_iff_eq.2 (by omega)
    have HBz := (show Hid (Below w.heap.size w w1) from HS.out.1)
    have c0 := HS.out.2.2.1.c0
    have c1 := HS.out.2.2.1.c1
    have f0 := HS.out.2.2.1.fz 0
    have f1 := HS.out.2.2.1.fz 1
    clear h0 hp hT HS
    go_enter Try.func34, Try.ntmps34
    go_wp2_with fail
    rw [← hw1]
    go_wp2_with fail
    refine bodyPost_ret (v := .tuple #[.map none, .agg #[.int .i64 0, .int .i64 0], .int .i64 3]) (by simp [results, Try.results34, go_sem, c0, c1]) rfl ⟨.inl ⟨by rw [HF.out]; decide, by rw [HF.out]; rfl⟩, HBz.out⟩
  have t0 : ((gs.length : Int) == 0) = false := beq_eq_false_iff_ne.2 (by omega)
  by_cases h2 : 200 < gs.length
  · have HF := (show Hid (ckG gs = ((0, 0), 2)) from by show ckG gs = _; unfold ckG; rw [if_neg h0, if_pos h2])
    have t2 : (200 : Int) < (gs.length : Int) := by omega
    have HBz := (show Hid (Below w.heap.size w w1) from HS.out.1)
    have c0 := HS.out.2.2.1.c0
    have c1 := HS.out.2.2.1.c1
    have f0 := HS.out.2.2.1.fz 0
    have f1 := HS.out.2.2.1.fz 1
    clear h0 hp hT h2 HS
    go_enter Try.func34, Try.ntmps34
    go_wp2_with fail
    rw [← hw1]
    go_wp2_with fail
    refine bodyPost_ret (v := .tuple #[.map none, .agg #[.int .i64 0, .int .i64 0], .int .i64 2]) (by simp [results, Try.results34, go_sem, c0, c1]) rfl ⟨.inl ⟨by rw [HF.out]; decide, by rw [HF.out]; rfl⟩, HBz.out⟩
  have t2 : ¬ (200 : Int) < (gs.length : Int) := by omega
  have hl200 : gs.length ≤ 200 := by omega
  have HE := (show Hid (∀ r, c1G gs 0 0 gs = r → r.2 ≠ 0 → ckG gs = r) from ckG_err h0 h2)
  have HEu := (show Hid (c1G gs 0 0 gs = ((0, 0), 0) → ckG gs = unG gs 0 gs) from ckG_un h0 h2)
  have HP := (show Hid (GrD w A gs) from hp)
  have HTT := (show Hid (∀ g ∈ gs, g.1.size ≤ 140737488355328 ∧ g.2.length ≤ 140737488355328 ∧ ∀ n ∈ g.2, n.tx.size ≤ 140737488355328) from hT)
  have HG := (show Hid (∀ k, k < gs.length → ∃ g, gs[k]? = some g ∧ g.1.size ≤ 140737488355328 ∧ g.2.length ≤ 140737488355328 ∧ (∀ n ∈ g.2, n.tx.size ≤ 140737488355328) ∧ gs.drop k = g :: gs.drop (k + 1)) from fun k hk => ⟨_, List.getElem?_eq_getElem hk, (hT _ (List.getElem_mem hk)).1, (hT _ (List.getElem_mem hk)).2.1, (hT _ (List.getElem_mem hk)).2.2, List.drop_eq_getElem_cons hk⟩)
  have HM := (show Hid (UnS w (w1.alloc (.map #[] 0)) (.slice A gs.length c) mb (gs.take 0)) from ⟨HS.out.1.alloc HS.out.1.size _, HS.out.2.1.below (below_box _ _), HS.out.2.2.1.below (below_box _ _), by have h := NmM.nil w1; rw [HS.out.2.2.2, ← HMb.out] at h; exact h⟩)
  have hsz := HS.out.2.2.2
  have hmm := @run_makeMap Try.prog
  clear h0 hp hT h2 HS
  go_enter Try.func34, Try.ntmps34
  go_wp2_with fail
  rw [← hw1]
  go_wp2_with fail
  rw [← hmb]
  clear hmm q1 hw1 hmb hsz
  generalize w1.alloc (.map #[] 0) = w2 at *
  go_loopw [6, 30] (fun v t wr => ∃ k m : Nat, k ≤ gs.length ∧ t = .int .i64 k ∧ v = .int .i64 m ∧ m ≤ 2048 ∧ Hid (c1G gs 0 0 gs = c1G gs k m (gs.drop k)) ∧ Hid (UnS w wr (.slice A gs.length c) mb (gs.take k))) (fun _ t _ => gs.length - (intOf t).toNat)
  case atStart => exact ⟨0, 0, by omega, by go_num, by go_num, by omega, rfl, HM⟩
  case round =>
    obtain ⟨k, m, hk, rfl, rfl, hm, HX0, HW⟩ := hrel
    clear HM
    by_cases hlt : k < gs.length
    · obtain ⟨g, hg, s1, s2, s3, hd⟩ := HG.out k hlt
      obtain ⟨b, o, A2, c2, rfl, lb, x0, x1, r2⟩ := HP.out k g hg
      have x0' := (HW.out.b.cell (p := ⟨b, o + k * 2, none⟩) lb).trans x0
      have x1' := (HW.out.b.cell (p := ⟨b, o + k * 2 + 1, none⟩) lb).trans x1
      clear x0 x1
      have z0 : (0 : Int) ≤ (k : Int) := by omega
      have z1 : (k : Int) < (gs.length : Int) := by omega
      have HRn := (show Hid (wr.heap.size ≠ mb) from by have := HW.out.m.lt; show wr.heap.size ≠ mb; omega)
      have HR0 := (show Hid (RB (wr.alloc (.cells #[.string g.1, .slice A2 g.2.length c2] 57)) wr.heap.size g.1 (.slice A2 g.2.length c2)) from ⟨heap_alloc_new wr _⟩)
      have HS0 := (show Hid (UnS w (wr.alloc (.cells #[.string g.1, .slice A2 g.2.length c2] 57)) (.slice (some ⟨b, o, none⟩) gs.length c) mb (gs.take k)) from HW.out.later (below_box _ _))
      have HNm : Hid (∀ W, Calls Try.prog 13 #[.string g.1] W fun e W' => e = .returned (.bool (nmB g.1)) ∧ Below W.heap.size W W') := fun W => nameP_any g.1 s1 W
      have HCk : Hid (∀ W, Below w.heap.size w W → Calls Try.prog 37 #[.slice A2 g.2.length c2] W fun e w' => e = .returned (.tuple #[.int .i64 (ck g.2).1, .int .i64 (ck g.2).2]) ∧ Below W.heap.size W w') := fun W hW => check_any g.2 A2 c2 s2 s3 W (r2.below hW (Nat.le_refl _))
      have hgk := hg
      have HX1 := (show Hid (c1G gs 0 0 gs = if ¬ (nmB g.1 = true ∨ (g.1.size = 0 ∧ gs.length = 1)) then ((k, 0), 6) else if tw gs g.1 k = true then ((k, 0), 80) else if (ck g.2).2 ≠ 0 then ((k, (ck g.2).1), (ck g.2).2) else if 2048 < m + g.2.length then ((k, 0), 2) else c1G gs (k + 1) (m + g.2.length) (gs.drop (k + 1))) from by show c1G gs 0 0 gs = _; rw [HX0.out, hd, c1G])
      have HSz := (show Hid (g.2.length ≤ 140737488355328) from s2)
      clear hg r2 s2 s3 HW HX0 hd
      have q3 := HS0.out.x.cl
      by_cases hs0 : g.1.size = 0
      · have te : (g.1.toList == []) = true := by
          have e := emp_t hs0
          rw [List.isEmpty_iff] at e
          rw [e]; rfl
        have te2 := emp_t hs0
        by_cases hl1 : gs.length = 1
        · have tl : ((gs.length : Int) == 1) = true := beq_iff_eq.2 (by omega)
          have HX := (show Hid (c1G gs 0 0 gs = if tw gs g.1 k = true then ((k, 0), 80) else if (ck g.2).2 ≠ 0 then ((k, (ck g.2).1), (ck g.2).2) else if 2048 < m + g.2.length then ((k, 0), 2) else c1G gs (k + 1) (m + g.2.length) (gs.drop (k + 1))) from by show c1G gs 0 0 gs = _; rw [HX1.out, if_neg (fun q => q (.inr ⟨hs0, hl1⟩))])
          clear HX1 hl1 hs0 HNm HEu HTT
          have HS := HS0
          have HR := HR0
          clear HS0 HR0
          obtain ⟨cc, hrun, _⟩ := HS.out.m.look g.1 s1
          by_cases htw : tw gs g.1 k = true
          · have HF := (show Hid (ckG gs = ((k, 0), 80)) from HE.out _ (by rw [HX.out, if_pos htw]) (by show (80 : Int) ≠ 0; decide))
            rw [← tw_take gs g.1 k (by omega), htw] at hrun
            have y0 := HR.out.c0
            clear HX HE HCk HR HG HP htw HSz
            have HZ := (show Hid (SX (((wr.alloc (.cells #[.string g.1, .slice A2 g.2.length c2] 57)).setCell ⟨w.heap.size + 1, 0, none⟩ (.int .i64 (k : Int))).setCell ⟨w.heap.size + 1, 1, none⟩ (.int .i64 0)) (w.heap.size + 1) (k : Int) 0) from HS.out.s.set _ _)
            have HBz := (show Hid (Below w.heap.size w (((wr.alloc (.cells #[.string g.1, .slice A2 g.2.length c2] 57)).setCell ⟨w.heap.size + 1, 0, none⟩ (.int .i64 (k : Int))).setCell ⟨w.heap.size + 1, 1, none⟩ (.int .i64 0))) from set_below (set_below HS.out.b (Nat.le_succ _)) (Nat.le_succ _))
            have c0 := HS.out.s.c0
            have c1 := HS.out.s.c1
            have f0 := HS.out.s.fz 0
            have f1 := HS.out.s.fz 1
            clear HS
            go_wp2_with fail
            have d0 := HZ.out.c0
            have d1 := HZ.out.c1
            clear c0 c1 f0 f1
            generalize ((wr.alloc (.cells #[.string g.1, .slice A2 g.2.length c2] 57)).setCell ⟨w.heap.size + 1, 0, none⟩ (.int .i64 (k : Int))).setCell ⟨w.heap.size + 1, 1, none⟩ (.int .i64 0) = wZ at *
            refine bodyPost_ret (v := .tuple #[.map none, .agg #[.int .i64 (k : Int), .int .i64 0], .int .i64 80]) (by simp [results, Try.results34, go_sem, d0, d1]) rfl ⟨.inl ⟨by rw [HF.out]; show (80 : Int) ≠ 0; decide, by rw [HF.out]; try rfl⟩, HBz.out⟩
          · have htw2 : tw gs g.1 k = false := by cases q : tw gs g.1 k; rfl; exact absurd q htw
            rw [← tw_take gs g.1 k (by omega), htw2] at hrun
            have HX2 := (show Hid (c1G gs 0 0 gs = if (ck g.2).2 ≠ 0 then ((k, (ck g.2).1), (ck g.2).2) else if 2048 < m + g.2.length then ((k, 0), 2) else c1G gs (k + 1) (m + g.2.length) (gs.drop (k + 1))) from by show c1G gs 0 0 gs = _; rw [HX.out, if_neg htw])
            have hfd : fdG (gs.take k) g.1 = none := by
              have := tw_take gs g.1 k (by omega)
              rw [htw2] at this
              cases q : fdG (gs.take k) g.1 with
              | none => rfl
              | some i => rw [q] at this; cases this
            obtain ⟨D, hown, hD⟩ := HS.out.m.ex
            have HD := (show Hid (NmD D (gs.take k)) from hD)
            have hlk : (gs.take k).length = k := by rw [List.length_take]; omega
            rw [hlk] at hown
            have HFd := (show Hid (fdG (gs.take k) g.1 = none) from hfd)
            have HLk := (show Hid ((gs.take k).length = k) from hlk)
            have HGk := (show Hid (gs.take (k + 1) = gs.take k ++ [g]) from by rw [List.take_add_one, hgk]; rfl)
            have HPut := (show Hid (∀ w1, ((wr.alloc (.cells #[.string g.1, .slice A2 g.2.length c2] 57))).grownBy w1 (some mb) → w1.ownsMap Try.prog 9 (plainElem Try.prog 3) mb (k + 1) (D.put (.string g.1.data.toList) (.lit (.int .i64 k))) → UnS w w1 (.slice (some ⟨b, o, none⟩) gs.length c) mb (gs.take (k + 1))) from fun w1 hgrow1 hown1 => by
              show UnS w w1 _ _ _
              rw [HGk.out]
              exact NuS.put HMb.out HS.out hgrow1 hown1 HD.out HFd.out HLk.out)
            have y0 := HR.out.c0
            have y1 := HR.out.c1
            have hkey := key_of s1
            clear HX htw htw2 hD hfd hlk hgk HD HFd HLk HGk
            go_wp2_with (
              at_mapUpdate
              refine wpList_mapUpdate_own _ rfl _ _ _ 59 rfl 9 3 keyed Try.underlying59 _ mb k D rfl hown (by unfold maxLen; omega) _ _ (.string g.1.data.toList) rfl rfl hkey _ [] (plainElem_int Try.underlying3 (WalkArith.wf_i64 (by omega))) ?_
              intro w1 hown1 hgrow1
              have HS1 := (show Hid (UnS w w1 (.slice (some ⟨b, o, none⟩) gs.length c) mb (gs.take (k + 1))) from HPut.out w1 hgrow1 hown1)
              have HR1 := (show Hid (RB w1 wr.heap.size g.1 (.slice A2 g.2.length c2)) from HR.out.same (hgrow1.block wr.heap.size HR.out.lt (fun e => by injection e with e; exact HRn.out e)))
              have z1' := HR1.out.c1
              clear hown hown1 hgrow1 y0 y1 hrun HS HR HPut)
            refine (HCk.out _ HS1.out.b).mono ?_
            rintro e w4 ⟨rfl, b4⟩
            have HS := (show Hid (UnS w w4 (.slice (some ⟨b, o, none⟩) gs.length c) mb (gs.take (k + 1))) from HS1.out.later b4)
            have y1 := (HR1.out.later b4).c1
            clear HCk b4 HS1 HR1 z1'
            by_cases hc : (ck g.2).2 = 0
            · have tc : ((ck g.2).2 != 0) = false := by rw [hc]; rfl
              have hg3 : g.2.length ≤ 2048 := by
                by_cases q : g.2.length ≤ 2048
                · exact q
                · have := ck_long (L := g.2) (by omega)
                  rw [this] at hc
                  exact absurd hc (by decide)
              have HV := (show Hid (c1G gs 0 0 gs = if 2048 < m + g.2.length then ((k, 0), 2) else c1G gs (k + 1) (m + g.2.length) (gs.drop (k + 1))) from by show c1G gs 0 0 gs = _; rw [HX2.out, if_neg (by rw [hc]; simp)])
              generalize hcc : (ck g.2).2 = cc2 at *
              clear hcc HX2
              by_cases hn : 2048 < m + g.2.length
              · have HF := (show Hid (ckG gs = ((k, 0), 2)) from HE.out _ (by rw [HV.out, if_pos hn]) (by show (2 : Int) ≠ 0; decide))
                have tn : (2048 : Int) < (m : Int) + (g.2.length : Int) := by omega
                clear HV HE HG HP hn
                have HZ := (show Hid (SX ((w4.setCell ⟨w.heap.size + 1, 0, none⟩ (.int .i64 (k : Int))).setCell ⟨w.heap.size + 1, 1, none⟩ (.int .i64 0)) (w.heap.size + 1) (k : Int) 0) from HS.out.s.set _ _)
                have HBz := (show Hid (Below w.heap.size w ((w4.setCell ⟨w.heap.size + 1, 0, none⟩ (.int .i64 (k : Int))).setCell ⟨w.heap.size + 1, 1, none⟩ (.int .i64 0))) from set_below (set_below HS.out.b (Nat.le_succ _)) (Nat.le_succ _))
                have c0 := HS.out.s.c0
                have c1 := HS.out.s.c1
                have f0 := HS.out.s.fz 0
                have f1 := HS.out.s.fz 1
                clear HS
                go_wp2_with fail
                have d0 := HZ.out.c0
                have d1 := HZ.out.c1
                clear c0 c1 f0 f1
                generalize (w4.setCell ⟨w.heap.size + 1, 0, none⟩ (.int .i64 (k : Int))).setCell ⟨w.heap.size + 1, 1, none⟩ (.int .i64 0) = wZ at *
                refine bodyPost_ret (v := .tuple #[.map none, .agg #[.int .i64 (k : Int), .int .i64 0], .int .i64 2]) (by simp [results, Try.results34, go_sem, d0, d1]) rfl ⟨.inl ⟨by rw [HF.out]; show (2 : Int) ≠ 0; decide, by rw [HF.out]; try rfl⟩, HBz.out⟩
              · have HX3 := (show Hid (c1G gs 0 0 gs = c1G gs (k + 1) (m + g.2.length) (gs.drop (k + 1))) from by show c1G gs 0 0 gs = _; rw [HV.out, if_neg hn])
                have tn : ¬ (2048 : Int) < (m : Int) + (g.2.length : Int) := by omega
                clear HV
                go_wp2_with fail
                go_roundw
                case rel => exact ⟨k + 1, m + g.2.length, by omega, by go_num, by go_num, by omega, HX3, HS⟩
                case measure => simp [intOf]; omega
            · have tc : ((ck g.2).2 != 0) = true := by rw [bne, beq_eq_false_iff_ne.2 hc]; rfl
              have HF := (show Hid (ckG gs = ((k, (ck g.2).1), (ck g.2).2)) from HE.out _ (by rw [HX2.out, if_pos hc]) hc)
              have HC := (show Hid ((ck g.2).2 ≠ 0) from hc)
              clear HX2 HE HG HP hc
              generalize hcc : (ck g.2).2 = cc2 at *
              generalize hcd : (ck g.2).1 = cc1 at *
              clear hcc hcd
              have HZ := (show Hid (SX ((w4.setCell ⟨w.heap.size + 1, 0, none⟩ (.int .i64 (k : Int))).setCell ⟨w.heap.size + 1, 1, none⟩ (.int .i64 (cc1 : Int))) (w.heap.size + 1) (k : Int) (cc1 : Int)) from HS.out.s.set _ _)
              have HBz := (show Hid (Below w.heap.size w ((w4.setCell ⟨w.heap.size + 1, 0, none⟩ (.int .i64 (k : Int))).setCell ⟨w.heap.size + 1, 1, none⟩ (.int .i64 (cc1 : Int)))) from set_below (set_below HS.out.b (Nat.le_succ _)) (Nat.le_succ _))
              have c0 := HS.out.s.c0
              have c1 := HS.out.s.c1
              have f0 := HS.out.s.fz 0
              have f1 := HS.out.s.fz 1
              clear HS
              go_wp2_with fail
              have d0 := HZ.out.c0
              have d1 := HZ.out.c1
              clear c0 c1 f0 f1
              generalize (w4.setCell ⟨w.heap.size + 1, 0, none⟩ (.int .i64 (k : Int))).setCell ⟨w.heap.size + 1, 1, none⟩ (.int .i64 (cc1 : Int)) = wZ at *
              refine bodyPost_ret (v := .tuple #[.map none, .agg #[.int .i64 (k : Int), .int .i64 (cc1 : Int)], .int .i64 cc2]) (by simp [results, Try.results34, go_sem, d0, d1]) rfl ⟨.inl ⟨by rw [HF.out]; exact HC.out, by rw [HF.out]; try rfl⟩, HBz.out⟩
        · have tl : ((gs.length : Int) == 1) = false := beq_eq_false_iff_ne.2 (by omega)
          have hnb : nmB g.1 = false := nmB_f (fun h => by have := h.1; omega)
          have HF := (show Hid (ckG gs = ((k, 0), 6)) from HE.out _ (by rw [HX1.out, if_pos (by rintro (q | q); rw [hnb] at q; cases q; exact hl1 q.2)]) (by show (6 : Int) ≠ 0; decide))
          rw [hnb] at HNm
          clear HX1 HE HG HP hl1 hs0 hgk HCk HEu HTT
          go_wp2_with fail
          refine (HNm.out _).mono ?_
          rintro e w3 ⟨rfl, b3⟩
          have HS := (show Hid (UnS w w3 (.slice (some ⟨b, o, none⟩) gs.length c) mb (gs.take k)) from HS0.out.later b3)
          clear HNm b3 HR0 HS0
          have HZ := (show Hid (SX ((w3.setCell ⟨w.heap.size + 1, 0, none⟩ (.int .i64 (k : Int))).setCell ⟨w.heap.size + 1, 1, none⟩ (.int .i64 0)) (w.heap.size + 1) (k : Int) 0) from HS.out.s.set _ _)
          have HBz := (show Hid (Below w.heap.size w ((w3.setCell ⟨w.heap.size + 1, 0, none⟩ (.int .i64 (k : Int))).setCell ⟨w.heap.size + 1, 1, none⟩ (.int .i64 0))) from set_below (set_below HS.out.b (Nat.le_succ _)) (Nat.le_succ _))
          have c0 := HS.out.s.c0
          have c1 := HS.out.s.c1
          have f0 := HS.out.s.fz 0
          have f1 := HS.out.s.fz 1
          clear HS
          go_wp2_with fail
          have d0 := HZ.out.c0
          have d1 := HZ.out.c1
          clear c0 c1 f0 f1
          generalize (w3.setCell ⟨w.heap.size + 1, 0, none⟩ (.int .i64 (k : Int))).setCell ⟨w.heap.size + 1, 1, none⟩ (.int .i64 0) = wZ at *
          refine bodyPost_ret (v := .tuple #[.map none, .agg #[.int .i64 (k : Int), .int .i64 0], .int .i64 6]) (by simp [results, Try.results34, go_sem, d0, d1]) rfl ⟨.inl ⟨by rw [HF.out]; show (6 : Int) ≠ 0; decide, by rw [HF.out]; try rfl⟩, HBz.out⟩
      · have te : (g.1.toList == []) = false := by
          have e := emp_f hs0
          cases hl : g.1.toList with
          | nil => rw [hl] at e; cases e
          | cons x r => rfl
        have te2 := emp_f hs0
        cases hnb : nmB g.1
        · have HF := (show Hid (ckG gs = ((k, 0), 6)) from HE.out _ (by rw [HX1.out, if_pos (by rintro (q | q); rw [hnb] at q; cases q; exact hs0 q.1)]) (by show (6 : Int) ≠ 0; decide))
          rw [hnb] at HNm
          clear HX1 HE HG HP hs0 hgk HCk HEu HTT
          go_wp2_with fail
          refine (HNm.out _).mono ?_
          rintro e w3 ⟨rfl, b3⟩
          have HS := (show Hid (UnS w w3 (.slice (some ⟨b, o, none⟩) gs.length c) mb (gs.take k)) from HS0.out.later b3)
          clear HNm b3 HR0 HS0
          have HZ := (show Hid (SX ((w3.setCell ⟨w.heap.size + 1, 0, none⟩ (.int .i64 (k : Int))).setCell ⟨w.heap.size + 1, 1, none⟩ (.int .i64 0)) (w.heap.size + 1) (k : Int) 0) from HS.out.s.set _ _)
          have HBz := (show Hid (Below w.heap.size w ((w3.setCell ⟨w.heap.size + 1, 0, none⟩ (.int .i64 (k : Int))).setCell ⟨w.heap.size + 1, 1, none⟩ (.int .i64 0))) from set_below (set_below HS.out.b (Nat.le_succ _)) (Nat.le_succ _))
          have c0 := HS.out.s.c0
          have c1 := HS.out.s.c1
          have f0 := HS.out.s.fz 0
          have f1 := HS.out.s.fz 1
          clear HS
          go_wp2_with fail
          have d0 := HZ.out.c0
          have d1 := HZ.out.c1
          clear c0 c1 f0 f1
          generalize (w3.setCell ⟨w.heap.size + 1, 0, none⟩ (.int .i64 (k : Int))).setCell ⟨w.heap.size + 1, 1, none⟩ (.int .i64 0) = wZ at *
          refine bodyPost_ret (v := .tuple #[.map none, .agg #[.int .i64 (k : Int), .int .i64 0], .int .i64 6]) (by simp [results, Try.results34, go_sem, d0, d1]) rfl ⟨.inl ⟨by rw [HF.out]; show (6 : Int) ≠ 0; decide, by rw [HF.out]; try rfl⟩, HBz.out⟩
        · have HX := (show Hid (c1G gs 0 0 gs = if tw gs g.1 k = true then ((k, 0), 80) else if (ck g.2).2 ≠ 0 then ((k, (ck g.2).1), (ck g.2).2) else if 2048 < m + g.2.length then ((k, 0), 2) else c1G gs (k + 1) (m + g.2.length) (gs.drop (k + 1))) from by show c1G gs 0 0 gs = _; rw [HX1.out, if_neg (fun q => q (.inl hnb))])
          rw [hnb] at HNm
          clear HX1 hs0 hnb HEu HTT
          go_wp2_with fail
          refine (HNm.out _).mono ?_
          rintro e wX ⟨rfl, b3⟩
          have HS := (show Hid (UnS w wX (.slice (some ⟨b, o, none⟩) gs.length c) mb (gs.take k)) from HS0.out.later b3)
          have HR := (show Hid (RB wX wr.heap.size g.1 (.slice A2 g.2.length c2)) from HR0.out.later b3)
          clear HNm b3 HR0 HS0 x0' x1'
          obtain ⟨cc, hrun, _⟩ := HS.out.m.look g.1 s1
          by_cases htw : tw gs g.1 k = true
          · have HF := (show Hid (ckG gs = ((k, 0), 80)) from HE.out _ (by rw [HX.out, if_pos htw]) (by show (80 : Int) ≠ 0; decide))
            rw [← tw_take gs g.1 k (by omega), htw] at hrun
            have y0 := HR.out.c0
            clear HX HE HCk HR HG HP htw HSz
            have HZ := (show Hid (SX ((wX.setCell ⟨w.heap.size + 1, 0, none⟩ (.int .i64 (k : Int))).setCell ⟨w.heap.size + 1, 1, none⟩ (.int .i64 0)) (w.heap.size + 1) (k : Int) 0) from HS.out.s.set _ _)
            have HBz := (show Hid (Below w.heap.size w ((wX.setCell ⟨w.heap.size + 1, 0, none⟩ (.int .i64 (k : Int))).setCell ⟨w.heap.size + 1, 1, none⟩ (.int .i64 0))) from set_below (set_below HS.out.b (Nat.le_succ _)) (Nat.le_succ _))
            have c0 := HS.out.s.c0
            have c1 := HS.out.s.c1
            have f0 := HS.out.s.fz 0
            have f1 := HS.out.s.fz 1
            clear HS
            go_wp2_with fail
            have d0 := HZ.out.c0
            have d1 := HZ.out.c1
            clear c0 c1 f0 f1
            generalize (wX.setCell ⟨w.heap.size + 1, 0, none⟩ (.int .i64 (k : Int))).setCell ⟨w.heap.size + 1, 1, none⟩ (.int .i64 0) = wZ at *
            refine bodyPost_ret (v := .tuple #[.map none, .agg #[.int .i64 (k : Int), .int .i64 0], .int .i64 80]) (by simp [results, Try.results34, go_sem, d0, d1]) rfl ⟨.inl ⟨by rw [HF.out]; show (80 : Int) ≠ 0; decide, by rw [HF.out]; try rfl⟩, HBz.out⟩
          · have htw2 : tw gs g.1 k = false := by cases q : tw gs g.1 k; rfl; exact absurd q htw
            rw [← tw_take gs g.1 k (by omega), htw2] at hrun
            have HX2 := (show Hid (c1G gs 0 0 gs = if (ck g.2).2 ≠ 0 then ((k, (ck g.2).1), (ck g.2).2) else if 2048 < m + g.2.length then ((k, 0), 2) else c1G gs (k + 1) (m + g.2.length) (gs.drop (k + 1))) from by show c1G gs 0 0 gs = _; rw [HX.out, if_neg htw])
            have hfd : fdG (gs.take k) g.1 = none := by
              have := tw_take gs g.1 k (by omega)
              rw [htw2] at this
              cases q : fdG (gs.take k) g.1 with
              | none => rfl
              | some i => rw [q] at this; cases this
            obtain ⟨D, hown, hD⟩ := HS.out.m.ex
            have HD := (show Hid (NmD D (gs.take k)) from hD)
            have hlk : (gs.take k).length = k := by rw [List.length_take]; omega
            rw [hlk] at hown
            have HFd := (show Hid (fdG (gs.take k) g.1 = none) from hfd)
            have HLk := (show Hid ((gs.take k).length = k) from hlk)
            have HGk := (show Hid (gs.take (k + 1) = gs.take k ++ [g]) from by rw [List.take_add_one, hgk]; rfl)
            have HPut := (show Hid (∀ w1, (wX).grownBy w1 (some mb) → w1.ownsMap Try.prog 9 (plainElem Try.prog 3) mb (k + 1) (D.put (.string g.1.data.toList) (.lit (.int .i64 k))) → UnS w w1 (.slice (some ⟨b, o, none⟩) gs.length c) mb (gs.take (k + 1))) from fun w1 hgrow1 hown1 => by
              show UnS w w1 _ _ _
              rw [HGk.out]
              exact NuS.put HMb.out HS.out hgrow1 hown1 HD.out HFd.out HLk.out)
            have y0 := HR.out.c0
            have y1 := HR.out.c1
            have hkey := key_of s1
            clear HX htw htw2 hD hfd hlk hgk HD HFd HLk HGk
            go_wp2_with (
              at_mapUpdate
              refine wpList_mapUpdate_own _ rfl _ _ _ 59 rfl 9 3 keyed Try.underlying59 _ mb k D rfl hown (by unfold maxLen; omega) _ _ (.string g.1.data.toList) rfl rfl hkey _ [] (plainElem_int Try.underlying3 (WalkArith.wf_i64 (by omega))) ?_
              intro w1 hown1 hgrow1
              have HS1 := (show Hid (UnS w w1 (.slice (some ⟨b, o, none⟩) gs.length c) mb (gs.take (k + 1))) from HPut.out w1 hgrow1 hown1)
              have HR1 := (show Hid (RB w1 wr.heap.size g.1 (.slice A2 g.2.length c2)) from HR.out.same (hgrow1.block wr.heap.size HR.out.lt (fun e => by injection e with e; exact HRn.out e)))
              have z1' := HR1.out.c1
              clear hown hown1 hgrow1 y0 y1 hrun HS HR HPut)
            refine (HCk.out _ HS1.out.b).mono ?_
            rintro e w4 ⟨rfl, b4⟩
            have HS := (show Hid (UnS w w4 (.slice (some ⟨b, o, none⟩) gs.length c) mb (gs.take (k + 1))) from HS1.out.later b4)
            have y1 := (HR1.out.later b4).c1
            clear HCk b4 HS1 HR1 z1'
            by_cases hc : (ck g.2).2 = 0
            · have tc : ((ck g.2).2 != 0) = false := by rw [hc]; rfl
              have hg3 : g.2.length ≤ 2048 := by
                by_cases q : g.2.length ≤ 2048
                · exact q
                · have := ck_long (L := g.2) (by omega)
                  rw [this] at hc
                  exact absurd hc (by decide)
              have HV := (show Hid (c1G gs 0 0 gs = if 2048 < m + g.2.length then ((k, 0), 2) else c1G gs (k + 1) (m + g.2.length) (gs.drop (k + 1))) from by show c1G gs 0 0 gs = _; rw [HX2.out, if_neg (by rw [hc]; simp)])
              generalize hcc : (ck g.2).2 = cc2 at *
              clear hcc HX2
              by_cases hn : 2048 < m + g.2.length
              · have HF := (show Hid (ckG gs = ((k, 0), 2)) from HE.out _ (by rw [HV.out, if_pos hn]) (by show (2 : Int) ≠ 0; decide))
                have tn : (2048 : Int) < (m : Int) + (g.2.length : Int) := by omega
                clear HV HE HG HP hn
                have HZ := (show Hid (SX ((w4.setCell ⟨w.heap.size + 1, 0, none⟩ (.int .i64 (k : Int))).setCell ⟨w.heap.size + 1, 1, none⟩ (.int .i64 0)) (w.heap.size + 1) (k : Int) 0) from HS.out.s.set _ _)
                have HBz := (show Hid (Below w.heap.size w ((w4.setCell ⟨w.heap.size + 1, 0, none⟩ (.int .i64 (k : Int))).setCell ⟨w.heap.size + 1, 1, none⟩ (.int .i64 0))) from set_below (set_below HS.out.b (Nat.le_succ _)) (Nat.le_succ _))
                have c0 := HS.out.s.c0
                have c1 := HS.out.s.c1
                have f0 := HS.out.s.fz 0
                have f1 := HS.out.s.fz 1
                clear HS
                go_wp2_with fail
                have d0 := HZ.out.c0
                have d1 := HZ.out.c1
                clear c0 c1 f0 f1
                generalize (w4.setCell ⟨w.heap.size + 1, 0, none⟩ (.int .i64 (k : Int))).setCell ⟨w.heap.size + 1, 1, none⟩ (.int .i64 0) = wZ at *
                refine bodyPost_ret (v := .tuple #[.map none, .agg #[.int .i64 (k : Int), .int .i64 0], .int .i64 2]) (by simp [results, Try.results34, go_sem, d0, d1]) rfl ⟨.inl ⟨by rw [HF.out]; show (2 : Int) ≠ 0; decide, by rw [HF.out]; try rfl⟩, HBz.out⟩
              · have HX3 := (show Hid (c1G gs 0 0 gs = c1G gs (k + 1) (m + g.2.length) (gs.drop (k + 1))) from by show c1G gs 0 0 gs = _; rw [HV.out, if_neg hn])
                have tn : ¬ (2048 : Int) < (m : Int) + (g.2.length : Int) := by omega
                clear HV
                go_wp2_with fail
                go_roundw
                case rel => exact ⟨k + 1, m + g.2.length, by omega, by go_num, by go_num, by omega, HX3, HS⟩
                case measure => simp [intOf]; omega
            · have tc : ((ck g.2).2 != 0) = true := by rw [bne, beq_eq_false_iff_ne.2 hc]; rfl
              have HF := (show Hid (ckG gs = ((k, (ck g.2).1), (ck g.2).2)) from HE.out _ (by rw [HX2.out, if_pos hc]) hc)
              have HC := (show Hid ((ck g.2).2 ≠ 0) from hc)
              clear HX2 HE HG HP hc
              generalize hcc : (ck g.2).2 = cc2 at *
              generalize hcd : (ck g.2).1 = cc1 at *
              clear hcc hcd
              have HZ := (show Hid (SX ((w4.setCell ⟨w.heap.size + 1, 0, none⟩ (.int .i64 (k : Int))).setCell ⟨w.heap.size + 1, 1, none⟩ (.int .i64 (cc1 : Int))) (w.heap.size + 1) (k : Int) (cc1 : Int)) from HS.out.s.set _ _)
              have HBz := (show Hid (Below w.heap.size w ((w4.setCell ⟨w.heap.size + 1, 0, none⟩ (.int .i64 (k : Int))).setCell ⟨w.heap.size + 1, 1, none⟩ (.int .i64 (cc1 : Int)))) from set_below (set_below HS.out.b (Nat.le_succ _)) (Nat.le_succ _))
              have c0 := HS.out.s.c0
              have c1 := HS.out.s.c1
              have f0 := HS.out.s.fz 0
              have f1 := HS.out.s.fz 1
              clear HS
              go_wp2_with fail
              have d0 := HZ.out.c0
              have d1 := HZ.out.c1
              clear c0 c1 f0 f1
              generalize (w4.setCell ⟨w.heap.size + 1, 0, none⟩ (.int .i64 (k : Int))).setCell ⟨w.heap.size + 1, 1, none⟩ (.int .i64 (cc1 : Int)) = wZ at *
              refine bodyPost_ret (v := .tuple #[.map none, .agg #[.int .i64 (k : Int), .int .i64 (cc1 : Int)], .int .i64 cc2]) (by simp [results, Try.results34, go_sem, d0, d1]) rfl ⟨.inl ⟨by rw [HF.out]; exact HC.out, by rw [HF.out]; try rfl⟩, HBz.out⟩
    · obtain rfl : k = gs.length := by omega
      have HE2 := (show Hid (ckG gs = unG gs 0 gs) from HEu.out (by rw [HX0.out, List.drop_length]; rfl))
      have HS := (show Hid (UnS w wr (.slice A gs.length c) mb gs) from by show UnS w wr _ _ gs; have h := HW.out; rw [List.take_length] at h; exact h)
      have HUn := (show Hid (∀ _ : Unit, Calls Try.prog 58 #[.agg #[.slice A gs.length c], .map (some mb)] wr fun e w' => e = .returned (.tuple #[.agg #[.int .i64 (unG gs 0 gs).1.1, .int .i64 (unG gs 0 gs).1.2], .int .i64 (unG gs 0 gs).2]) ∧ Below wr.heap.size wr w') from fun _ => unknown_any gs A c mb hl HTT.out wr (HP.out.later HS.out.b) HS.out.m)
      have q3 := HS.out.x.cl
      clear HX0 HG HP HW HE HEu HTT
      go_wp2_with fail
      refine (HUn.out ()).mono ?_
      rintro e w5 ⟨rfl, b5⟩
      obtain ⟨wX, hwX⟩ : ∃ wX, wX = w5.alloc (.cells #[.int .i64 ((unG gs 0 gs).1.1 : Int), .int .i64 ((unG gs 0 gs).1.2 : Int)] 27) := ⟨_, rfl⟩
      have HS5 := (show Hid (UnS w wX (.slice A gs.length c) mb gs ∧ SX wX w5.heap.size ((unG gs 0 gs).1.1 : Int) ((unG gs 0 gs).1.2 : Int)) from by
        show _ ∧ _
        rw [hwX]
        exact ⟨(HS.out.later b5).later (below_box _ _), ⟨heap_alloc_new _ _⟩⟩)
      have HMx := (show Hid (mb ≠ w.heap.size + 1 ∧ w.heap.size ≤ mb) from by show _ ∧ _; rw [HMb.out]; omega)
      clear HUn b5 HS q3
      by_cases hz : (unG gs 0 gs).2 = 0
      · have HF := (show Hid ((ckG gs).2 = 0) from by show _ = _; rw [HE2.out]; exact hz)
        have tz : ((unG gs 0 gs).2 != 0) = false := by rw [hz]; rfl
        have HZ := (show Hid (SX ((wX.setCell ⟨w.heap.size + 1, 0, none⟩ (.int .i64 0)).setCell ⟨w.heap.size + 1, 1, none⟩ (.int .i64 0)) (w.heap.size + 1) 0 0) from HS5.out.1.s.set _ _)
        have HBz := (show Hid (Below w.heap.size w ((wX.setCell ⟨w.heap.size + 1, 0, none⟩ (.int .i64 0)).setCell ⟨w.heap.size + 1, 1, none⟩ (.int .i64 0))) from set_below (set_below HS5.out.1.b (Nat.le_succ _)) (Nat.le_succ _))
        have HMz := (show Hid (NmM ((wX.setCell ⟨w.heap.size + 1, 0, none⟩ (.int .i64 0)).setCell ⟨w.heap.size + 1, 1, none⟩ (.int .i64 0)) mb gs) from (HS5.out.1.m.same (heap_setCell_other _ _ _ _ HMx.out.1)).same (heap_setCell_other _ _ _ _ HMx.out.1))
        have c0 := HS5.out.1.s.c0
        have c1 := HS5.out.1.s.c1
        have f0 := HS5.out.1.s.fz 0
        have f1 := HS5.out.1.s.fz 1
        clear HS5 HE2 hz
        subst hwX
        generalize (unG gs 0 gs).2 = cc2 at *
        go_wp2_with fail
        have d0 := HZ.out.c0
        have d1 := HZ.out.c1
        clear c0 c1 f0 f1
        generalize ((w5.alloc (.cells #[.int .i64 ((unG gs 0 gs).1.1 : Int), .int .i64 ((unG gs 0 gs).1.2 : Int)] 27)).setCell ⟨w.heap.size + 1, 0, none⟩ (.int .i64 0)).setCell ⟨w.heap.size + 1, 1, none⟩ (.int .i64 0) = wZ at *
        refine bodyPost_ret (v := .tuple #[.map (some mb), .agg #[.int .i64 0, .int .i64 0], .int .i64 0]) (by simp [results, Try.results34, go_sem, d0, d1]) rfl ⟨.inr ⟨HF.out, mb, HMx.out.2, rfl, HMz.out⟩, HBz.out⟩
      · have tz : ((unG gs 0 gs).2 != 0) = true := by rw [bne, beq_eq_false_iff_ne.2 hz]; rfl
        have HF := (show Hid (ckG gs = unG gs 0 gs) from HE2.out)
        have HC := (show Hid ((unG gs 0 gs).2 ≠ 0) from hz)
        have HZ := (show Hid (SX (((wX.setCell ⟨w.heap.size + 1, 0, none⟩ (.int .i64 ((unG gs 0 gs).1.1 : Int))).setCell ⟨w.heap.size + 1, 1, none⟩ (.int .i64 ((unG gs 0 gs).1.2 : Int))).drew) (w.heap.size + 1) ((unG gs 0 gs).1.1 : Int) ((unG gs 0 gs).1.2 : Int)) from (HS5.out.1.s.set _ _).below (Below.refl _ _).drew)
        have HBz := (show Hid (Below w.heap.size w (((wX.setCell ⟨w.heap.size + 1, 0, none⟩ (.int .i64 ((unG gs 0 gs).1.1 : Int))).setCell ⟨w.heap.size + 1, 1, none⟩ (.int .i64 ((unG gs 0 gs).1.2 : Int))).drew)) from (set_below (set_below HS5.out.1.b (Nat.le_succ _)) (Nat.le_succ _)).drew)
        have HF2 := (show Hid ((ckG gs).1.1 = (unG gs 0 gs).1.1 ∧ (ckG gs).1.2 = (unG gs 0 gs).1.2 ∧ (ckG gs).2 = (unG gs 0 gs).2) from by show _ ∧ _; rw [HF.out]; exact ⟨rfl, rfl, rfl⟩)
        have c0 := HS5.out.1.s.c0
        have c1 := HS5.out.1.s.c1
        have f0 := HS5.out.1.s.fz 0
        have f1 := HS5.out.1.s.fz 1
        have e0 := HS5.out.2.c0
        have e1 := HS5.out.2.c1
        clear HS5 HE2 hz HMx HF
        generalize (unG gs 0 gs).1.1 = ca at *
        generalize (unG gs 0 gs).1.2 = cb at *
        generalize (unG gs 0 gs).2 = cd at *
        go_wp2_with fail
        rw [← hwX]
        clear hwX
        go_region
        all_goals (go_wp2_with fail)
        all_goals
          have d0 := HZ.out.c0
          have d1 := HZ.out.c1
          clear c0 c1 f0 f1 e0 e1
          generalize ((wX.setCell ⟨w.heap.size + 1, 0, none⟩ (.int .i64 (ca : Int))).setCell ⟨w.heap.size + 1, 1, none⟩ (.int .i64 (cb : Int))).drew = wZ at *
          refine bodyPost_ret (v := .tuple #[.map none, .agg #[.int .i64 (ca : Int), .int .i64 (cb : Int)], .int .i64 cd]) (by simp [results, Try.results34, go_sem, d0, d1]) rfl ⟨.inl ⟨by rw [HF2.out.2.2]; exact HC.out, by rw [HF2.out.1, HF2.out.2.1, HF2.out.2.2]⟩, HBz.out⟩
end Go.Proofs.Ytppggnmlbcdegaa.N

namespace Go.Proofs.Ytppggnmlbcdegaa.N
open Go.RowKit Go.Maps
open Go.Proofs.Ytppggnmlbcdegaa.T
/-- A grammar that can be read, of a size that can be. -/
structure GI (W : World) (A : Option Addr) (gs : GL) : Prop where
  d : GrD W A gs
  l : gs.length ≤ 140737488355328
  t : ∀ g ∈ gs, g.1.size ≤ 140737488355328 ∧ g.2.length ≤ 140737488355328 ∧ ∀ n ∈ g.2, n.tx.size ≤ 140737488355328
theorem GI.later {W W' : World} {A : Option Addr} {gs : GL} (h : GI W A gs) (hb : Below W.heap.size W W') : GI W' A gs := ⟨h.d.later hb, h.l, h.t⟩
theorem GrIn.gi {W : World} {A : Option Addr} {c : Nat} {gs : GL} (h : GrIn W A c gs) : GI W A gs := ⟨h.d, by have := h.len; omega, h.tx⟩
theorem unG_zero {gs : GL} : ∀ (l : GL) (i : Nat), (unG gs i l).2 = 0 → unG gs i l = ((0, 0), 0) := by
  intro l
  induction l with
  | nil => intro i _; rfl
  | cons g l ih =>
    intro i h
    rw [unG_cons] at h ⊢
    cases q : unN gs 0 g.2 with
    | some k => rw [q] at h; exact absurd h (show (81 : Int) ≠ 0 by decide)
    | none => rw [q] at h; exact ih _ h
theorem ckG_zero {gs : GL} (h : (ckG gs).2 = 0) : ckG gs = ((0, 0), 0) := by
  unfold ckG at h ⊢
  by_cases h0 : gs.length = 0
  · rw [if_pos h0] at h; exact absurd h (by decide)
  · rw [if_neg h0] at h ⊢
    by_cases h2 : 200 < gs.length
    · rw [if_pos h2] at h; exact absurd h (by decide)
    · rw [if_neg h2] at h ⊢
      by_cases h3 : (c1G gs 0 0 gs).2 ≠ 0
      · rw [if_pos h3] at h; exact absurd h h3
      · rw [if_neg h3] at h ⊢; exact unG_zero _ _ h
theorem NuV.form {w w' : World} {gs : GL} {e : Ending} (h : NuV w w' gs e) : ∃ mv, e = .returned (.tuple #[mv, .agg #[.int .i64 (ckG gs).1.1, .int .i64 (ckG gs).1.2], .int .i64 (ckG gs).2]) ∧ ((ckG gs).2 = 0 → ∃ B, w.heap.size ≤ B ∧ mv = .map (some B) ∧ NmM w' B gs) := by
  rcases h with ⟨h1, h2⟩ | ⟨h1, B, h2, h3, h4⟩
  · exact ⟨_, h2, fun q => absurd q h1⟩
  · refine ⟨.map (some B), ?_, fun _ => ⟨B, h2, rfl, h4⟩⟩
    rw [ckG_zero h1]; exact h3
set_option maxRecDepth 100000 in
set_option maxHeartbeats 4000000 in
theorem checkP_any (gs : GL) (A : Option Addr) (c : Nat) (w : World) (hp : GI w A gs) :
    Calls Try.prog 10 #[.agg #[.slice A gs.length c]] w fun e w' => e = .returned (.tuple #[.agg #[.int .i64 (ckG gs).1.1, .int .i64 (ckG gs).1.2], .int .i64 (ckG gs).2]) ∧ Below w.heap.size w w' := by
  obtain ⟨w1, hw1⟩ : ∃ w1, w1 = (w.alloc (.cells #[.slice A gs.length c] 24)).alloc (.cells #[.int .i64 0, .int .i64 0] 27) := ⟨_, rfl⟩
  have HS : Hid (Below w.heap.size w w1 ∧ GX w1 w.heap.size (.slice A gs.length c) ∧ SX w1 (w.heap.size + 1) 0 0) := by
    show _ ∧ _ ∧ _
    rw [hw1]
    exact ⟨((Below.refl _ _).alloc (Nat.le_refl _) _).alloc (by rw [World.size_alloc]; omega) _, (GX.mk (heap_alloc_new w _)).below (below_box _ _), ⟨by have h := heap_alloc_new (w.alloc (.cells #[.slice A gs.length c] 24)) (.cells #[.int .i64 0, .int .i64 0] 27); rw [World.size_alloc] at h; exact h⟩⟩
  have HN := (show Hid (∀ _ : Unit, Calls Try.prog 34 #[.agg #[.slice A gs.length c]] w1 fun e w' => NuV w1 w' gs e ∧ Below w1.heap.size w1 w') from fun _ => numb_any gs A c hp.l hp.t w1 (hp.d.later (by rw [hw1]; exact ((Below.refl _ _).alloc (Nat.le_refl _) _).alloc (by rw [World.size_alloc]; omega) _)))
  have q1 := HS.out.2.1.cl
  clear hp
  go_enter Try.func10, Try.ntmps10
  go_wp2_with fail
  rw [← hw1]
  refine (HN.out ()).mono ?_
  rintro e w3 ⟨hv, b3⟩
  obtain ⟨mv, rfl, _⟩ := hv.form
  have HB := (show Hid (Below w.heap.size w w3) from HS.out.1.trans (b3.mono HS.out.1.size))
  have HX := (show Hid (SX w3 (w.heap.size + 1) 0 0) from HS.out.2.2.below b3)
  clear HN HS b3 q1 hw1 hv
  obtain ⟨ca, cb, cd, hcc⟩ : ∃ (ca cb : Nat) (cd : Int), ckG gs = ((ca, cb), cd) := ⟨_, _, _, rfl⟩
  have HCC := (show Hid (ckG gs = ((ca, cb), cd)) from hcc)
  rw [hcc]
  clear hcc
  have c0 := HX.out.c0
  have c1 := HX.out.c1
  have f0 := HX.out.fz 0
  have f1 := HX.out.fz 1
  have HX2 := (show Hid (SX ((w3.setCell ⟨w.heap.size + 1, 0, none⟩ (.int .i64 (ca : Int))).setCell ⟨w.heap.size + 1, 1, none⟩ (.int .i64 (cb : Int))) (w.heap.size + 1) ca cb) from HX.out.set _ _)
  have HX3 := (show Hid (SX ((((w3.setCell ⟨w.heap.size + 1, 0, none⟩ (.int .i64 (ca : Int))).setCell ⟨w.heap.size + 1, 1, none⟩ (.int .i64 (cb : Int))).setCell ⟨w.heap.size + 1, 0, none⟩ (.int .i64 (ca : Int))).setCell ⟨w.heap.size + 1, 1, none⟩ (.int .i64 (cb : Int))) (w.heap.size + 1) ca cb) from HX2.out.set _ _)
  have HB3 := (show Hid (Below w.heap.size w ((((w3.setCell ⟨w.heap.size + 1, 0, none⟩ (.int .i64 (ca : Int))).setCell ⟨w.heap.size + 1, 1, none⟩ (.int .i64 (cb : Int))).setCell ⟨w.heap.size + 1, 0, none⟩ (.int .i64 (ca : Int))).setCell ⟨w.heap.size + 1, 1, none⟩ (.int .i64 (cb : Int)))) from set_below (set_below (set_below (set_below HB.out (Nat.le_succ _)) (Nat.le_succ _)) (Nat.le_succ _)) (Nat.le_succ _))
  have HBz := (show Hid (Below w.heap.size w ((w3.setCell ⟨w.heap.size + 1, 0, none⟩ (.int .i64 (ca : Int))).setCell ⟨w.heap.size + 1, 1, none⟩ (.int .i64 (cb : Int)))) from set_below (set_below HB.out (Nat.le_succ _)) (Nat.le_succ _))
  clear HX HB
  go_wp2_with fail
  have d0 := HX3.out.c0
  have d1 := HX3.out.c1
  clear c0 c1 f0 f1 HX2 HBz
  generalize (((w3.setCell ⟨w.heap.size + 1, 0, none⟩ (.int .i64 (ca : Int))).setCell ⟨w.heap.size + 1, 1, none⟩ (.int .i64 (cb : Int))).setCell ⟨w.heap.size + 1, 0, none⟩ (.int .i64 (ca : Int))).setCell ⟨w.heap.size + 1, 1, none⟩ (.int .i64 (cb : Int)) = wZ at *
  refine bodyPost_ret (v := .tuple #[.agg #[.int .i64 (ca : Int), .int .i64 (cb : Int)], .int .i64 cd]) (by simp [results, Try.results10, go_sem, d0, d1]) rfl ⟨by rw [HCC.out], HB3.out⟩
/-- What is refused ahead of a rule's number. -/
def lkR (gs : GL) (r : Int) : Int := if (ckG gs).2 ≠ 0 then (ckG gs).2 else if r < 0 ∨ (gs.length : Int) ≤ r then 1 else 0
set_option maxRecDepth 100000 in
set_option maxHeartbeats 4000000 in
theorem numbW_any (gs : GL) (A : Option Addr) (c : Nat) (r : Int) (w : World) (hp : GI w A gs) :
    Calls Try.prog 51 #[.agg #[.slice A gs.length c], .int .i64 r] w fun e w' => (∃ mv, e = .returned (.tuple #[mv, .int .i64 (lkR gs r)]) ∧ (lkR gs r = 0 → ∃ B, w.heap.size ≤ B ∧ mv = .map (some B) ∧ NmM w' B gs)) ∧ Below w.heap.size w w' := by
  obtain ⟨w1, hw1⟩ : ∃ w1, w1 = (w.alloc (.cells #[.slice A gs.length c] 24)) := ⟨_, rfl⟩
  have HB1 : Hid (Below w.heap.size w w1) := by show Below _ _ _; rw [hw1]; exact below_box _ _
  have HG1 : Hid (GX w1 w.heap.size (.slice A gs.length c)) := by show GX _ _ _; rw [hw1]; exact GX.mk (heap_alloc_new w _)
  have HN := (show Hid (∀ _ : Unit, Calls Try.prog 34 #[.agg #[.slice A gs.length c]] w1 fun e w' => NuV w1 w' gs e ∧ Below w1.heap.size w1 w') from fun _ => numb_any gs A c hp.l hp.t w1 (hp.d.later HB1.out))
  clear hp
  go_enter Try.func51, Try.ntmps51
  go_wp2_with fail
  rw [← hw1]
  refine (HN.out ()).mono ?_
  rintro e w3 ⟨hv, b3⟩
  obtain ⟨mv, rfl, hm⟩ := hv.form
  obtain ⟨w4, hw4⟩ : ∃ w4, w4 = w3.alloc (.cells #[.int .i64 ((ckG gs).1.1 : Int), .int .i64 ((ckG gs).1.2 : Int)] 27) := ⟨_, rfl⟩
  have HB := (show Hid (Below w.heap.size w w4) from by show Below _ _ _; rw [hw4]; exact (HB1.out.trans (b3.mono HB1.out.size)).alloc (HB1.out.trans (b3.mono HB1.out.size)).size _)
  have HG := (show Hid (GX w4 w.heap.size (.slice A gs.length c)) from by show GX _ _ _; rw [hw4]; exact (HG1.out.below b3).below (below_box _ _))
  have HB1s := (show Hid (w.heap.size ≤ w1.heap.size) from HB1.out.size)
  have q1 := HG.out.cl
  clear HN b3 hw1 hv HB1 HG HG1
  by_cases hz : (ckG gs).2 = 0
  · obtain ⟨B, hB, rfl, hM⟩ := hm hz
    have tz : ((ckG gs).2 != 0) = false := by rw [hz]; rfl
    have HM4 := (show Hid (NmM w4 B gs) from by show NmM _ _ _; rw [hw4]; exact hM.later (below_box _ _))
    have HBb := (show Hid (w.heap.size ≤ B) from Nat.le_trans HB1s.out hB)
    have HE0 := (show Hid (lkR gs r = if r < 0 ∨ (gs.length : Int) ≤ r then 1 else 0) from by show lkR gs r = _; unfold lkR; rw [if_neg (fun q => q hz)])
    clear hM hm hz hB
    subst hw4
    generalize (ckG gs).2 = cd at *
    by_cases h1 : r < 0
    · have HE := (show Hid (lkR gs r = 1) from by show lkR gs r = _; rw [HE0.out, if_pos (.inl h1)])
      clear HE0
      go_wp2_with fail
      refine bodyPost_ret (v := .tuple #[.map none, .int .i64 1]) (by simp [results, Try.results51, go_sem]) rfl ⟨⟨_, by rw [HE.out], fun q => by rw [HE.out] at q; cases q⟩, HB.out⟩
    · by_cases h2 : (gs.length : Int) ≤ r
      · have HE := (show Hid (lkR gs r = 1) from by show lkR gs r = _; rw [HE0.out, if_pos (.inr h2)])
        clear HE0
        go_wp2_with fail
        refine bodyPost_ret (v := .tuple #[.map none, .int .i64 1]) (by simp [results, Try.results51, go_sem]) rfl ⟨⟨_, by rw [HE.out], fun q => by rw [HE.out] at q; cases q⟩, HB.out⟩
      · have HE := (show Hid (lkR gs r = 0) from by show lkR gs r = _; rw [HE0.out, if_neg (by rintro (q | q); exact h1 q; exact h2 q)])
        clear HE0
        go_wp2_with fail
        refine bodyPost_ret (v := .tuple #[.map (some B), .int .i64 0]) (by simp [results, Try.results51, go_sem]) rfl ⟨⟨_, by rw [HE.out], fun _ => ⟨B, HBb.out, rfl, HM4.out⟩⟩, HB.out⟩
  · have tz : ((ckG gs).2 != 0) = true := by rw [bne, beq_eq_false_iff_ne.2 hz]; rfl
    have HE := (show Hid (lkR gs r = (ckG gs).2) from by show lkR gs r = _; unfold lkR; rw [if_pos hz])
    have HZ := (show Hid ((ckG gs).2 ≠ 0) from hz)
    clear hm hz
    subst hw4
    generalize (ckG gs).2 = cd at *
    go_wp2_with fail
    refine bodyPost_ret (v := .tuple #[.map none, .int .i64 cd]) (by simp [results, Try.results51, go_sem]) rfl ⟨⟨_, by rw [HE.out], fun q => by rw [HE.out] at q; exact absurd q HZ.out⟩, HB.out⟩
end Go.Proofs.Ytppggnmlbcdegaa.N

namespace Go.Proofs.Ytppggnmlbcdegaa.T
open Go.RowKit
def asText (l : List Int) : ByteArray := l.foldl (fun r n => r.push (UInt8.ofNat n.toNat)) ByteArray.empty
theorem asText_data (l : List Int) : (asText l).data.toList = l.map (fun n => UInt8.ofNat n.toNat) := by
  have key : ∀ (l : List Int) (s : ByteArray), (l.foldl (fun r n => r.push (UInt8.ofNat n.toNat)) s).data.toList = s.data.toList ++ l.map (fun n => UInt8.ofNat n.toNat) := by
    intro l
    induction l with
    | nil => intro s; simp
    | cons b l ih => intro s; rw [List.foldl_cons, ih]; simp [ByteArray.push]
  have := key l ByteArray.empty
  simpa [asText] using this
theorem asText_eq (l : List Int) : asText l = ⟨(l.map fun n => UInt8.ofNat n.toNat).toArray⟩ := by
  have h := asText_data l
  cases ht : asText l with
  | mk d =>
    rw [ht] at h
    cases d with
    | mk x => simp at h; rw [h]
def byl (s : ByteArray) : List Int := s.data.toList.map fun c => (c.toNat : Int)
theorem byl_len (s : ByteArray) : (byl s).length = s.size := by unfold byl; rw [List.length_map]; rfl
theorem byl_get (s : ByteArray) (k : Nat) (h : k < s.size) : (byl s)[k]? = some (s[k].toNat : Int) := by
  unfold byl
  rw [List.getElem?_map, List.getElem?_eq_getElem (by simpa using h)]
  rfl
theorem asText_byl (s : ByteArray) : asText (byl s) = s := by
  rw [asText_eq]
  unfold byl
  rw [List.map_map]
  have : (List.map ((fun n : Int => UInt8.ofNat n.toNat) ∘ fun c : UInt8 => (c.toNat : Int)) s.data.toList) = s.data.toList := by
    conv => rhs; rw [← List.map_id s.data.toList]
    refine List.map_congr_left fun c _ => ?_
    simp
  rw [this]
theorem conv_bytes (s : ByteArray) (w : World) : (convert 9 112 (.string s)).run Try.prog w = .ok (.slice (some ⟨w.heap.size, 0, none⟩) s.size (grownCap w s.size 0 5)) (Lib.bytesWorld w 5 s) :=
  Lib.run_convert_string_bytes w 9 112 5 s Try.underlying9 Try.underlying112 Try.underlying5
theorem conv_again (s : ByteArray) (w : World) (c : Nat) : (convert 112 9 (.slice (some ⟨w.heap.size, 0, none⟩) s.size c)).run Try.prog (Lib.bytesWorld w 5 s) = .ok (.string s) (Lib.bytesWorld w 5 s) := by
  rw [run_convert_bytes_string _ 112 9 5 _ _ _ Try.underlying112 Try.underlying5 Try.underlying9]
  have h := run_bytesToString (P := Try.prog) (Lib.bytesWorld w 5 s) ⟨w.heap.size, 0, none⟩ s.size c (byl s) ?_
  · rw [h]; exact congrArg (fun x => Result.ok (Value.string x) _) (asText_byl s)
  · have h2 := run_loadCells_list (P := Try.prog) (w := Lib.bytesWorld w 5 s) ⟨w.heap.size, 0, none⟩ ((byl s).map (Value.int .u8)) (fun j u hj => by
      rw [List.getElem?_map] at hj
      have hlt : j < s.size := by
        by_cases q : j < s.size
        · exact q
        · rw [List.getElem?_eq_none (by rw [byl_len]; omega)] at hj; cases hj
      rw [byl_get s j hlt] at hj
      cases hj
      have h3 := Lib.bytesWorld_cell w 5 s j hlt
      rw [Addr.add_lit, Nat.zero_add, h3]
      have : s.data.toList.getD j 0 = s[j] := by
        rw [List.getD_eq_getElem?_getD, List.getElem?_eq_getElem (by simpa using hlt)]; rfl
      rw [this])
    rwa [List.length_map, byl_len] at h2

/-- A node in a box that is the call's own. -/
structure NX (W : World) (b : Nat) (n : Nd) : Prop where
  heap : W.heap[b]? = some (.cells #[.int .i64 n.op, .int .i64 n.nn, .string n.tx, .int .u64 n.s0, .int .u64 n.s1, .int .u64 n.s2, .int .u64 n.s3] 68 (0, 0))
theorem NX.lt {W : World} {b : Nat} {n : Nd} (h : NX W b n) : b < W.heap.size := (Array.getElem?_eq_some_iff.1 h.heap).1
theorem NX.same {W W' : World} {b : Nat} {n : Nd} (h : NX W b n) (hb : W'.heap[b]? = W.heap[b]?) : NX W' b n := ⟨hb.trans h.heap⟩
theorem NX.nb {W : World} {b : Nat} {n : Nd} (h : NX W b n) : NB W b 0 n := by
  have key : ∀ (j : Nat) u, (#[Value.int .i64 n.op, .int .i64 n.nn, .string n.tx, .int .u64 n.s0, .int .u64 n.s1, .int .u64 n.s2, .int .u64 n.s3] : Array Value)[j]? = some u → W.cell? ⟨b, j, none⟩ = some u := fun j u hu => by
    rw [cell_of_row W b j _ 68 (0, 0) h.heap]
    exact hu
  exact ⟨key 0 _ rfl, key 1 _ rfl, key 2 _ rfl, key 3 _ rfl, key 4 _ rfl, key 5 _ rfl, key 6 _ rfl⟩
theorem NX.fz {W : World} {b : Nat} {n : Nd} (h : NX W b n) (j : Nat) : W.frozen? ⟨b, j, none⟩ = false := frozen_of_row W b j _ 68 h.heap
theorem NX.tx {W : World} {b : Nat} {n : Nd} (h : NX W b n) : NX (W.setCell ⟨b, 2, none⟩ (.string n.tx)) b n := ⟨by rw [heap_setCell_same W b 2 _ 68 _ h.heap]; rfl⟩

set_option maxRecDepth 100000 in
set_option maxHeartbeats 4000000 in
theorem copied_any (n : Nd) (w : World) : Calls Try.prog 87 #[ndG n] w fun e w' => e = .returned (ndG n) ∧ Below w.heap.size w w' := by
  obtain ⟨W2, hW2⟩ : ∃ W2, W2 = (w.alloc (.cells #[.int .i64 n.op, .int .i64 n.nn, .string n.tx, .int .u64 n.s0, .int .u64 n.s1, .int .u64 n.s2, .int .u64 n.s3] 68)).alloc (.cells #[.int .i64 0, .int .i64 0, .string ⟨#[]⟩, .int .u64 0, .int .u64 0, .int .u64 0, .int .u64 0] 68) := ⟨_, rfl⟩
  have hx1 : NX W2 w.heap.size n := by
    rw [hW2]
    exact NX.same ⟨heap_alloc_new w _⟩ ((below_box (w.alloc (ndO n)) _).block _ (by simp))
  have hx2 : NX W2 (w.heap.size + 1) (zN 0) := by
    rw [hW2]
    have h := heap_alloc_new (w.alloc (ndO n)) (ndO (zN 0))
    rw [World.size_alloc] at h
    exact ⟨h⟩
  have hB : Below w.heap.size w W2 := by rw [hW2]; exact (below_box w _).alloc (below_box w _).size _
  have hs2 : W2.heap.size = w.heap.size + 2 := by rw [hW2]; simp
  have hb3 := Lib.bytesWorld_below W2 5 n.tx
  have hx1' : NX (Lib.bytesWorld W2 5 n.tx) w.heap.size n := hx1.same (hb3.block _ hx1.lt)
  have hx2' : NX (Lib.bytesWorld W2 5 n.tx) (w.heap.size + 1) (zN 0) := hx2.same (hb3.block _ hx2.lt)
  have HB3 := (show Hid (Below w.heap.size w (Lib.bytesWorld W2 5 n.tx)) from hB.trans (hb3.mono (by omega)))
  have hc1 := conv_bytes n.tx
  have hc2 : ∀ c, (convert 112 9 (.slice (some ⟨w.heap.size + 1 + 1, 0, none⟩) n.tx.size c)).run Try.prog (Lib.bytesWorld W2 5 n.tx) = .ok (.string n.tx) (Lib.bytesWorld W2 5 n.tx) := fun c => by
    have h := conv_again n.tx W2 c
    rw [hs2] at h
    exact h
  have HX1 := (show Hid (NX (Lib.bytesWorld W2 5 n.tx) w.heap.size n) from hx1')
  have HX2 := (show Hid (NX (Lib.bytesWorld W2 5 n.tx) (w.heap.size + 1) (zN 0)) from hx2')
  have HY1 := (show Hid (NX ((Lib.bytesWorld W2 5 n.tx).setCell ⟨w.heap.size, 2, none⟩ (.string n.tx)) w.heap.size n) from HX1.out.tx)
  have HY2 := (show Hid (NX ((Lib.bytesWorld W2 5 n.tx).setCell ⟨w.heap.size, 2, none⟩ (.string n.tx)) (w.heap.size + 1) (zN 0)) from HX2.out.same (heap_setCell_other _ _ _ _ (by simp)))
  have HY3 := (show Hid (NX (((((((((Lib.bytesWorld W2 5 n.tx).setCell ⟨w.heap.size, 2, none⟩ (.string n.tx)).setCell ⟨w.heap.size + 1, 0, none⟩ (.int .i64 n.op)).setCell ⟨w.heap.size + 1, 1, none⟩ (.int .i64 n.nn)).setCell ⟨w.heap.size + 1, 2, none⟩ (.string n.tx)).setCell ⟨w.heap.size + 1, 3, none⟩ (.int .u64 n.s0)).setCell ⟨w.heap.size + 1, 4, none⟩ (.int .u64 n.s1)).setCell ⟨w.heap.size + 1, 5, none⟩ (.int .u64 n.s2)).setCell ⟨w.heap.size + 1, 6, none⟩ (.int .u64 n.s3)) (w.heap.size + 1) n) from ⟨by
    have h := HY2.out.heap
    have h0 := heap_setCell_same _ (w.heap.size + 1) 0 _ 68 (.int .i64 n.op) h
    have h1 := heap_setCell_same _ (w.heap.size + 1) 1 _ 68 (.int .i64 n.nn) h0
    have h2 := heap_setCell_same _ (w.heap.size + 1) 2 _ 68 (.string n.tx) h1
    have h3 := heap_setCell_same _ (w.heap.size + 1) 3 _ 68 (.int .u64 n.s0) h2
    have h4 := heap_setCell_same _ (w.heap.size + 1) 4 _ 68 (.int .u64 n.s1) h3
    have h5 := heap_setCell_same _ (w.heap.size + 1) 5 _ 68 (.int .u64 n.s2) h4
    have h6 := heap_setCell_same _ (w.heap.size + 1) 6 _ 68 (.int .u64 n.s3) h5
    rw [h6]; rfl⟩)
  have HU := (show Hid (Below w.heap.size w (((((((((Lib.bytesWorld W2 5 n.tx).setCell ⟨w.heap.size, 2, none⟩ (.string n.tx)).setCell ⟨w.heap.size + 1, 0, none⟩ (.int .i64 n.op)).setCell ⟨w.heap.size + 1, 1, none⟩ (.int .i64 n.nn)).setCell ⟨w.heap.size + 1, 2, none⟩ (.string n.tx)).setCell ⟨w.heap.size + 1, 3, none⟩ (.int .u64 n.s0)).setCell ⟨w.heap.size + 1, 4, none⟩ (.int .u64 n.s1)).setCell ⟨w.heap.size + 1, 5, none⟩ (.int .u64 n.s2)).setCell ⟨w.heap.size + 1, 6, none⟩ (.int .u64 n.s3))) from (((((((HB3.out.setCell (by simp) _).setCell (by simp) _).setCell (by simp) _).setCell (by simp) _).setCell (by simp) _).setCell (by simp) _).setCell (by simp) _).setCell (by simp) _)
  have k2 := HX1.out.nb.c2
  have f2 := HX1.out.fz 2
  rw [Nat.zero_add] at k2
  obtain ⟨c0, c1, c2, c3, c4, c5, c6⟩ := HY1.out.nb
  obtain ⟨d0, d1, d2, d3, d4, d5, d6⟩ := HY2.out.nb
  simp only [Nat.zero_add, zN] at c0 c1 c2 c3 c4 c5 c6 d0 d1 d2 d3 d4 d5 d6
  have g0 := HY2.out.fz 0
  have g1 := HY2.out.fz 1
  have g2 := HY2.out.fz 2
  have g3 := HY2.out.fz 3
  have g4 := HY2.out.fz 4
  have g5 := HY2.out.fz 5
  have g6 := HY2.out.fz 6
  clear hx1 hx2 hB hb3 hx1' hx2' hs2 HX1 HX2 HB3 HY1 HY2
  subst hW2
  go_enter Try.func87, Try.ntmps87
  go_wp2_with fail
  generalize (((((((((Lib.bytesWorld ((w.alloc (.cells #[.int .i64 n.op, .int .i64 n.nn, .string n.tx, .int .u64 n.s0, .int .u64 n.s1, .int .u64 n.s2, .int .u64 n.s3] 68)).alloc (.cells #[.int .i64 0, .int .i64 0, .string ⟨#[]⟩, .int .u64 0, .int .u64 0, .int .u64 0, .int .u64 0] 68)) 5 n.tx).setCell ⟨w.heap.size, 2, none⟩ (.string n.tx)).setCell ⟨w.heap.size + 1, 0, none⟩ (.int .i64 n.op)).setCell ⟨w.heap.size + 1, 1, none⟩ (.int .i64 n.nn)).setCell ⟨w.heap.size + 1, 2, none⟩ (.string n.tx)).setCell ⟨w.heap.size + 1, 3, none⟩ (.int .u64 n.s0)).setCell ⟨w.heap.size + 1, 4, none⟩ (.int .u64 n.s1)).setCell ⟨w.heap.size + 1, 5, none⟩ (.int .u64 n.s2)).setCell ⟨w.heap.size + 1, 6, none⟩ (.int .u64 n.s3)) = W9 at *
  clear c0 c1 c2 c3 c4 c5 c6 d0 d1 d2 d3 d4 d5 d6 g0 g1 g2 g3 g4 g5 g6 k2 f2 hc1 hc2
  obtain ⟨c0, c1, c2, c3, c4, c5, c6⟩ := HY3.out.nb
  simp only [Nat.zero_add] at c0 c1 c2 c3 c4 c5 c6
  refine bodyPost_ret (v := ndG n) (by simp [results, Try.results87, go_sem, c0, c1, c2, c3, c4, c5, c6]) rfl ⟨rfl, HU.out⟩
end Go.Proofs.Ytppggnmlbcdegaa.T

namespace Go.Proofs.Ytppggnmlbcdegaa.T
open Go.RowKit
theorem enters47 (args : Array Value) (w : World) : (callFunc 87 args).run Try.prog w = .ok (.enter 87 args) w := enters_of Try.func87 (by kernel_rfl) rfl args w
theorem step_call47 {ops : Array Oper} {o : Oper} {a : Act} {w : World} {K : Act → World → Prop} {Q : Exit → Act → World → Prop} {E : Prop} (hgd : o.guard = none) (x : Operand) (ho : o.op = .call { callee := .value (.func 87), args := #[x], argTypes := #[68] }) (v : Value) (hx : a.eval x = v)
    (hc : Calls Try.prog 87 #[v] w fun e w' => ∃ r, e = .returned r ∧ K (a.put o.dst r) w') :
    if Region.wanted o (yielded ops a.tmps) = true then Oper.wp Try.prog o a w K Q else E := by
  have hw : Region.wanted o (yielded ops a.tmps) = true := by simp [Region.wanted, hgd]
  rw [if_pos hw]
  have h47 := enters47
  have he : (execOp a.eval o).run Try.prog w = .ok (.enter 87 #[v]) w := by
    unfold execOp
    simp [ho, go_sem, invoke, h47]
    rw [← hx]
    cases x <;> simp [Act.eval]
  unfold Oper.wp
  rw [he, Oper.upon_enter]
  refine hc.mono ?_
  rintro e w' ⟨r, rfl, hk⟩
  exact hk
end Go.Proofs.Ytppggnmlbcdegaa.T

namespace Go.Proofs.Ytppggnmlbcdegaa.N
open Go.RowKit Go.Maps
open Go.Proofs.Ytppggnmlbcdegaa.T
theorem nmB_s : nmB ⟨#[115]⟩ = true := by kernel_rfl
theorem ckG_one : ckG [((⟨#[115]⟩ : ByteArray), [zN 3])] = ((0, 0), 0) := by
  have h1 : c1G [((⟨#[115]⟩ : ByteArray), [zN 3])] 0 0 [((⟨#[115]⟩ : ByteArray), [zN 3])] = ((0, 0), 0) := by
    rw [c1G, if_neg (fun q => q (.inl nmB_s)), if_neg, if_neg (by rw [ck_any1]; decide), if_neg (by show ¬ 2048 < 0 + 1; decide), c1G]
    unfold tw
    have : fdG [((⟨#[115]⟩ : ByteArray), [zN 3])] ⟨#[115]⟩ = some 0 := by rw [fdG, if_pos rfl]
    rw [this]
    decide
  rw [ckG_un (by decide) (by decide) h1, unG_cons]
  have : unN [((⟨#[115]⟩ : ByteArray), [zN 3])] 0 [zN 3] = none := by
    rw [unN_cons, if_neg (by rintro ⟨q, _⟩; exact absurd q (show ¬ (3 : Int) = 6 by decide))]
    rfl
  rw [this]
  rfl
theorem ckG_nil : ckG [] = ((0, 0), 3) := rfl
theorem gi_one (w : World) : GI ((w.alloc (ndO (zN 3))).alloc (.cells #[.string ⟨#[115]⟩, .slice (some ⟨w.heap.size, 0, none⟩) 1 1] 57)) (some ⟨w.heap.size + 1, 0, none⟩) [((⟨#[115]⟩ : ByteArray), [zN 3])] := by
  have hr : RB ((w.alloc (ndO (zN 3))).alloc (.cells #[.string ⟨#[115]⟩, .slice (some ⟨w.heap.size, 0, none⟩) 1 1] 57)) (w.heap.size + 1) ⟨#[115]⟩ (.slice (some ⟨w.heap.size, 0, none⟩) 1 1) := ⟨by
    have h := heap_alloc_new (w.alloc (ndO (zN 3))) (.cells #[.string ⟨#[115]⟩, .slice (some ⟨w.heap.size, 0, none⟩) 1 1] 57)
    rw [World.size_alloc] at h
    exact h⟩
  refine ⟨fun k g hg => ?_, by show 1 ≤ _; omega, fun g hg => ?_⟩
  · cases k with
    | succ k => simp at hg
    | zero =>
      cases hg
      exact ⟨w.heap.size + 1, 0, some ⟨w.heap.size, 0, none⟩, 1, rfl, hr.lt, hr.c0, hr.c1, (rd_one w (zN 3)).below (below_box _ _) (Nat.le_refl _)⟩
  · rw [List.mem_singleton] at hg
    subst hg
    exact ⟨by show 1 ≤ _; omega, one_len _, one_tx 3⟩
theorem gi_nil (w : World) : GI w none [] := ⟨fun k g hg => by simp at hg, by show 0 ≤ _; omega, fun g hg => by cases hg⟩
set_option maxRecDepth 100000 in
set_option maxHeartbeats 4000000 in
theorem lives_any (w : World) : Calls Try.prog 12 #[] w fun e w' => e = .returned (.bool true) ∧ Below w.heap.size w w' := by
  obtain ⟨w2, hw2⟩ : ∃ w2, w2 = (w.alloc (ndO (zN 3))).alloc (.cells #[.string ⟨#[115]⟩, .slice (some ⟨w.heap.size, 0, none⟩) 1 1] 57) := ⟨_, rfl⟩
  have HB2 : Hid (Below w.heap.size w w2) := by show Below _ _ _; rw [hw2]; exact (below_box w _).alloc (below_box w _).size _
  have H1 : Hid (∀ _ : Unit, Calls Try.prog 10 #[.agg #[.slice (some ⟨w.heap.size + 1, 0, none⟩) 1 1]] w2 fun e w' => e = .returned (.tuple #[.agg #[.int .i64 0, .int .i64 0], .int .i64 0]) ∧ Below w2.heap.size w2 w') := fun _ => by
    have h := checkP_any [((⟨#[115]⟩ : ByteArray), [zN 3])] (some ⟨w.heap.size + 1, 0, none⟩) 1 w2 (by rw [hw2]; exact gi_one w)
    rw [ckG_one] at h
    exact h
  have H2 : Hid (∀ W : World, Calls Try.prog 10 #[.agg #[.slice none 0 0]] W fun e w' => e = .returned (.tuple #[.agg #[.int .i64 0, .int .i64 0], .int .i64 3]) ∧ Below W.heap.size W w') := fun W => by
    have h := checkP_any [] none 0 W (gi_nil W)
    rw [ckG_nil] at h
    exact h
  have H3 : Hid (∀ W : World, Calls Try.prog 13 #[.string ⟨#[115]⟩] W fun e w' => e = .returned (.bool true) ∧ Below W.heap.size W w') := fun W => by
    have h := nameP_any ⟨#[115]⟩ (by show 1 ≤ _; omega) W
    rw [nmB_s] at h
    exact h
  go_enter Try.func12, Try.ntmps12
  go_wp2_with fail
  have e2 : (w.alloc (ndO (zN 3))).alloc (.cells #[.string ⟨#[115]⟩, .slice (some ⟨w.heap.size, 0, none⟩) 1 1] 57) = w2 := hw2.symm
  unfold zN ndO at e2
  rw [e2]
  clear e2 hw2
  refine (H1.out ()).mono ?_
  rintro e w3 ⟨rfl, b3⟩
  have HB3 := (show Hid (Below w.heap.size w w3) from HB2.out.trans (b3.mono HB2.out.size))
  clear b3 HB2 H1
  have HB4 := (show Hid (Below w.heap.size w (w3.alloc (.cells #[.int .i64 0, .int .i64 0] 27))) from HB3.out.alloc HB3.out.size _)
  clear HB3
  go_wp2_with fail
  refine (H2.out _).mono ?_
  rintro e w5 ⟨rfl, b5⟩
  have HB5 := (show Hid (Below w.heap.size w w5) from HB4.out.trans (b5.mono HB4.out.size))
  clear b5 HB4 H2
  have HB6 := (show Hid (Below w.heap.size w (w5.alloc (.cells #[.int .i64 0, .int .i64 0] 27))) from HB5.out.alloc HB5.out.size _)
  clear HB5
  go_wp2_with fail
  refine (H3.out _).mono ?_
  rintro e w7 ⟨rfl, b7⟩
  have HB7 := (show Hid (Below w.heap.size w w7) from HB6.out.trans (b7.mono HB6.out.size))
  clear b7 HB6 H3
  go_wp2_with fail
  go_ret
  exact ⟨rfl, HB7.out⟩
end Go.Proofs.Ytppggnmlbcdegaa.N

namespace Go.Proofs.Ytppggnmlbcdegaa.U
open Go.RowKit
theorem grow_alloc {W W' : World} {o : Obj} {row : Option Nat} (h : (W.alloc o).grownBy W' row) : W.grownBy W' row :=
  ⟨h.os, h.tape, h.output, Nat.le_trans (by rw [World.size_alloc]; omega) h.size, fun k hk hne => (h.block k (by rw [World.size_alloc]; omega) hne).trans (((Below.refl W.heap.size W).alloc (Nat.le_refl _) o).block k hk)⟩
theorem info_split {P : Program} {e : TypeId} {z : Value} {s b : Nat} (h : (P.info? e).map (fun i => (i.zero, i.size, i.bytes)) = some (some z, s, b)) : ∃ i, P.info? e = some i ∧ i.zero = some z ∧ i.size = s ∧ i.bytes = b := by
  cases hi : P.info? e with
  | none => rw [hi] at h; cases h
  | some i =>
    rw [hi] at h
    have h2 := Option.some.inj h
    exact ⟨i, rfl, congrArg Prod.fst h2, congrArg (fun x => x.2.1) h2, congrArg (fun x => x.2.2) h2⟩
/-- One more behind a row that the call owns. -/
theorem wpList_app1 {P : Program} {ops : Array Oper} {rest : List Oper} {o : Oper} {a : Act} {Q : Exit → Act → World → Prop} {W : World} {u : Value} {e : TypeId} (hgd : o.guard = none) (s x : Operand) (t : TypeId)
    (ho : o.op = .call { callee := .builtin .append, args := #[s, x], argTypes := #[t, t] }) (z : Value) (bytes : Nat) (ht : P.underlying t = some (.slice e)) (hi : (P.info? e).map (fun i => (i.zero, i.size, i.bytes)) = some (some z, 1, bytes)) (hzs : z.cells.size = 1)
    (base n : Nat) (v : Value) (xs : List Value) (hs : a.eval s = v) (hx : a.eval x = .slice (some ⟨W.heap.size, 0, none⟩) 1 1) (hown : W.ownsRow base e 1 v n xs) (h1 : u.oneCell' = true) (hn : n ≤ 1000000) (hb : bytes ≤ 64) (hbase : base ≤ W.heap.size)
    (h : ∀ g cap w', w'.ownsRow base e 1 (.slice (some ⟨g, 0, none⟩) (n + 1) cap) (n + 1) (xs ++ [u]) → W.grownBy w' v.ownBlock → (v.ownBlock = some g ∨ g = W.heap.size + 1) → g < w'.heap.size → wpList P ops Q rest (a.put o.dst (.slice (some ⟨g, 0, none⟩) (n + 1) cap)) w') :
    wpList P ops Q (o :: rest) a (W.alloc (.cells #[u] e)) := by
  obtain ⟨i, hinf, hz, hz1, hz2⟩ := info_split hi
  refine wpList_append_lies (W.alloc (.cells #[u] e)) hgd s x t ho base e i z 1 bytes ht hinf hz hz1 hz2 hzs (by decide) v n xs hs (hown.alloc _) ⟨W.heap.size, 0, none⟩ 1 1 [u] hx rfl ?_ (fun y hy => by rw [List.mem_singleton.1 hy]; exact h1) (by decide) ?_ ?_ ?_ (W.heap.size + 1) (by rw [World.size_alloc]) ?_
  · intro j y hy
    exact World.news_of_block (heap_alloc_new W (.cells #[u] e)) j y hy
  · unfold maxLen; omega
  · have : (n + 1) * bytes ≤ 1000001 * 64 := Nat.mul_le_mul (by omega) hb
    omega
  · rw [World.size_alloc]; omega
  · intro g cap w' h2 h3 h4 h5
    exact h g cap w' h2 (grow_alloc h3) h4 h5
theorem wpList_app1H {P : Program} {ops : Array Oper} {rest : List Oper} {o : Oper} {a : Act} {Q : Exit → Act → World → Prop} {W : World} {u : Value} {e : TypeId} (H : Nat) (hH : W.heap.size = H) (hgd : o.guard = none) (s x : Operand) (t : TypeId)
    (ho : o.op = .call { callee := .builtin .append, args := #[s, x], argTypes := #[t, t] }) (z : Value) (bytes : Nat) (ht : P.underlying t = some (.slice e)) (hi : (P.info? e).map (fun i => (i.zero, i.size, i.bytes)) = some (some z, 1, bytes)) (hzs : z.cells.size = 1)
    (base n : Nat) (v : Value) (xs : List Value) (hs : a.eval s = v) (hx : a.eval x = .slice (some ⟨H, 0, none⟩) 1 1) (hown : W.ownsRow base e 1 v n xs) (h1 : u.oneCell' = true) (hn : n ≤ 1000000) (hb : bytes ≤ 64) (hbase : base ≤ W.heap.size)
    (h : ∀ g cap w', w'.ownsRow base e 1 (.slice (some ⟨g, 0, none⟩) (n + 1) cap) (n + 1) (xs ++ [u]) → W.grownBy w' v.ownBlock → (v.ownBlock = some g ∨ g = H + 1) → g < w'.heap.size → wpList P ops Q rest (a.put o.dst (.slice (some ⟨g, 0, none⟩) (n + 1) cap)) w') :
    wpList P ops Q (o :: rest) a (W.alloc (.cells #[u] e)) := by
  subst hH
  exact wpList_app1 hgd s x t ho z bytes ht hi hzs base n v xs hs hx hown h1 hn hb hbase h
/-- Numbers as values. -/
def nI (x : Nat) : Value := .int .i64 (x : Int)
theorem own_get {W : World} {B e n : Nat} {v : Value} {xs : List Value} (h : W.ownsRow B e 1 v n xs) {j : Nat} {x : Value} (hj : xs[j]? = some x) : ∃ g cap, v = .slice (some ⟨g, 0, none⟩) n cap ∧ B ≤ g ∧ g < W.heap.size ∧ W.cell? ⟨g, j, none⟩ = some x ∧ W.frozen? ⟨g, j, none⟩ = false := by
  have hl := h.1
  have hj2 := (List.getElem?_eq_some_iff.1 hj).1
  obtain ⟨g, cap, rfl, hb, hg⟩ := h.form (by omega)
  exact ⟨g, cap, rfl, hb, hg, (h.cellAt j (by omega)).trans hj, h.frozenAt j⟩
theorem own_slice {W : World} {B e n : Nat} {v : Value} {xs : List Value} (h : W.ownsRow B e 1 v n xs) : ∃ A cap, v = .slice A n cap := by
  rcases h.2 with ⟨rfl, rfl⟩ | ⟨g, cap, cur, rfl, _⟩
  · exact ⟨_, _, rfl⟩
  · exact ⟨_, _, rfl⟩
/-- What is written lies behind a block: what stands ahead of it is as it was. -/
theorem below_grown {w W W' : World} {row : Option Nat} (h : Below w.heap.size w W) (hg : W.grownBy W' row) (hr : ∀ k, row = some k → w.heap.size ≤ k) : Below w.heap.size w W' := h.grown hg h.size (fun j hj => hr j hj)
end Go.Proofs.Ytppggnmlbcdegaa.U
