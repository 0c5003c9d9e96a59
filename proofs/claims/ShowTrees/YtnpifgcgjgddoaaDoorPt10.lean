/- ShowTrees holds of any two patterns: a tree has a line for each node, and patterns that are not the same have trees that are not; the laid tables are tied to the program's text. -/
import Derived.Test.YtnpifgcgjgddoaaDoorPt09
namespace Go.Proofs.YtnpifgcgjgddoaaDoor.N
open Go.RowKit
set_option maxRecDepth 100000 in
set_option maxHeartbeats 16000000 in
theorem grammar_any (gs : List (ByteArray × List Nd)) (A : Option Addr) (c : Nat) (hl : gs.length ≤ 140737488355328) (hT : ∀ g ∈ gs, g.1.size ≤ 140737488355328 ∧ g.2.length ≤ 140737488355328 ∧ ∀ n ∈ g.2, n.tx.size ≤ 140737488355328) (hw : ∀ g ∈ gs, ∀ n ∈ g.2, NdW n) (w : World) (hp : GrD w A gs) :
    Calls Tryd.prog 8 #[.agg #[.slice A gs.length c]] w fun e w' => e = .returned (.tuple #[.string (grR gs).1, .int .i64 (grR gs).2]) ∧ Below w.heap.size w w' := by
  have HX := (show Hid (GX (w.alloc (.cells #[.slice A gs.length c] 39)) w.heap.size (.slice A gs.length c)) from GX.mk (heap_alloc_new w _))
  have HB0 := (show Hid (Below w.heap.size w (w.alloc (.cells #[.slice A gs.length c] 39))) from below_box _ _)
  have HC : Hid (∀ _ : Unit, Calls Tryd.prog 16 #[.slice A gs.length c] (w.alloc (.cells #[.slice A gs.length c] 39)) fun e w' => e = .returned (.int .i64 (wrR gs)) ∧ Below (w.alloc (.cells #[.slice A gs.length c] 39)).heap.size (w.alloc (.cells #[.slice A gs.length c] 39)) w') := fun _ => checkRules_any gs A c hl hT _ (hp.later (below_box _ _))
  by_cases hc : wrR gs = 0
  · have t0 : (wrR gs != 0) = false := by rw [hc]; rfl
    have HE := (show Hid (grR gs = lnR (grT gs)) from by show grR gs = _; unfold grR; rw [if_pos hc])
    obtain ⟨g1, g2, g3, g4⟩ := wr_ok hc
    have hmf : ∀ (fn : Fn) (first cap : Array Value) (w : World), (Instr.makeFunc fn first cap).run Tryd.prog w = .ok (.func fn first cap) w := fun _ _ _ _ => rfl
    have hsz : ∀ g ∈ gs, (T.ck g.2).2 = 0 ∧ g.1.size ≤ 32 := fun g hg => by
      obtain ⟨q1, q2⟩ := g3 g hg
      refine ⟨q1, ?_⟩
      rcases q2 with q | q
      · exact nm_len q
      · omega
    have hgl := gr_len gs hsz
    have HLe := (show Hid ((grT gs).length ≤ 20490000) from by show (grT gs).length ≤ 20490000; omega)
    have HNe := (show Hid (grT gs ≠ []) from by
      show grT gs ≠ []
      cases gs with
      | nil => simp at g1
      | cons g r =>
        intro e
        have : ((itT (lnI g) ++ [10]) ++ grT r : List UInt8) = [] := e
        simp at this)
    have HP := (show Hid (GrD w A gs) from hp)
    have HG := (show Hid (∀ k, k < gs.length → ∃ g, gs[k]? = some g ∧ T.Rt g.2 ∧ (∀ n ∈ g.2, NdW n) ∧ g.1.size ≤ 32) from fun k hk => ⟨_, List.getElem?_eq_getElem hk, T.rt_of (hsz _ (List.getElem_mem hk)).1, hw _ (List.getElem_mem hk), (hsz _ (List.getElem_mem hk)).2⟩)
    have HTk := (show Hid (gs.take gs.length = gs) from List.take_length)
    clear hc hp hT hw hsz hgl g1 g3 g4
    generalize wrR gs = wv at *
    have y0 := HX.out.cl
    go_enter Tryd.func8, Tryd.ntmps8
    go_wp2_with fail
    refine (HC.out ()).mono ?_
    rintro e w1 ⟨rfl, b1⟩
    have HB1 := (show Hid (Below w.heap.size w w1) from HB0.out.trans (b1.mono HB0.out.size))
    have HX1 := (show Hid (GX w1 w.heap.size (.slice A gs.length c)) from HX.out.below b1)
    have hs1 := HB1.out.size
    have hx1 := HX1.out.lt
    have HF := (show Hid (Lib.IsBuilder 47 5 w1.heap.size w1.heap.size (Lib.byteCells []) (w1.alloc (.cells #[.pointer none, .slice none 0 0] 47))) from Lib.fresh_isBuilder 47 5 w1)
    have HX2 := (show Hid (GX (w1.alloc (.cells #[.pointer none, .slice none 0 0] 47)) w.heap.size (.slice A gs.length c)) from HX1.out.below (below_box _ _))
    have HD := (show Hid (GrD w A gs ∧ Below w.heap.size w (w1.alloc (.cells #[.pointer none, .slice none 0 0] 47))) from ⟨HP.out, HB1.out.alloc hs1 _⟩)
    clear b1 HC HB0 HX HX1 HP y0
    have y1 := HX2.out.cl
    go_wp2_with fail
    generalize hpb : w1.heap.size = pb at *
    generalize w1.alloc (.cells #[.pointer none, .slice none 0 0] 47) = w2 at *
    have H0 := (show Hid (Pg pb w2 w2 (grT (gs.take 0))) from Pg.start HF.out)
    go_loopw [17] (fun t wr => ∃ k : Nat, k ≤ gs.length ∧ t = .int .i64 k ∧ Hid (Pg pb w2 wr (grT (gs.take k)))) (fun t _ => gs.length - (intOf t).toNat)
    case atStart => exact ⟨0, by omega, by go_num, H0⟩
    case round =>
      obtain ⟨k, hk, rfl, HW⟩ := hrel
      clear H0 HF y1
      by_cases hlt : k < gs.length
      · obtain ⟨g, hg, hrt, hwd, hn32⟩ := HG.out k hlt
        obtain ⟨b, o, A2, c2, rfl, lb, x0, x1, r2⟩ := HD.out.1 k g hg
        obtain ⟨gp, op, rfl, lp, nd⟩ := r2 (by rintro e; have := rt_pos hrt; rw [e] at this; simp at this)
        have lgp : gp < pb := by omega
        have key : ∀ b, b < w.heap.size → wr.heap[b]? = w.heap[b]? := fun b hb => (HW.out.bl.block b (by omega)).trans (HD.out.2.block b hb)
        have x0' : wr.cell? ⟨b, o + k * 2, none⟩ = some (.string g.1) := (World.cell?_of_block (a := ⟨b, o + k * 2, none⟩) (key b lb)).trans x0
        have x1' : wr.cell? ⟨b, o + k * 2 + 1, none⟩ = some (.slice (some ⟨gp, op, none⟩) g.2.length c2) := (World.cell?_of_block (a := ⟨b, o + k * 2 + 1, none⟩) (key b lb)).trans x1
        have HNd := (show Hid (T.NdL w2 gp op g.2) from nd.same (HD.out.2.block gp lp))
        have HRt := (show Hid (T.Rt g.2) from hrt)
        have HWd := (show Hid (∀ n ∈ g.2, NdW n) from hwd)
        have hle := grT_take gs (k + 1)
        rw [grT_succ hg, List.length_append, List.length_append, ln_text, List.length_append] at hle
        have hle2 := HLe.out
        have HGs := (show Hid (grT (gs.take (k + 1)) = grT (gs.take k) ++ (itT (lnI g) ++ [10])) from grT_succ hg)
        have z0 : (0 : Int) ≤ (k : Int) := by omega
        have z1 : (k : Int) < (gs.length : Int) := by omega
        have hwr := pg_lt HW.out.i
        have HW3 := (show Hid (Pg pb w2 (wr.alloc (.cells #[.string g.1, .slice (some ⟨gp, op, none⟩) g.2.length c2] 36)) (grT (gs.take k))) from HW.out.later (below_box _ _))
        have HBx := (show Hid (Fx (wr.alloc (.cells #[.string g.1, .slice (some ⟨gp, op, none⟩) g.2.length c2] 36)) pb wr.heap.size #[.string g.1, .slice (some ⟨gp, op, none⟩) g.2.length c2] 36) from ⟨⟨_, heap_alloc_new wr _⟩, by omega, by decide⟩)
        clear x0 x1 key nd hg hrt hwd HG HW r2
        by_cases hs0 : g.1.size = 0
        · have te : (g.1.toList == []) = true := by
            have e := T.emp_t hs0
            rw [List.isEmpty_iff] at e
            rw [e]; rfl
          have te2 := T.emp_t hs0
          have HLn := (show Hid (itT (lnI g) = itT (shI g.2)) from by show itT (lnI g) = _; rw [ln_text, if_pos hs0]; rfl)
          rw [if_pos hs0] at hle
          have HLl := (show Hid ((grT (gs.take k)).length + ((itT (shI g.2)).length + 1) ≤ 20490000) from by show (grT (gs.take k)).length + _ ≤ _; simp only [List.length_nil, List.length_singleton] at hle; omega)
          have HPq := HW3
          clear hle hle2 hs0 HBx
          have HTe : Hid (∀ _ : Unit, Calls Tryd.prog 10 #[.slice (some ⟨gp, op, none⟩) g.2.length c2, telV pb] (wr.alloc (.cells #[.string g.1, .slice (some ⟨gp, op, none⟩) g.2.length c2] 36)) fun e w' => (∃ tb, e = .returned (.pointer (some ⟨tb, 0, none⟩)) ∧ Tl w' pb tb g.2 gp op c2) ∧ Below (wr.alloc (.cells #[.string g.1, .slice (some ⟨gp, op, none⟩) g.2.length c2] 36)).heap.size (wr.alloc (.cells #[.string g.1, .slice (some ⟨gp, op, none⟩) g.2.length c2] 36)) w') := fun _ => newTeller_any g.2 pb gp op c2 (by have := HRt.out.len; omega) HRt.out.each _ (HNd.out.same (HPq.out.bl.block gp lgp)) lgp (pg_lt HPq.out.i)
          go_wp2_with fail
          refine (HTe.out ()).mono ?_
          rintro e w5 ⟨⟨tb, rfl, ht⟩, b5⟩
          have HP5 := (show Hid (Pg pb w2 w5 (grT (gs.take k))) from HPq.out.later b5)
          have HPa : Hid (∀ _ : Unit, Calls Tryd.prog 15 #[.pointer (some ⟨tb, 0, none⟩)] w5 fun e W' => e = .returned (.tuple #[]) ∧ Pg pb w5 W' ((grT (gs.take k)) ++ itT (shI g.2))) := fun _ => pattern_any HRt.out HWd.out w5 _ ht HP5.out.i (by have := HLl.out; omega)
          clear ht b5 HTe HPq
          go_wp2_with fail
          refine (HPa.out ()).mono ?_
          rintro e w6 ⟨rfl, p6⟩
          have HP6 := (show Hid (Pg pb w2 w6 ((grT (gs.take k)) ++ itT (shI g.2))) from HP5.out.trans p6)
          clear p6 HPa HP5
          go_wp2_with fail
          refine (tell_one ⟨#[10]⟩ HP6.out.i (by rw [List.length_append]; have := HLl.out; show _ + 1 ≤ _; omega)).mono ?_
          rintro e w7 ⟨rfl, p7⟩
          have HP7 := (show Hid (Pg pb w2 w7 (grT (gs.take (k + 1)))) from by
            show Pg pb w2 w7 _
            rw [HGs.out]
            have := HP6.out.trans p7
            rw [HLn.out, ← List.append_assoc]
            exact this)
          clear p7 HP6
          go_wp2_with fail
          go_roundw
          case rel => exact ⟨k + 1, by omega, by go_num, HP7⟩
          case measure => simp [intOf]; omega
        · have te : (g.1.toList == []) = false := by
            have e := T.emp_f hs0
            cases hl : g.1.toList with
            | nil => rw [hl] at e; cases e
            | cons x r => rfl
          have te2 := T.emp_f hs0
          have HLn := (show Hid (itT (lnI g) = (g.1.data.toList ++ [32, 60, 45, 32]) ++ itT (shI g.2)) from by show itT (lnI g) = _; rw [ln_text, if_neg hs0])
          rw [if_neg hs0, List.length_append] at hle
          have HLl := (show Hid ((grT (gs.take k)).length + ((g.1.data.toList.length + 4) + ((itT (shI g.2)).length + 1)) ≤ 20490000) from by show (grT (gs.take k)).length + _ ≤ _; simp only [List.length_singleton] at hle; have e4 : ([32, 60, 45, 32] : List UInt8).length = 4 := rfl; omega)
          clear hle hle2 hs0
          have HTw : Hid (∀ _ : Unit, Calls Tryd.prog 11 #[.pointer (some ⟨pb, 0, none⟩), .slice (some ⟨wr.heap.size + 1, 0, none⟩) 2 2] ((wr.alloc (.cells #[.string g.1, .slice (some ⟨gp, op, none⟩) g.2.length c2] 36)).alloc (.cells #[.string g.1, .string ⟨#[32, 60, 45, 32]⟩] 9)) fun e W' => e = .returned (.tuple #[]) ∧ Pg pb (wr.alloc (.cells #[.string g.1, .slice (some ⟨gp, op, none⟩) g.2.length c2] 36)) W' (grT (gs.take k) ++ (g.1.data.toList ++ [32, 60, 45, 32]))) := fun _ => by
            have h := tell_two g.1 ⟨#[32, 60, 45, 32]⟩ HW3.out.i (by
              have := HLl.out
              rw [List.length_append]
              have e4 : (⟨#[32, 60, 45, 32]⟩ : ByteArray).data.toList.length = 4 := rfl
              omega)
            rw [World.size_alloc] at h
            exact h
          go_wp2_with fail
          refine (HTw.out ()).mono ?_
          rintro e w4 ⟨rfl, p4⟩
          have HPq := (show Hid (Pg pb w2 w4 (grT (gs.take k) ++ (g.1.data.toList ++ [32, 60, 45, 32]))) from HW3.out.trans p4)
          have d1 : w4.cell? ⟨wr.heap.size, 1, none⟩ = some (.slice (some ⟨gp, op, none⟩) g.2.length c2) := (HBx.out.keep p4.k).cell 1
          clear p4 HW3 HBx HTw
          have HTe : Hid (∀ _ : Unit, Calls Tryd.prog 10 #[.slice (some ⟨gp, op, none⟩) g.2.length c2, telV pb] w4 fun e w' => (∃ tb, e = .returned (.pointer (some ⟨tb, 0, none⟩)) ∧ Tl w' pb tb g.2 gp op c2) ∧ Below w4.heap.size w4 w') := fun _ => newTeller_any g.2 pb gp op c2 (by have := HRt.out.len; omega) HRt.out.each _ (HNd.out.same (HPq.out.bl.block gp lgp)) lgp (pg_lt HPq.out.i)
          go_wp2_with fail
          refine (HTe.out ()).mono ?_
          rintro e w5 ⟨⟨tb, rfl, ht⟩, b5⟩
          have HP5 := (show Hid (Pg pb w2 w5 (grT (gs.take k) ++ (g.1.data.toList ++ [32, 60, 45, 32]))) from HPq.out.later b5)
          have HPa : Hid (∀ _ : Unit, Calls Tryd.prog 15 #[.pointer (some ⟨tb, 0, none⟩)] w5 fun e W' => e = .returned (.tuple #[]) ∧ Pg pb w5 W' ((grT (gs.take k) ++ (g.1.data.toList ++ [32, 60, 45, 32])) ++ itT (shI g.2))) := fun _ => pattern_any HRt.out HWd.out w5 _ ht HP5.out.i (by rw [List.length_append, List.length_append]; have := HLl.out; show _ + (_ + 4) ≤ _; omega)
          clear ht b5 HTe HPq
          go_wp2_with fail
          refine (HPa.out ()).mono ?_
          rintro e w6 ⟨rfl, p6⟩
          have HP6 := (show Hid (Pg pb w2 w6 ((grT (gs.take k) ++ (g.1.data.toList ++ [32, 60, 45, 32])) ++ itT (shI g.2))) from HP5.out.trans p6)
          clear p6 HPa HP5
          go_wp2_with fail
          refine (tell_one ⟨#[10]⟩ HP6.out.i (by rw [List.length_append]; rw [List.length_append, List.length_append]; have := HLl.out; show _ + (_ + 4) + _ + 1 ≤ _; omega)).mono ?_
          rintro e w7 ⟨rfl, p7⟩
          have HP7 := (show Hid (Pg pb w2 w7 (grT (gs.take (k + 1)))) from by
            show Pg pb w2 w7 _
            rw [HGs.out]
            have := HP6.out.trans p7
            rw [HLn.out, ← List.append_assoc, ← List.append_assoc]
            exact this)
          clear p7 HP6
          go_wp2_with fail
          go_roundw
          case rel => exact ⟨k + 1, by omega, by go_num, HP7⟩
          case measure => simp [intOf]; omega
      · obtain rfl : k = gs.length := by omega
        have HWh : Hid (∀ _ : Unit, Calls Tryd.prog 13 #[.pointer (some ⟨pb, 0, none⟩)] wr fun e w' => e = .returned (.tuple #[.string (lnR (grT gs)).1, .int .i64 (lnR (grT gs)).2]) ∧ Below pb wr w') := fun _ => by
          have h := HW.out
          rw [HTk.out] at h
          exact whole_any pb _ wr h.i HNe.out (by have := HLe.out; omega)
        have hle : w.heap.size ≤ pb := by omega
        clear HG
        go_wp2_with fail
        refine (HWh.out ()).mono ?_
        rintro e w4 ⟨rfl, b4⟩
        have HB4 := (show Hid (Below w.heap.size w w4) from (HD.out.2.trans (HW.out.bl.mono hle)).trans (b4.mono hle))
        clear b4 HWh HW HD
        go_wp2_with fail
        go_ret2
        exact ⟨by rw [HE.out]; rfl, HB4.out⟩
  · have t0 : (wrR gs != 0) = true := by rw [bne, beq_eq_false_iff_ne.2 hc]; rfl
    have HE := (show Hid (grR gs = (⟨#[]⟩, wrR gs)) from by show grR gs = _; unfold grR; rw [if_neg hc])
    clear hp hT hw hc
    generalize wrR gs = wv at *
    have y0 := HX.out.cl
    go_enter Tryd.func8, Tryd.ntmps8
    go_wp2_with fail
    refine (HC.out ()).mono ?_
    rintro e w1 ⟨rfl, b1⟩
    have HB1 := (show Hid (Below w.heap.size w w1) from HB0.out.trans (b1.mono HB0.out.size))
    clear b1 HC HX HB0 y0
    go_wp2_with fail
    go_ret2
    exact ⟨by rw [HE.out]; rfl, HB1.out⟩
end Go.Proofs.YtnpifgcgjgddoaaDoor.N

namespace Go.Proofs.YtnpifgcgjgddoaaDoor.N
open Go.RowKit
theorem nw_z {n : Nd} (h : n.s0 = 0 ∧ n.s1 = 0 ∧ n.s2 = 0 ∧ n.s3 = 0) : NdW n := by
  obtain ⟨a, b, c, d⟩ := h
  exact ⟨by omega, by omega, by omega, by omega⟩
end Go.Proofs.YtnpifgcgjgddoaaDoor.N

namespace Go.Proofs.YtnpifgcgjgddoaaDoor.N
open Go.RowKit
def wkA : List Nd := [⟨4, 0, ⟨#[97]⟩, 0, 0, 0, 0⟩, ⟨4, 0, ⟨#[98]⟩, 0, 0, 0, 0⟩, ⟨7, 0, ⟨#[]⟩, 0, 0, 0, 0⟩, ⟨9, 0, ⟨#[]⟩, 0, 0, 0, 0⟩]
def wkB : List Nd := [⟨4, 0, ⟨#[97]⟩, 0, 0, 0, 0⟩, ⟨9, 0, ⟨#[]⟩, 0, 0, 0, 0⟩, ⟨13, 0, ⟨#[]⟩, 0, 0, 0, 0⟩]
def wkC : List Nd := [⟨4, 0, ⟨#[97]⟩, 0, 0, 0, 0⟩, ⟨6, 0, ⟨#[115]⟩, 0, 0, 0, 0⟩, ⟨7, 0, ⟨#[]⟩, 0, 0, 0, 0⟩, ⟨1, 0, ⟨#[]⟩, 0, 0, 0, 0⟩, ⟨8, 0, ⟨#[]⟩, 0, 0, 0, 0⟩]
theorem wk_a : shR wkA = (⟨#[40, 39, 97, 39, 32, 39, 98, 39, 41, 42]⟩, 0) := by kernel_rfl
theorem wk_b : shR wkB = (⟨#[33, 39, 97, 39, 42]⟩, 0) := by kernel_rfl
theorem wk_c : grR [(⟨#[115]⟩, wkC)] = (⟨#[115, 32, 60, 45, 32, 39, 97, 39, 32, 115, 32, 47, 32, 37, 101, 10]⟩, 0) := by kernel_rfl
theorem wk_tx : ∀ n ∈ wkA ++ (wkB ++ wkC), n.tx.size ≤ 140737488355328 ∧ NdW n := by
  intro n hn
  have h : n.tx.size ≤ 1 ∧ n.s0 = 0 ∧ n.s1 = 0 ∧ n.s2 = 0 ∧ n.s3 = 0 := by
    simp only [wkA, wkB, wkC, List.cons_append, List.nil_append, List.mem_cons, List.not_mem_nil, or_false] at hn
    rcases hn with rfl | rfl | rfl | rfl | rfl | rfl | rfl | rfl | rfl | rfl | rfl | rfl <;> exact ⟨by decide, rfl, rfl, rfl, rfl⟩
  exact ⟨by omega, nw_z h.2⟩
set_option maxRecDepth 100000 in
set_option maxHeartbeats 4000000 in
theorem works_any (w : World) : Calls Tryd.prog 4 #[] w fun e w' => e = .returned (.bool true) ∧ Below w.heap.size w w' := by
  have HA := (show Hid (T.NB ((w.alloc (.cells #[.int .i64 4, .int .i64 0, .string ⟨#[97]⟩, .int .u64 0, .int .u64 0, .int .u64 0, .int .u64 0] 33)).alloc (.cells #[.int .i64 4, .int .i64 0, .string ⟨#[98]⟩, .int .u64 0, .int .u64 0, .int .u64 0, .int .u64 0] 33)) w.heap.size 0 ⟨4, 0, ⟨#[97]⟩, 0, 0, 0, 0⟩) from (T.nb_new w ⟨4, 0, ⟨#[97]⟩, 0, 0, 0, 0⟩).below (below_box _ _))
  have HB := (show Hid (T.NB ((w.alloc (.cells #[.int .i64 4, .int .i64 0, .string ⟨#[97]⟩, .int .u64 0, .int .u64 0, .int .u64 0, .int .u64 0] 33)).alloc (.cells #[.int .i64 4, .int .i64 0, .string ⟨#[98]⟩, .int .u64 0, .int .u64 0, .int .u64 0, .int .u64 0] 33)) (w.heap.size + 1) 0 ⟨4, 0, ⟨#[98]⟩, 0, 0, 0, 0⟩) from by
    have h := T.nb_new (w.alloc (.cells #[.int .i64 4, .int .i64 0, .string ⟨#[97]⟩, .int .u64 0, .int .u64 0, .int .u64 0, .int .u64 0] 33)) ⟨4, 0, ⟨#[98]⟩, 0, 0, 0, 0⟩
    rw [World.size_alloc] at h
    exact h)
  have HW := (show Hid (Below w.heap.size w ((w.alloc (.cells #[.int .i64 4, .int .i64 0, .string ⟨#[97]⟩, .int .u64 0, .int .u64 0, .int .u64 0, .int .u64 0] 33)).alloc (.cells #[.int .i64 4, .int .i64 0, .string ⟨#[98]⟩, .int .u64 0, .int .u64 0, .int .u64 0, .int .u64 0] 33))) from (below_box w _).alloc (below_box w _).size _)
  have H1 : Hid (∀ W : World, Calls Tryd.prog 7 #[.slice (some ⟨W.heap.size, 0, none⟩) 4 4] (W.alloc (.cells #[.int .i64 4, .int .i64 0, .string ⟨#[97]⟩, .int .u64 0, .int .u64 0, .int .u64 0, .int .u64 0, .int .i64 4, .int .i64 0, .string ⟨#[98]⟩, .int .u64 0, .int .u64 0, .int .u64 0, .int .u64 0, .int .i64 7, .int .i64 0, .string ⟨#[]⟩, .int .u64 0, .int .u64 0, .int .u64 0, .int .u64 0, .int .i64 9, .int .i64 0, .string ⟨#[]⟩, .int .u64 0, .int .u64 0, .int .u64 0, .int .u64 0] 33)) fun e w' => e = .returned (.tuple #[.string ⟨#[40, 39, 97, 39, 32, 39, 98, 39, 41, 42]⟩, .int .i64 0]) ∧ Below W.heap.size W w') := fun W => by
    have h := show_any wkA (some ⟨W.heap.size, 0, none⟩) 4 (by decide) (fun n hn => (wk_tx n (List.mem_append_left _ hn)).1) (fun n hn => (wk_tx n (List.mem_append_left _ hn)).2) (W.alloc (.cells #[.int .i64 4, .int .i64 0, .string ⟨#[97]⟩, .int .u64 0, .int .u64 0, .int .u64 0, .int .u64 0, .int .i64 4, .int .i64 0, .string ⟨#[98]⟩, .int .u64 0, .int .u64 0, .int .u64 0, .int .u64 0, .int .i64 7, .int .i64 0, .string ⟨#[]⟩, .int .u64 0, .int .u64 0, .int .u64 0, .int .u64 0, .int .i64 9, .int .i64 0, .string ⟨#[]⟩, .int .u64 0, .int .u64 0, .int .u64 0, .int .u64 0] 33)) (rd_row W wkA (by decide) _ rfl)
    rw [wk_a] at h
    exact h.mono fun e w' ⟨h1, h2⟩ => ⟨h1, (below_box W _).trans (h2.mono (below_box W _).size)⟩
  have H2 : Hid (∀ W : World, Calls Tryd.prog 7 #[.slice (some ⟨W.heap.size, 0, none⟩) 3 3] (W.alloc (.cells #[.int .i64 4, .int .i64 0, .string ⟨#[97]⟩, .int .u64 0, .int .u64 0, .int .u64 0, .int .u64 0, .int .i64 9, .int .i64 0, .string ⟨#[]⟩, .int .u64 0, .int .u64 0, .int .u64 0, .int .u64 0, .int .i64 13, .int .i64 0, .string ⟨#[]⟩, .int .u64 0, .int .u64 0, .int .u64 0, .int .u64 0] 33)) fun e w' => e = .returned (.tuple #[.string ⟨#[33, 39, 97, 39, 42]⟩, .int .i64 0]) ∧ Below W.heap.size W w') := fun W => by
    have h := show_any wkB (some ⟨W.heap.size, 0, none⟩) 3 (by decide) (fun n hn => (wk_tx n (List.mem_append_right _ (List.mem_append_left _ hn))).1) (fun n hn => (wk_tx n (List.mem_append_right _ (List.mem_append_left _ hn))).2) (W.alloc (.cells #[.int .i64 4, .int .i64 0, .string ⟨#[97]⟩, .int .u64 0, .int .u64 0, .int .u64 0, .int .u64 0, .int .i64 9, .int .i64 0, .string ⟨#[]⟩, .int .u64 0, .int .u64 0, .int .u64 0, .int .u64 0, .int .i64 13, .int .i64 0, .string ⟨#[]⟩, .int .u64 0, .int .u64 0, .int .u64 0, .int .u64 0] 33)) (rd_row W wkB (by decide) _ rfl)
    rw [wk_b] at h
    exact h.mono fun e w' ⟨h1, h2⟩ => ⟨h1, (below_box W _).trans (h2.mono (below_box W _).size)⟩
  have H3 : Hid (∀ W : World, Calls Tryd.prog 8 #[.agg #[.slice (some ⟨W.heap.size + 1, 0, none⟩) 1 1]] ((W.alloc (.cells #[.int .i64 4, .int .i64 0, .string ⟨#[97]⟩, .int .u64 0, .int .u64 0, .int .u64 0, .int .u64 0, .int .i64 6, .int .i64 0, .string ⟨#[115]⟩, .int .u64 0, .int .u64 0, .int .u64 0, .int .u64 0, .int .i64 7, .int .i64 0, .string ⟨#[]⟩, .int .u64 0, .int .u64 0, .int .u64 0, .int .u64 0, .int .i64 1, .int .i64 0, .string ⟨#[]⟩, .int .u64 0, .int .u64 0, .int .u64 0, .int .u64 0, .int .i64 8, .int .i64 0, .string ⟨#[]⟩, .int .u64 0, .int .u64 0, .int .u64 0, .int .u64 0] 33)).alloc (.cells #[.string ⟨#[115]⟩, .slice (some ⟨W.heap.size, 0, none⟩) 5 5] 36)) fun e w' => e = .returned (.tuple #[.string ⟨#[115, 32, 60, 45, 32, 39, 97, 39, 32, 115, 32, 47, 32, 37, 101, 10]⟩, .int .i64 0]) ∧ Below W.heap.size W w') := fun W => by
    have hb1 := below_box W (.cells #[.int .i64 4, .int .i64 0, .string ⟨#[97]⟩, .int .u64 0, .int .u64 0, .int .u64 0, .int .u64 0, .int .i64 6, .int .i64 0, .string ⟨#[115]⟩, .int .u64 0, .int .u64 0, .int .u64 0, .int .u64 0, .int .i64 7, .int .i64 0, .string ⟨#[]⟩, .int .u64 0, .int .u64 0, .int .u64 0, .int .u64 0, .int .i64 1, .int .i64 0, .string ⟨#[]⟩, .int .u64 0, .int .u64 0, .int .u64 0, .int .u64 0, .int .i64 8, .int .i64 0, .string ⟨#[]⟩, .int .u64 0, .int .u64 0, .int .u64 0, .int .u64 0] 33)
    have hb2 := below_box (W.alloc (.cells #[.int .i64 4, .int .i64 0, .string ⟨#[97]⟩, .int .u64 0, .int .u64 0, .int .u64 0, .int .u64 0, .int .i64 6, .int .i64 0, .string ⟨#[115]⟩, .int .u64 0, .int .u64 0, .int .u64 0, .int .u64 0, .int .i64 7, .int .i64 0, .string ⟨#[]⟩, .int .u64 0, .int .u64 0, .int .u64 0, .int .u64 0, .int .i64 1, .int .i64 0, .string ⟨#[]⟩, .int .u64 0, .int .u64 0, .int .u64 0, .int .u64 0, .int .i64 8, .int .i64 0, .string ⟨#[]⟩, .int .u64 0, .int .u64 0, .int .u64 0, .int .u64 0] 33)) (.cells #[.string ⟨#[115]⟩, .slice (some ⟨W.heap.size, 0, none⟩) 5 5] 36)
    have hnew := heap_alloc_new (W.alloc (.cells #[.int .i64 4, .int .i64 0, .string ⟨#[97]⟩, .int .u64 0, .int .u64 0, .int .u64 0, .int .u64 0, .int .i64 6, .int .i64 0, .string ⟨#[115]⟩, .int .u64 0, .int .u64 0, .int .u64 0, .int .u64 0, .int .i64 7, .int .i64 0, .string ⟨#[]⟩, .int .u64 0, .int .u64 0, .int .u64 0, .int .u64 0, .int .i64 1, .int .i64 0, .string ⟨#[]⟩, .int .u64 0, .int .u64 0, .int .u64 0, .int .u64 0, .int .i64 8, .int .i64 0, .string ⟨#[]⟩, .int .u64 0, .int .u64 0, .int .u64 0, .int .u64 0] 33)) (.cells #[.string ⟨#[115]⟩, .slice (some ⟨W.heap.size, 0, none⟩) 5 5] 36)
    rw [World.size_alloc] at hnew
    have hc : ∀ n ∈ wkC, n.tx.size ≤ 140737488355328 ∧ NdW n := fun n hn => wk_tx n (List.mem_append_right _ (List.mem_append_right _ hn))
    have h := grammar_any [(⟨#[115]⟩, wkC)] (some ⟨W.heap.size + 1, 0, none⟩) 1 (by decide) (fun g hg => by rw [List.mem_singleton.1 hg]; exact ⟨by decide, by decide, fun n hn => (hc n hn).1⟩) (fun g hg => by rw [List.mem_singleton.1 hg]; exact fun n hn => (hc n hn).2) ((W.alloc (.cells #[.int .i64 4, .int .i64 0, .string ⟨#[97]⟩, .int .u64 0, .int .u64 0, .int .u64 0, .int .u64 0, .int .i64 6, .int .i64 0, .string ⟨#[115]⟩, .int .u64 0, .int .u64 0, .int .u64 0, .int .u64 0, .int .i64 7, .int .i64 0, .string ⟨#[]⟩, .int .u64 0, .int .u64 0, .int .u64 0, .int .u64 0, .int .i64 1, .int .i64 0, .string ⟨#[]⟩, .int .u64 0, .int .u64 0, .int .u64 0, .int .u64 0, .int .i64 8, .int .i64 0, .string ⟨#[]⟩, .int .u64 0, .int .u64 0, .int .u64 0, .int .u64 0] 33)).alloc (.cells #[.string ⟨#[115]⟩, .slice (some ⟨W.heap.size, 0, none⟩) 5 5] 36)) (fun k g hg => by
      have hk : k = 0 := by have := (List.getElem?_eq_some_iff.1 hg).1; simp at this; exact this
      subst hk
      cases hg
      refine ⟨W.heap.size + 1, 0, some ⟨W.heap.size, 0, none⟩, 5, rfl, by rw [World.size_alloc, World.size_alloc]; omega, ?_, ?_, (rd_row W wkC (by decide) _ rfl).below hb2 (Nat.le_refl _)⟩
      · exact (Lib.cell_of_heap hnew 0)
      · exact (Lib.cell_of_heap hnew 1))
    rw [wk_c] at h
    exact h.mono fun e w' ⟨h1, h2⟩ => ⟨h1, ((hb1.trans (hb2.mono hb1.size))).trans (h2.mono (Nat.le_trans hb1.size hb2.size))⟩
  have H1' : Hid (∀ _ : Unit, Calls Tryd.prog 7 #[.slice (some ⟨w.heap.size + 1 + 1, 0, none⟩) 4 4] (((w.alloc (.cells #[.int .i64 4, .int .i64 0, .string ⟨#[97]⟩, .int .u64 0, .int .u64 0, .int .u64 0, .int .u64 0] 33)).alloc (.cells #[.int .i64 4, .int .i64 0, .string ⟨#[98]⟩, .int .u64 0, .int .u64 0, .int .u64 0, .int .u64 0] 33)).alloc (.cells #[.int .i64 4, .int .i64 0, .string ⟨#[97]⟩, .int .u64 0, .int .u64 0, .int .u64 0, .int .u64 0, .int .i64 4, .int .i64 0, .string ⟨#[98]⟩, .int .u64 0, .int .u64 0, .int .u64 0, .int .u64 0, .int .i64 7, .int .i64 0, .string ⟨#[]⟩, .int .u64 0, .int .u64 0, .int .u64 0, .int .u64 0, .int .i64 9, .int .i64 0, .string ⟨#[]⟩, .int .u64 0, .int .u64 0, .int .u64 0, .int .u64 0] 33)) fun e w' => e = .returned (.tuple #[.string ⟨#[40, 39, 97, 39, 32, 39, 98, 39, 41, 42]⟩, .int .i64 0]) ∧ Below ((w.alloc (.cells #[.int .i64 4, .int .i64 0, .string ⟨#[97]⟩, .int .u64 0, .int .u64 0, .int .u64 0, .int .u64 0] 33)).alloc (.cells #[.int .i64 4, .int .i64 0, .string ⟨#[98]⟩, .int .u64 0, .int .u64 0, .int .u64 0, .int .u64 0] 33)).heap.size ((w.alloc (.cells #[.int .i64 4, .int .i64 0, .string ⟨#[97]⟩, .int .u64 0, .int .u64 0, .int .u64 0, .int .u64 0] 33)).alloc (.cells #[.int .i64 4, .int .i64 0, .string ⟨#[98]⟩, .int .u64 0, .int .u64 0, .int .u64 0, .int .u64 0] 33)) w') := fun _ => by
    have h := H1.out ((w.alloc (.cells #[.int .i64 4, .int .i64 0, .string ⟨#[97]⟩, .int .u64 0, .int .u64 0, .int .u64 0, .int .u64 0] 33)).alloc (.cells #[.int .i64 4, .int .i64 0, .string ⟨#[98]⟩, .int .u64 0, .int .u64 0, .int .u64 0, .int .u64 0] 33))
    have e : ((w.alloc (.cells #[.int .i64 4, .int .i64 0, .string ⟨#[97]⟩, .int .u64 0, .int .u64 0, .int .u64 0, .int .u64 0] 33)).alloc (.cells #[.int .i64 4, .int .i64 0, .string ⟨#[98]⟩, .int .u64 0, .int .u64 0, .int .u64 0, .int .u64 0] 33)).heap.size = w.heap.size + 1 + 1 := by rw [World.size_alloc, World.size_alloc]
    rw [e] at h ⊢
    exact h
  clear H1
  go_enter Tryd.func4, Tryd.ntmps4
  go_wp2_with fail
  refine (H1'.out ()).mono ?_
  rintro e w2 ⟨rfl, b2⟩
  have HA2 := (show Hid _ from HA.out.below b2)
  have HW2 := (show Hid _ from HW.out.trans (b2.mono HW.out.size))
  obtain ⟨a0, a1, a2, a3, a4, a5, a6⟩ := HA2.out
  clear HA HB HW b2 H1'
  go_wp2_with fail
  refine (H2.out _).mono ?_
  rintro e w3 ⟨rfl, b3⟩
  have HA3 := (show Hid _ from HA2.out.below b3)
  have HW3 := (show Hid _ from HW2.out.trans (b3.mono HW2.out.size))
  clear a0 a1 a2 a3 a4 a5 a6 HA2 HW2 b3 H2
  obtain ⟨a0, a1, a2, a3, a4, a5, a6⟩ := HA3.out
  go_wp2_with fail
  refine (H3.out _).mono ?_
  rintro e w4 ⟨rfl, b4⟩
  have HW4 := (show Hid _ from HW3.out.trans (b4.mono HW3.out.size))
  clear a0 a1 a2 a3 a4 a5 a6 HA3 HW3 b4 H3
  go_wp2_with fail
  go_ret
  exact ⟨rfl, HW4.out⟩
end Go.Proofs.YtnpifgcgjgddoaaDoor.N

namespace Go.Proofs.YtnpifgcgjgddoaaDoor.N
open Go.RowKit
/-- The lines of a text's first bytes. -/
def cnL (s : ByteArray) : Nat → Nat
  | 0 => 0
  | i + 1 => cnL s i + if chr s i = 10 then 1 else 0
theorem nw_of {n : Nd} (h : T.SeW n) : NdW n := ⟨h.1, h.2.1, h.2.2.1, h.2.2.2⟩
theorem cnL_le (s : ByteArray) : ∀ i, cnL s i ≤ i := by
  intro i
  induction i with
  | zero => exact Nat.le_refl _
  | succ i ih => rw [cnL]; split <;> omega
theorem cnL_take (tx : List UInt8) : ∀ i, i ≤ tx.length → cnL (txO tx) i = (tx.take i).countP (fun c => c == 10) := by
  intro i
  induction i with
  | zero => intro _; rfl
  | succ i ih =>
    intro hi
    have hs : i < (txO tx).size := by rw [txO_size]; omega
    have hc : chr (txO tx) i = (tx[i].toNat : Int) := by
      rw [chr_in hs]
      have e : (txO tx)[i] = tx[i] := rfl
      rw [e]
    have ht : tx.take (i + 1) = tx.take i ++ [tx[i]] := by rw [List.take_add_one, List.getElem?_eq_getElem (by omega)]; rfl
    rw [cnL, ih (by omega), ht, List.countP_append, hc, List.countP_singleton]
    congr 1
    by_cases q : tx[i] = 10
    · rw [q]; rfl
    · have q2 : ¬ (tx[i].toNat : Int) = 10 := fun h => q (by
        apply UInt8.toNat_inj.1
        show tx[i].toNat = 10
        omega)
      rw [if_neg q2, if_neg (by simpa using q)]
theorem cn_tree {L : List Nd} (hr : T.Rt L) (hw : ∀ n ∈ L, NdW n) : cnL (txO (trT (trI L))) (txO (trT (trI L))).size = L.length := by
  rw [txO_size, cnL_take _ _ (Nat.le_refl _), List.take_length]
  exact tr_lines hr hw
theorem trR_rt {L : List Nd} (h : T.Rt L) : trR L = lnR (trT (trI L)) := by unfold trR; rw [if_pos (by rw [h.ck])]
theorem lnR_cases (l : List UInt8) : lnR l = (⟨#[]⟩, 2) ∨ (lnR l = (txO l, 0) ∧ l.length ≤ 65536) := by
  unfold lnR
  by_cases h : 65536 < l.length
  · rw [if_pos h]; exact .inl rfl
  · rw [if_neg h]; exact .inr ⟨rfl, by omega⟩
/-- Either nothing is told, or a right pattern's tree. -/
theorem tr_cases (L : List Nd) : (∃ c, c ≠ 0 ∧ trR L = (⟨#[]⟩, c)) ∨ (T.Rt L ∧ trR L = (txO (trT (trI L)), 0) ∧ (trT (trI L)).length ≤ 65536) := by
  by_cases hc : (T.ck L).2 = 0
  · have hr := T.rt_of hc
    rcases lnR_cases (trT (trI L)) with q | q
    · exact .inl ⟨2, by decide, by rw [trR_rt hr, q]⟩
    · exact .inr ⟨hr, by rw [trR_rt hr, q.1], q.2⟩
  · exact .inl ⟨_, hc, by unfold trR; rw [if_neg hc]⟩
set_option maxRecDepth 100000 in
set_option maxHeartbeats 8000000 in
theorem trees_no (L M : List Nd) (Ap Aq : Option Addr) (cp cq : Nat) (w : World) (c : Int) (hc : c ≠ 0) (t : ByteArray) (c2 : Int)
    (h1 : ∀ W, Below w.heap.size w W → Calls Tryd.prog 5 #[.slice Ap L.length cp] W fun e w' => e = .returned (.tuple #[.string ⟨#[]⟩, .int .i64 c]) ∧ Below W.heap.size W w')
    (h2 : ∀ W, Below w.heap.size w W → Calls Tryd.prog 5 #[.slice Aq M.length cq] W fun e w' => e = .returned (.tuple #[.string t, .int .i64 c2]) ∧ Below W.heap.size W w') :
    Calls Tryd.prog 3 #[.slice Ap L.length cp, .slice Aq M.length cq] w fun e w' => e = .returned (.bool true) ∧ Below w.heap.size w w' := by
  have HWk := (show Hid (∀ W, Calls Tryd.prog 4 #[] W fun e w' => e = .returned (.bool true) ∧ Below W.heap.size W w') from works_any)
  have H1 := (show Hid _ from h1)
  have H2 := (show Hid _ from h2)
  have t1 : (c != 0) = true := by rw [bne, beq_eq_false_iff_ne.2 hc]; rfl
  clear h1 h2 hc
  go_enter Tryd.func3, Tryd.ntmps3
  go_wp2_with fail
  refine (HWk.out _).mono ?_
  rintro e w1 ⟨rfl, b1⟩
  have HB1 := (show Hid (Below w.heap.size w w1) from b1)
  clear b1 HWk
  go_wp2_with fail
  refine (H1.out _ HB1.out).mono ?_
  rintro e w2 ⟨rfl, b2⟩
  have HB2 := (show Hid (Below w.heap.size w w2) from HB1.out.trans (b2.mono HB1.out.size))
  clear b2 HB1 H1
  go_wp2_with fail
  refine (H2.out _ HB2.out).mono ?_
  rintro e w3 ⟨rfl, b3⟩
  have HB3 := (show Hid (Below w.heap.size w w3) from HB2.out.trans (b3.mono HB2.out.size))
  clear b3 HB2 H2
  go_wp2_with fail
  go_ret
  exact ⟨rfl, HB3.out⟩
set_option maxRecDepth 100000 in
set_option maxHeartbeats 8000000 in
theorem trees_go (L M : List Nd) (Ap Aq : Option Addr) (cp cq : Nat) (w : World) (s t : ByteArray) (c2 : Int) (hs : s.size ≤ 65536) (hn : cnL s s.size = L.length)
    (h1 : ∀ W, Below w.heap.size w W → Calls Tryd.prog 5 #[.slice Ap L.length cp] W fun e w' => e = .returned (.tuple #[.string s, .int .i64 0]) ∧ Below W.heap.size W w')
    (h2 : ∀ W, Below w.heap.size w W → Calls Tryd.prog 5 #[.slice Aq M.length cq] W fun e w' => e = .returned (.tuple #[.string t, .int .i64 c2]) ∧ Below W.heap.size W w')
    (h3 : ∀ W, Below w.heap.size w W → Calls Tryd.prog 6 #[.slice Ap L.length cp, .slice Aq M.length cq] W fun e w' => e = .returned (.bool (T.patB L M)) ∧ Below W.heap.size W w')
    (h4 : c2 = 0 → ((s.toList == t.toList) == T.patB L M) = true) :
    Calls Tryd.prog 3 #[.slice Ap L.length cp, .slice Aq M.length cq] w fun e w' => e = .returned (.bool true) ∧ Below w.heap.size w w' := by
  have HWk := (show Hid (∀ W, Calls Tryd.prog 4 #[] W fun e w' => e = .returned (.bool true) ∧ Below W.heap.size W w') from works_any)
  have H1 := (show Hid _ from h1)
  have H2 := (show Hid _ from h2)
  have H3 := (show Hid _ from h3)
  have H4 := (show Hid _ from h4)
  have HN := (show Hid (cnL s s.size = L.length) from hn)
  have HLe := (show Hid (∀ i, cnL s i ≤ i) from cnL_le s)
  have HSu := (show Hid (∀ i, cnL s (i + 1) = cnL s i + if chr s i = 10 then 1 else 0) from fun i => rfl)
  clear h1 h2 h3 h4 hn
  go_enter Tryd.func3, Tryd.ntmps3
  go_wp2_with fail
  refine (HWk.out _).mono ?_
  rintro e w1 ⟨rfl, b1⟩
  have HB1 := (show Hid (Below w.heap.size w w1) from b1)
  clear b1 HWk
  go_wp2_with fail
  refine (H1.out _ HB1.out).mono ?_
  rintro e w2 ⟨rfl, b2⟩
  have HB2 := (show Hid (Below w.heap.size w w2) from HB1.out.trans (b2.mono HB1.out.size))
  clear b2 HB1 H1
  go_wp2_with fail
  refine (H2.out _ HB2.out).mono ?_
  rintro e w3 ⟨rfl, b3⟩
  have HB3 := (show Hid (Below w.heap.size w w3) from HB2.out.trans (b3.mono HB2.out.size))
  clear b3 HB2 H2
  go_wp2_with fail
  go_loopw [9, 10] (fun v u wr => ∃ i : Nat, i ≤ s.size ∧ u = .int .i64 i ∧ v = .int .i64 (cnL s i) ∧ wr = w3) (fun _ u _ => s.size - (intOf u).toNat)
  case atStart => exact ⟨0, by omega, by go_num, by go_num, rfl⟩
  case round =>
    obtain ⟨i, hi, rfl, rfl, rfl⟩ := hrel
    have z0 : (0 : Int) ≤ (i : Int) := by omega
    by_cases hlt : i < s.size
    · have z1 : (i : Int) < (s.size : Int) := by omega
      have hci := chr_in hlt
      have hle := HLe.out i
      by_cases h10 : chr s i = 10
      · have v : ((s[i].toNat : Int) == 10) = true := by rw [← hci]; exact beq_iff_eq.2 h10
        have HS := (show Hid (cnL s (i + 1) = cnL s i + 1) from by show cnL s (i + 1) = _; rw [HSu.out, if_pos h10])
        clear hci h10
        go_wp2_with fail
        go_roundw
        case rel => exact ⟨i + 1, by omega, by go_num, by rw [HS.out]; go_num, trivial⟩
        case measure => simp [intOf]; omega
      · have v : ((s[i].toNat : Int) == 10) = false := by rw [← hci]; exact beq_eq_false_iff_ne.2 h10
        have HS := (show Hid (cnL s (i + 1) = cnL s i) from by show cnL s (i + 1) = _; rw [HSu.out, if_neg h10]; rfl)
        clear hci h10
        go_wp2_with fail
        go_roundw
        case rel => exact ⟨i + 1, by omega, by go_num, by rw [HS.out], trivial⟩
        case measure => simp [intOf]; omega
    · have z1 : ¬ (i : Int) < (s.size : Int) := by omega
      obtain rfl : i = s.size := by omega
      have v : ((cnL s s.size : Int) == (L.length : Int)) = true := beq_iff_eq.2 (by rw [HN.out])
      by_cases hc2 : c2 = 0
      · have v2 : (c2 != 0) = false := by rw [hc2]; rfl
        have v4 := H4.out hc2
        clear hc2 H4 HSu HLe HN
        generalize cnL s s.size = cn at *
        go_wp2_with fail
        refine (H3.out _ HB3.out).mono ?_
        rintro e w4 ⟨rfl, b4⟩
        have HB4 := (show Hid (Below w.heap.size w w4) from HB3.out.trans (b4.mono HB3.out.size))
        clear b4 H3 HB3
        generalize T.patB L M = pb at *
        go_wp2_with fail
        go_ret
        exact ⟨by first | rfl | rw [v4]; rfl | simp_all, HB4.out⟩
      · have v2 : (c2 != 0) = true := by rw [bne, beq_eq_false_iff_ne.2 hc2]; rfl
        clear hc2 H4 HSu HLe HN H3
        generalize cnL s s.size = cn at *
        go_wp2_with fail
        go_ret
        exact ⟨rfl, HB3.out⟩
theorem trees_any (L M : List Nd) (Ap Aq : Option Addr) (cp cq : Nat) (hL : L.length ≤ 140737488355328) (hM : M.length ≤ 140737488355328) (hT : ∀ n ∈ L, n.tx.size ≤ 140737488355328) (hU : ∀ n ∈ M, n.tx.size ≤ 140737488355328) (hw : ∀ n ∈ L, NdW n) (hv : ∀ n ∈ M, NdW n) (w : World) (hwt : WT w) (h0 : 0 < w.heap.size) (hp : T.RdN w Ap L) (hq : T.RdN w Aq M) :
    Calls Tryd.prog 3 #[.slice Ap L.length cp, .slice Aq M.length cq] w fun e w' => e = .returned (.bool true) ∧ Below w.heap.size w w' := by
  have a1 : ∀ W, Below w.heap.size w W → Calls Tryd.prog 5 #[.slice Ap L.length cp] W fun e w' => e = .returned (.tuple #[.string (trR L).1, .int .i64 (trR L).2]) ∧ Below W.heap.size W w' := fun W hW => showTree_any L Ap cp hL hT hw W (hwt.below hW h0) (Nat.lt_of_lt_of_le h0 hW.size) (hp.below hW (Nat.le_refl _))
  have a2 : ∀ W, Below w.heap.size w W → Calls Tryd.prog 5 #[.slice Aq M.length cq] W fun e w' => e = .returned (.tuple #[.string (trR M).1, .int .i64 (trR M).2]) ∧ Below W.heap.size W w' := fun W hW => showTree_any M Aq cq hM hU hv W (hwt.below hW h0) (Nat.lt_of_lt_of_le h0 hW.size) (hq.below hW (Nat.le_refl _))
  rcases tr_cases L with ⟨c, hc, e⟩ | ⟨hr, e, hl⟩
  · rw [e] at a1
    exact trees_no L M Ap Aq cp cq w c hc _ _ a1 a2
  · rw [e] at a1
    refine trees_go L M Ap Aq cp cq w _ _ _ (by rw [txO_size]; exact hl) (cn_tree hr hw) a1 a2 (fun W hW => T.same_any Ap Aq cp cq L M hL hM W (hp.below hW (Nat.le_refl _)) (hq.below hW (Nat.le_refl _))) fun h => ?_
    rcases tr_cases M with ⟨c, hc, e2⟩ | ⟨hr2, e2, _⟩
    · rw [e2] at h; exact absurd h hc
    · rw [e2]
      show (((txO (trT (trI L))).toList == (txO (trT (trI M))).toList) == T.patB L M) = true
      by_cases q : L = M
      · subst q
        rw [T.patB_refl]
        simp
      · have q2 : T.patB L M = false := by unfold T.patB; exact @decide_eq_false _ (T.decPt _ _) q
        have q3 : ((txO (trT (trI L))).toList == (txO (trT (trI M))).toList) = false := beq_eq_false_iff_ne.2 fun h => q (by
          have h2 := T.tx_ext h
          have h3 : (txO (trT (trI L))).data.toList = (txO (trT (trI M))).data.toList := by rw [h2]
          exact tr_same hr hr2 hw hv h3)
        rw [q2, q3]
        rfl
end Go.Proofs.YtnpifgcgjgddoaaDoor.N

namespace Go.Proofs.YtnpifgcgjgddoaaDoor
open Go.ChangeShapes Go.WideShapes Go.ChangeAt Go.RowKit
open Go.ChangeMaps (open_string shut_string)
set_option maxRecDepth 100000 in
theorem showTrees_contract (H : Type) (enc : TypeId × Value → H) (W : World) (base : Nat) (args : Array Value) (ds gs : List (DataW H)) (before : List MemPlace)
    (hval0 : ∀ (j : Nat) t v, Tryd.f3.params[j]? = some t → args[j]? = some v → Value.okWide Tryd.prog W .any base t v)
    (hW : DataW.Whole enc Tryd.prog Tryd.f3.params.toList Rows.showTreesSpec.vars false W args.toList ds gs before) (hvb : N.WT W)
    (hsz : (DataW.weightsEach Tryd.prog (Tryd.f3.params.toList ++ (OpenSpec.ofChange Rows.showTreesSpec).bare.plain.varTypes Tryd.prog) (ds ++ gs)).all (· ≤ reachBytes) = true) :
    Calls Tryd.prog 3 args W fun e W' => ∃ v, e = .returned v ∧ Rows.showTreesSpec.post enc Tryd.prog Tryd.f3 false true false false W args v W' := by
  have hval : ∀ (j : Nat) t v, Tryd.f3.params[j]? = some t → args[j]? = some v → Value.okWide Tryd.prog W .any base t v := hval0
  have hW' := hW
  obtain ⟨p, q, hA0, hV, rfl, hfz, hnd⟩ := hW
  have hA : DataW.TrodAll enc Tryd.prog W 0 (fun _ => true) true Tryd.f3.params.toList args.toList ds p := hA0
  rw [Tryd.params3] at hA hval hsz
  obtain ⟨v0, v1, d0, d1, p0, p1, rfl, rfl, rfl, h0, h1⟩ := trodAll_two hA
  obtain ⟨rfl, rfl⟩ := trodVars_none hV
  have lt0 : ∀ x ∈ p0, x.block < W.heap.size := by obtain ⟨m, hm⟩ := h0; exact DataW.trod_lt m _ _ _ hm
  obtain ⟨A0, c0, L0, rfl, r0, nl0, s0, w0⟩ := T.open_pat h0 (okWide_slice Tryd.underlying23 (hval 0 23 v0 rfl rfl))
  obtain ⟨a0, b0⟩ := s0 (T.sized_at hsz (j := 0) rfl rfl)
  have lt1 : ∀ x ∈ p1, x.block < W.heap.size := by obtain ⟨m, hm⟩ := h1; exact DataW.trod_lt m _ _ _ hm
  obtain ⟨A1, c1, L1, rfl, r1, nl1, s1, w1⟩ := T.open_pat h1 (okWide_slice Tryd.underlying23 (hval 1 23 v1 rfl rfl))
  obtain ⟨a1, b1⟩ := s1 (T.sized_at hsz (j := 1) rfl rfl)
  clear hA0 hval0
  refine (N.trees_any L0 L1 A0 A1 c0 c1 (by omega) (by omega) (fun n hn => by have := b0 n hn; omega) (fun n hn => by have := b1 n hn; omega) (fun n hn => N.nw_of (w0 n hn)) (fun n hn => N.nw_of (w1 n hn)) W hvb (World.block_lt_of_cell? W _ (hvb.c 1 (by omega) (by omega))) r0 r1).mono fun e W' ⟨he, bel⟩ => ?_
  subst he
  exact ⟨_, rfl, _, _, _, [], _, [], hW', trodAll_mk1 (shut_bool Tryd.underlying4 _), (trodAll_cons_mk (Below.trod laidOut (by kernel_rfl) (of_decide_eq_true (by kernel_rfl)) h0 bel lt0) (trodAll_cons_mk (Below.trod laidOut (by kernel_rfl) (of_decide_eq_true (by kernel_rfl)) h1 bel lt1) trodAll_mk0)), rfl, bel.frame _, fun h => by cases h⟩

theorem showTrees_met (os : Os) : laidMet Tryd.prog Rows.showTreesRow.laid ((layTab (World.holding Tryd.prog os ⟨#[], #[], []⟩)).forCall (fun _ _ => 0) ⟨#[], #[.slice none 0 0, .slice none 0 0], []⟩).memory :=
  laidMet_of_run' 8 (by kernel_rfl) (by kernel_rfl)
theorem showTrees_reads (os : Os) {H : Type} (enc : TypeId × Value → H) : ∃ places, DataW.whole enc Tryd.prog ((layTab (World.holding Tryd.prog os ⟨#[], #[], []⟩)).forCall (fun _ _ => 0) ⟨#[], #[.slice none 0 0, .slice none 0 0], []⟩).memory Tryd.f3.params.toList Rows.showTreesSpec.vars false (#[.slice none 0 0, .slice none 0 0] : Array Value).toList 8 = some ([.nil, .nil], [], places) :=
  ⟨[], by kernel_rfl⟩

set_option maxRecDepth 100000 in
theorem showTrees_lifted (os : Os) (started : os.Started) (H : Type) (enc : TypeId × Value → H) (F : Stop.Interp) :
    ReturnsInHanded {} Tryd.checked os 3 .any ((OpenSpec.ofChange Rows.showTreesSpec).preRow enc Tryd.prog Tryd.f3 Rows.showTreesRow.domain false Rows.showTreesRow.laid) (((OpenSpec.ofChange Rows.showTreesSpec).at F).post enc Tryd.prog Tryd.f3 false true false false) := by
  obtain ⟨places, hx⟩ := showTrees_reads os enc
  refine returnsInHanded_of_row (C := Tryd.checked) (s := OpenSpec.ofChange Rows.showTreesSpec) own started (by kernel_rfl) Tryd.func3
    (witness_row_at (enc := enc) (C := Tryd.checked) false (layTab (World.holding Tryd.prog os ⟨#[], #[], []⟩)) #[.slice none 0 0, .slice none 0 0] rfl (by kernel_rfl) (by kernel_rfl) (by kernel_rfl)
      (OpenSpec.preRow_of_cond 8 hx (by kernel_rfl) (fun k hk => by cases hk) (by kernel_rfl) (showTrees_met os))) ?_
  intro W base args ds gs before hval hW _ hcond hsz hL _ _
  exact showTrees_contract H enc W base args ds gs before hval hW (wt_of_laid hL) hsz

theorem showTrees_row : Rows.ShowTreesSaid :=
  OpenClaim.holds_of_cond 3 Tryd.f3 rfl rfl rfl rfl rfl rfl rfl ⟨rfl, rfl, rfl, rfl, rfl⟩ rfl rfl rfl rfl rfl (by kernel_rfl) Tryd.func3 (by kernel_rfl)
    (of_decide_eq_true (by kernel_rfl)) (by unfold Func.isWrapper; first | (rw [if_pos (by decide +kernel)]; kernel_rfl) | (rw [if_neg (by decide +kernel)]; exact ⟨rfl, rfl⟩))
    (fun os started H enc _ F => by rw [OpenClaim.pre_eq_preRow]; exact showTrees_lifted os started H enc F)
theorem showTrees_plain (f : FuncId) (fn : Func) (hf : Tryd.pinned.checked.prog.funcNamed "harrow/harrowlaw07.ShowTrees" = some f) (hfn : Tryd.pinned.checked.prog.funcs[f]? = some fn) :
    false = Tryd.pinned.checked.prog.looks [] ∧ ∀ (j : Nat) t, fn.params[j]? = some t → Tryd.pinned.checked.prog.wantsStandIn t = false := by
  obtain rfl : f = 3 := Option.some.inj ((show Tryd.prog.funcNamed "harrow/harrowlaw07.ShowTrees" = some 3 by kernel_rfl).symm.trans hf) |>.symm
  obtain rfl : fn = Tryd.f3 := (Option.some.inj (Tryd.func3.symm.trans hfn)).symm
  refine ⟨by kernel_rfl, fun j t ht => ?_⟩
  rw [Tryd.params3] at ht
  have hm : t ∈ [23, 23] := by simpa using Array.mem_of_getElem? ht
  have hall : ([23, 23].all fun u => !Tryd.prog.wantsStandIn u) = true := by kernel_rfl
  exact (show Tryd.prog.wantsStandIn t = false by simpa using List.all_eq_true.1 hall t hm)
theorem showTrees_holds : Rows.ShowTreesCardSaid :=
  Claim7.holds_tied_plain_at .later [] _ _ _ _ showTrees_row (fun _ h => by cases h) (by kernel_rfl) (fun _ h => by cases h) showTrees_row_tie rfl ⟨rfl, rfl⟩ (by kernel_rfl) rfl showTrees_plain (by kernel_rfl)
end Go.Proofs.YtnpifgcgjgddoaaDoor
