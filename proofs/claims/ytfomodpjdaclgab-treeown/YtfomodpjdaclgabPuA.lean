/- DERIVED. Walks: Put, by the program. -/
import Derived.Test.YtfomodpjdaclgabRiA
import Derived.Test.YtfomodpjdaclgabStC
import Derived.Test.YtfomodpjdaclgabTiP
namespace Go.Proofs.Ytfomodpjdaclgab
open Go.RowKit

theorem enters9 (args : Array Value) (w : World) : (callFunc 16 args).run Try.prog w = .ok (.enter 16 args) w := enters_of Try.func16 (by kernel_rfl) rfl args w
theorem enters41 (args : Array Value) (w : World) : (callFunc 24 args).run Try.prog w = .ok (.enter 24 args) w := enters_of Try.func24 (by kernel_rfl) rfl args w
theorem enters46 (args : Array Value) (w : World) : (callFunc 28 args).run Try.prog w = .ok (.enter 28 args) w := enters_of Try.func28 (by kernel_rfl) rfl args w
/-- A call with one argument as a step of a region that draws its order. -/
theorem step_call1 {F : Nat} (hen : ∀ args w, (callFunc F args).run Try.prog w = .ok (.enter F args) w) {ops : Array Oper} {o : Oper} {a : Act} {w : World} {K : Act → World → Prop} {Q : Exit → Act → World → Prop} {E : Prop} (hgd : o.guard = none) (x : Operand) (T : TypeId) (ho : o.op = .call { callee := .value (.func F), args := #[x], argTypes := #[T] }) (v : Value) (hx : a.eval x = v)
    (hc : Calls Try.prog F #[v] w fun e w' => ∃ r, e = .returned r ∧ K (a.put o.dst r) w') :
    if Region.wanted o (yielded ops a.tmps) = true then Oper.wp Try.prog o a w K Q else E := by
  have hw : Region.wanted o (yielded ops a.tmps) = true := by simp [Region.wanted, hgd]
  rw [if_pos hw]
  have he : (execOp a.eval o).run Try.prog w = .ok (.enter F #[v]) w := by
    unfold execOp
    simp [ho, go_sem, invoke, hen]
    rw [← hx]
    cases x <;> simp [Act.eval]
  unfold Oper.wp
  rw [he, Oper.upon_enter]
  refine hc.mono ?_
  rintro e w' ⟨r, rfl, hk⟩
  exact hk

/-- Another pattern in a part's place. -/
def putL (L : List Nd) (j : Nat) (M : List Nd) : List Nd := L.take (pt L j).1 ++ (M ++ L.drop (j + 1))
def puE (L : List Nd) (at' : Int) (M : List Nd) : Int := if fdE L at' ≠ 0 then fdE L at' else if (ck M).2 ≠ 0 then (ck M).2 else (ck (putL L at'.toNat M)).2
def puL (L : List Nd) (at' : Int) (M : List Nd) : List Nd := if puE L at' M = 0 then putL L at'.toNat M else []
def PuV (w w' : World) (L : List Nd) (at' : Int) (M : List Nd) (e : Ending) : Prop := ∃ v, e = .returned (.tuple #[v, .int .i64 (puE L at' M)]) ∧ w'.ownsRow w.heap.size 37 7 v (puL L at' M).length (ndc (puL L at' M))
theorem putL_len {L M : List Nd} {j : Nat} (hr : Rt L) (hm : Rt M) : (putL L j M).length ≤ 8192 := by
  have := hr.len
  have := hm.len
  unfold putL
  rw [List.length_append, List.length_append, List.length_take, List.length_drop]
  omega
theorem puL_len {L M : List Nd} {at' : Int} : (puL L at' M).length ≤ 8192 := by
  unfold puL
  split
  · next h =>
    unfold puE at h
    by_cases h1 : fdE L at' ≠ 0
    · rw [if_pos h1] at h; exact absurd h h1
    rw [if_neg h1] at h
    by_cases h2 : (ck M).2 ≠ 0
    · rw [if_pos h2] at h; exact absurd h h2
    exact putL_len (fdE_ok (Classical.byContradiction h1)).1 (rt_of (Classical.byContradiction h2))
  · simp
theorem putL_tx {L M : List Nd} {j B : Nat} (h1 : ∀ n ∈ L, n.tx.size ≤ B) (h2 : ∀ n ∈ M, n.tx.size ≤ B) : ∀ n ∈ putL L j M, n.tx.size ≤ B := fun n hn => by
  unfold putL at hn
  rcases List.mem_append.1 hn with h | h
  · exact h1 n (List.mem_of_mem_take h)
  rcases List.mem_append.1 h with h | h
  · exact h2 n h
  · exact h1 n (List.mem_of_mem_drop h)
theorem PuV.bad1 {w w' : World} {L M : List Nd} {at' : Int} (h : fdE L at' ≠ 0) : PuV w w' L at' M (.returned (.tuple #[.slice none 0 0, .int .i64 (fdE L at')])) := by
  have e : puE L at' M = fdE L at' := by unfold puE; rw [if_pos h]
  refine ⟨_, by rw [e], ?_⟩
  unfold puL
  rw [e, if_neg h]
  exact World.ownsRow_nil _ _ _ _
theorem PuV.bad2 {w w' : World} {L M : List Nd} {at' : Int} (h : fdE L at' = 0) (h2 : (ck M).2 ≠ 0) : PuV w w' L at' M (.returned (.tuple #[.slice none 0 0, .int .i64 (ck M).2])) := by
  have e : puE L at' M = (ck M).2 := by unfold puE; rw [if_neg (by rw [h]; simp), if_pos h2]
  refine ⟨_, by rw [e], ?_⟩
  unfold puL
  rw [e, if_neg h2]
  exact World.ownsRow_nil _ _ _ _
theorem PuV.end {w w' : World} {L M : List Nd} {at' : Int} {j : Nat} (hj : at' = j) (h : fdE L at' = 0) (h2 : (ck M).2 = 0) {v : Value} (hv : w'.ownsRow w.heap.size 37 7 v (if (ck (putL L j M)).2 = 0 then putL L j M else []).length (ndc (if (ck (putL L j M)).2 = 0 then putL L j M else []))) : PuV w w' L at' M (.returned (.tuple #[v, .int .i64 (ck (putL L j M)).2])) := by
  have e0 : at'.toNat = j := by omega
  have e : puE L at' M = (ck (putL L j M)).2 := by unfold puE; rw [if_neg (by rw [h]; simp), if_neg (by rw [h2]; simp), e0]
  refine ⟨v, by rw [e], ?_⟩
  unfold puL
  rw [e, e0]
  exact hv
theorem RiV.row {w w' : World} {B : Nat} {L : List Nd} {v : Value} {e : Ending} (h : RiV w w' B L v e) : ∃ u, e = .returned (.tuple #[u, .int .i64 (ck L).2]) ∧ w'.ownsRow B 37 7 u (if (ck L).2 = 0 then L else []).length (ndc (if (ck L).2 = 0 then L else [])) := by
  rcases h with ⟨h0, h1⟩ | ⟨h0, h1, h2⟩
  · rw [if_neg h0]
    exact ⟨_, h1, World.ownsRow_nil _ _ _ _⟩
  · rw [if_pos h0, h0]
    exact ⟨_, h1, h2⟩

set_option maxRecDepth 100000 in
set_option maxHeartbeats 8000000 in
theorem put_any (L M : List Nd) (Ap Aq : Option Addr) (cp cq : Nat) (at' : Int) (hcp : L.length ≤ cp) (hL : L.length ≤ 140737488355328) (hM : M.length ≤ 140737488355328) (hT : ∀ n ∈ L, n.tx.size ≤ 140737488355328) (hU : ∀ n ∈ M, n.tx.size ≤ 140737488355328) (w : World) (hp : RdN w Ap L) (hq : RdN w Aq M) :
    Calls Try.prog 14 #[.slice Ap L.length cp, .int .i64 at', .slice Aq M.length cq] w fun e w' => PuV w w' L at' M e ∧ Below w.heap.size w w' := by
  have HF : Hid (∀ _ : Unit, Calls Try.prog 23 #[.slice Ap L.length cp, .int .i64 at'] w fun e w' => FdV w w' L at' e ∧ Below w.heap.size w w') := fun _ => find_any L Ap cp at' hL hT w hp
  have HK : Hid (∀ W, Below w.heap.size w W → Calls Try.prog 12 #[.slice Aq M.length cq] W fun e w' => e = .returned (.tuple #[.int .i64 (ck M).1, .int .i64 (ck M).2]) ∧ Below W.heap.size W w') := fun W hW => check_any M Aq cq hM hU W (hq.below hW (Nat.le_refl _))
  have HP := (show Hid (RdN w Ap L) from hp)
  have HQ := (show Hid (RdN w Aq M) from hq)
  have HTx := (show Hid (∀ j, ∀ n ∈ putL L j M, n.tx.size ≤ 140737488355328) from fun j => putL_tx hT hU)
  clear hp hq hT hU
  go_enter Try.func14, Try.ntmps14
  go_wp2_with fail
  refine (HF.out ()).mono ?_
  rintro e w2 ⟨hv, b2⟩
  have HB := (show Hid (Below w.heap.size w w2) from b2)
  clear HF b2
  rcases hv with ⟨h0, rfl⟩ | ⟨h0, hr, j, hj, hjl, v, rfl, _⟩
  · have HI := (show Hid (fdE L at' ≠ 0) from h0)
    have t1 : (fdE L at' != 0) = true := by rw [bne, beq_eq_false_iff_ne.2 h0]; rfl
    clear h0 HP HQ HK
    go_wp2_with fail
    go_ret2
    exact ⟨PuV.bad1 HI.out, HB.out.alloc HB.out.size _⟩
  · have HI := (show Hid (fdE L at' = 0 ∧ at' = j ∧ Rt L) from ⟨h0, hj, hr⟩)
    have hpl := pt_le hr hjl
    have hlen := hr.len
    have HB2 := (show Hid (Below w.heap.size w (w2.alloc (.cells #[.int .i64 (pt L j).1, .int .i64 (pt L j).2.1, .int .i64 (pt L j).2.2] 52))) from HB.out.alloc HB.out.size _)
    have HBx := (show Hid (PB (w2.alloc (.cells #[.int .i64 (pt L j).1, .int .i64 (pt L j).2.1, .int .i64 (pt L j).2.2] 52)) w2.heap.size (pt L j).1 (pt L j).2.1 (pt L j).2.2) from PB.new _ _ _ _)
    subst hj
    clear h0 hr
    go_wp2_with fail
    refine (HK.out _ HB2.out).mono ?_
    rintro e w3 ⟨rfl, b3⟩
    have HB3 := (show Hid (Below w.heap.size w w3) from HB2.out.trans (b3.mono HB2.out.size))
    have HBx3 := (show Hid (PB w3 w2.heap.size (pt L j).1 (pt L j).2.1 (pt L j).2.2) from HBx.out.same (b3.block _ HBx.out.lt))
    clear HK b3 HB HB2 HBx
    by_cases hc : (ck M).2 = 0
    · have t1 : ((ck M).2 != 0) = false := by rw [hc]; rfl
      have HI2 := (show Hid ((ck M).2 = 0 ∧ Rt M) from ⟨hc, rt_of hc⟩)
      obtain ⟨gp, op, rfl, lp, cl⟩ := HP.out (by rintro rfl; simp at hjl)
      obtain ⟨A3, hA3, hrA3⟩ : ∃ A3, (if cp = j + 1 then (some (⟨gp, op, none⟩ : Addr)) else some ⟨gp, op + (j + 1) * 7, none⟩) = A3 ∧ ∀ W, Below w.heap.size w W → RdN W A3 (L.drop (j + 1)) := by
        refine ⟨_, rfl, fun W hW hne => ?_⟩
        have hll : j + 1 < L.length := by
          by_cases q : j + 1 < L.length
          · exact q
          · exact absurd (List.drop_eq_nil_of_le (by omega)) hne
        have h := sub_rd (cl.same (hW.block gp lp)) (Nat.lt_of_lt_of_le lp hW.size) (j + 1) L.length
        have e2 : cutL L (j + 1) L.length = L.drop (j + 1) := by unfold cutL; rw [List.take_of_length_le (by rw [List.length_drop]; omega)]
        rw [e2] at h
        rw [if_neg (by omega)]
        exact h hne
      have hrA1 : ∀ W, Below w.heap.size w W → RdN W (some ⟨gp, op, none⟩) (L.take (pt L j).1) := fun W hW => by
        have h := sub_rd (cl.same (hW.block gp lp)) (Nat.lt_of_lt_of_le lp hW.size) 0 (pt L j).1
        rw [Nat.zero_mul, Nat.add_zero] at h
        exact h
      have hr1 := HI.out.2.2
      have hr2 := HI2.out.2
      have htl : (L.take (pt L j).1).length = (pt L j).1 := by rw [List.length_take]; omega
      have hdl : (L.drop (j + 1)).length = L.length - (j + 1) := List.length_drop
      have HCh : Hid (∀ W1, Below w3.heap.size w3 W1 → Calls Try.prog 24 #[.slice (some ⟨W1.heap.size, 0, none⟩) 3 3] (W1.alloc (.cells #[.slice (some ⟨gp, op, none⟩) (pt L j).1 cp, .slice Aq M.length cq, .slice A3 (L.length - (j + 1)) (cp - (j + 1))] 23)) fun e w' => (∃ v, e = .returned v ∧ w'.ownsRow w.heap.size 37 7 v (putL L j M).length (ndc (putL L j M))) ∧ Below w.heap.size w w') := fun W1 hW1 => by
        have hB1 : Below w.heap.size w W1 := HB3.out.trans (hW1.mono HB3.out.size)
        have hB2 := hB1.alloc hB1.size (.cells #[.slice (some ⟨gp, op, none⟩) (pt L j).1 cp, .slice Aq M.length cq, .slice A3 (L.length - (j + 1)) (cp - (j + 1))] 23)
        have hh := heap_alloc_new W1 (.cells #[.slice (some ⟨gp, op, none⟩) (pt L j).1 cp, .slice Aq M.length cq, .slice A3 (L.length - (j + 1)) (cp - (j + 1))] 23)
        have h := chain_any [(some ⟨gp, op, none⟩, cp, L.take (pt L j).1), (Aq, cq, M), (A3, cp - (j + 1), L.drop (j + 1))] W1.heap.size 0 3 (by simp) (by
          intro p hp
          have := hr1.len
          have := hr2.len
          simp only [List.mem_cons, List.not_mem_nil, or_false] at hp
          rcases hp with rfl | rfl | rfl
          · show (L.take (pt L j).1).length ≤ 2048; omega
          · show M.length ≤ 2048; omega
          · show (L.drop (j + 1)).length ≤ 2048; omega) _ (fun i p hp => by
          match i, hp with
          | 0, hp =>
            cases hp
            refine ⟨?_, hrA1 _ hB2⟩
            rw [cell_of_row _ W1.heap.size _ _ 23 (0, 0) hh]
            show some _ = some (Value.slice _ (L.take (pt L j).1).length _)
            rw [htl]; rfl
          | 1, hp =>
            cases hp
            refine ⟨?_, HQ.out.below hB2 (Nat.le_refl _)⟩
            rw [cell_of_row _ W1.heap.size _ _ 23 (0, 0) hh]
            rfl
          | 2, hp =>
            cases hp
            refine ⟨?_, hrA3 _ hB2⟩
            rw [cell_of_row _ W1.heap.size _ _ 23 (0, 0) hh]
            show some _ = some (Value.slice _ (L.drop (j + 1)).length _)
            rw [hdl]; rfl
          | i + 3, hp => simp at hp)
        have hfl : flatL [((some ⟨gp, op, none⟩ : Option Addr), cp, L.take (pt L j).1), (Aq, cq, M), (A3, cp - (j + 1), L.drop (j + 1))] = putL L j M := by simp [flatL, putL]
        rw [hfl] at h
        refine h.mono fun e w' ⟨⟨v, e1, e2⟩, e3⟩ => ⟨⟨v, e1, own_base e2 hB2.size⟩, hB2.trans (e3.mono hB2.size)⟩
      have HRi : Hid (∀ W v, W.ownsRow w.heap.size 37 7 v (putL L j M).length (ndc (putL L j M)) → Calls Try.prog 28 #[v] W fun e w' => (∃ u, e = .returned (.tuple #[u, .int .i64 (ck (putL L j M)).2]) ∧ w'.ownsRow w.heap.size 37 7 u (if (ck (putL L j M)).2 = 0 then putL L j M else []).length (ndc (if (ck (putL L j M)).2 = 0 then putL L j M else []))) ∧ Below W.heap.size W w') := fun W v hv => (right_any (putL L j M) v _ (Nat.le_trans (putL_len hr1 hr2) (by omega)) (HTx.out j) W hv).mono fun e w' ⟨h1, h2⟩ => ⟨h1.row, h2⟩
      have p0 := HBx3.out.c0
      have z0 : (0 : Int) ≤ ((pt L j).1 : Int) := by omega
      have z1 : ((pt L j).1 : Int) ≤ (cp : Int) := by omega
      have hwr : IntKind.i64.wrap ((j : Int) + 1) = ((j + 1 : Nat) : Int) := by rw [show (j : Int) + 1 = ((j + 1 : Nat) : Int) from by omega, IntKind.wrap_i64]; omega
      obtain ⟨j1, hj1⟩ : ∃ j1, j1 = j + 1 := ⟨_, rfl⟩
      rw [← hj1] at hwr HCh hA3
      have z2 : (0 : Int) ≤ (j1 : Int) := by omega
      have z3 : (j1 : Int) ≤ (L.length : Int) := by omega
      clear hc hj1 hrA3 hrA1 htl hdl hr1 hr2 cl HQ HTx HBx3
      have HBd := (show Hid (Below w3.heap.size w3 w3.drew) from below_drewN (Below.refl _ _) 1)
      go_wp2_with fail
      go_region_law (first
        | (refine step_call1 enters41 rfl _ _ (by rfl) _ (by rfl) ?_; refine (HCh.out _ HBd.out).mono ?_; rintro e wA ⟨⟨vA, rfl, oA⟩, bA⟩; refine ⟨_, rfl, ?_⟩)
        | (refine step_call1 enters46 rfl _ _ (by rfl) _ (by rfl) ?_; refine (HRi.out _ _ oA).mono ?_; rintro e wC ⟨⟨vC, rfl, oC⟩, bC⟩; refine ⟨_, rfl, ?_⟩))
      all_goals
        go_wp2_with fail
        go_ret2
        exact ⟨PuV.end rfl HI.out.1 HI2.out.1 oC, bA.trans (bC.mono bA.size)⟩
    · have t1 : ((ck M).2 != 0) = true := by rw [bne, beq_eq_false_iff_ne.2 hc]; rfl
      have HI2 := (show Hid ((ck M).2 ≠ 0) from hc)
      clear hc HP HQ
      go_wp2_with fail
      go_ret2
      exact ⟨PuV.bad2 HI.out.1 HI2.out, HB3.out⟩
end Go.Proofs.Ytfomodpjdaclgab
