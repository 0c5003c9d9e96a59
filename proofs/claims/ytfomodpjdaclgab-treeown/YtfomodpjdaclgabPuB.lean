/- DERIVED. Walks: Put, by the document. -/
import Derived.Test.YtfomodpjdaclgabPuA
namespace Go.Proofs.Ytfomodpjdaclgab
open Go.RowKit

set_option maxRecDepth 100000 in
set_option maxHeartbeats 8000000 in
theorem putR_any (L M : List Nd) (Ap Aq : Option Addr) (cp cq : Nat) (at' : Int) (hcp : L.length ≤ cp) (hL : L.length ≤ 140737488355328) (hM : M.length ≤ 140737488355328) (hT : ∀ n ∈ L, n.tx.size ≤ 140737488355328) (hU : ∀ n ∈ M, n.tx.size ≤ 140737488355328) (w : World) (hp : RdN w Ap L) (hq : RdN w Aq M) :
    Calls Try.prog 18 #[.slice Ap L.length cp, .int .i64 at', .slice Aq M.length cq] w fun e w' => PuV w w' L at' M e ∧ Below w.heap.size w w' := by
  obtain ⟨i0, hinf, hz0, hz1, hz2⟩ := info_parts Try.info43
  have HF : Hid (∀ _ : Unit, Calls Try.prog 31 #[.slice Ap L.length cp, .int .i64 at'] w fun e w' => e = .returned (.tuple #[.int .i64 (bgE L at'), .int .i64 (fdE L at')]) ∧ Below w.heap.size w w') := fun _ => beginR_any L Ap cp at' hL hT w hp
  have HK : Hid (∀ W, Below w.heap.size w W → Calls Try.prog 33 #[.slice Aq M.length cq] W fun e w' => e = .returned (.tuple #[.int .i64 (ck M).1, .int .i64 (ck M).2]) ∧ Below W.heap.size W w') := fun W hW => checkR_any M Aq cq hM hU W (hq.below hW (Nat.le_refl _))
  have HP := (show Hid (RdN w Ap L) from hp)
  have HQ := (show Hid (RdN w Aq M) from hq)
  have HTx := (show Hid (∀ j, ∀ n ∈ putL L j M, n.tx.size ≤ 140737488355328) from fun j => putL_tx hT hU)
  clear hp hq hT hU
  go_enter Try.func18, Try.ntmps18
  go_wp2_with fail
  refine (HF.out ()).mono ?_
  rintro e w2 ⟨rfl, b2⟩
  have HB := (show Hid (Below w.heap.size w w2) from b2)
  clear HF b2
  by_cases h0 : fdE L at' = 0
  · obtain ⟨hr, j, hj, hjl⟩ := fdE_ok h0
    have HI := (show Hid (fdE L at' = 0 ∧ at' = j ∧ Rt L) from ⟨h0, hj, hr⟩)
    have hpl := pt_le hr hjl
    have hlen := hr.len
    have hbg : bgE L at' = ((pt L j).1 : Int) := by unfold bgE; rw [if_pos h0, hj]; rfl
    have t0 : (fdE L at' != 0) = false := by rw [h0]; rfl
    rw [hbg]
    subst hj
    clear h0 hr hbg
    go_wp2_with fail
    refine (HK.out _ HB.out).mono ?_
    rintro e w3 ⟨rfl, b3⟩
    have HB3 := (show Hid (Below w.heap.size w w3) from HB.out.trans (b3.mono HB.out.size))
    clear HK b3 HB
    by_cases hc : (ck M).2 = 0
    · have t1 : ((ck M).2 != 0) = false := by rw [hc]; rfl
      have HI2 := (show Hid ((ck M).2 = 0 ∧ Rt M) from ⟨hc, rt_of hc⟩)
      obtain ⟨gp, op, rfl, lp, cl⟩ := HP.out (by rintro rfl; simp at hjl)
      obtain ⟨gq, oq, rfl, lq, clq⟩ := HQ.out (by have h := (pt_last HI2.out.2).2; rintro rfl; simp at h)
      obtain ⟨A3, hA3, hrA3⟩ : ∃ A3 : Addr, (if cp = j + 1 then (some (⟨gp, op, none⟩ : Addr)) else some ⟨gp, op + (j + 1) * 7, none⟩) = some A3 ∧ ∀ W, Below w.heap.size w W → RdN W (some A3) (L.drop (j + 1)) := by
        by_cases hcj : cp = j + 1
        · exact ⟨⟨gp, op, none⟩, by rw [if_pos hcj], fun W hW hne => absurd (List.drop_eq_nil_of_le (by omega)) hne⟩
        · refine ⟨⟨gp, op + (j + 1) * 7, none⟩, by rw [if_neg hcj], fun W hW => ?_⟩
          have h := sub_rd (cl.same (hW.block gp lp)) (Nat.lt_of_lt_of_le lp hW.size) (j + 1) L.length
          have e2 : cutL L (j + 1) L.length = L.drop (j + 1) := by unfold cutL; rw [List.take_of_length_le (by rw [List.length_drop]; omega)]
          rw [e2] at h
          exact h
      have hrA1 : ∀ W, Below w.heap.size w W → RdN W (some ⟨gp, op, none⟩) (L.take (pt L j).1) := fun W hW => by
        have h := sub_rd (cl.same (hW.block gp lp)) (Nat.lt_of_lt_of_le lp hW.size) 0 (pt L j).1
        rw [Nat.zero_mul, Nat.add_zero] at h
        exact h
      have hr1 := HI.out.2.2
      have hr2 := HI2.out.2
      have hm2 := hr2.len
      have htl : (L.take (pt L j).1).length = (pt L j).1 := by rw [List.length_take]; omega
      have hdl : (L.drop (j + 1)).length = L.length - (j + 1) := List.length_drop
      have HCo : Hid (∀ _ : Unit, Calls Try.prog 32 #[.slice (some ⟨gp, op, none⟩) (pt L j).1 cp] w3 fun e w' => (∃ v, e = .returned v ∧ w'.ownsRow w.heap.size 37 7 v (pt L j).1 (ndc (L.take (pt L j).1))) ∧ Below w.heap.size w w') := fun _ => by
        have h := copy_any ⟨gp, op, none⟩ cp (L.take (pt L j).1) w3 (by omega) (hrA1 w3 HB3.out)
        rw [htl] at h
        exact h.mono fun e w' ⟨⟨v, e1, e2⟩, e3⟩ => ⟨⟨v, e1, own_base e2 HB3.out.size⟩, HB3.out.trans (e3.mono HB3.out.size)⟩
      have HCq := (show Hid (∀ W, Below w.heap.size w W → ∀ (i : Nat) u, (ndc M)[i]? = some u → W.cell? ((⟨gq, oq, none⟩ : Addr).add i) = some u) from fun W hW => in_cells (HQ.out.below hW (Nat.le_refl _)))
      have HCd := (show Hid (∀ W, Below w.heap.size w W → ∀ (i : Nat) u, (ndc (L.drop (j + 1)))[i]? = some u → W.cell? (A3.add i) = some u) from fun W hW => in_cells (hrA3 W hW))
      have HLq := (show Hid ((ndc M).length = M.length * 7 ∧ ∀ u ∈ ndc M, u.oneCell' = true) from ⟨ndc_len M, ndc_cell M⟩)
      have HLd := (show Hid ((ndc (L.drop (j + 1))).length = (L.length - (j + 1)) * 7 ∧ ∀ u ∈ ndc (L.drop (j + 1)), u.oneCell' = true) from ⟨by show (ndc _).length = _; rw [ndc_len, hdl], ndc_cell _⟩)
      have HEq := (show Hid (ndc (L.take (pt L j).1) ++ (ndc M ++ ndc (L.drop (j + 1))) = ndc (putL L j M) ∧ (pt L j).1 + M.length + (L.length - (j + 1)) = (putL L j M).length) from by
        refine ⟨?_, ?_⟩
        · unfold putL; rw [ndc_append, ndc_append]
        · unfold putL; rw [List.length_append, List.length_append, htl, hdl, Nat.add_assoc])
      have HCk : Hid (∀ W v, W.ownsRow w.heap.size 37 7 v (putL L j M).length (ndc (putL L j M)) → Calls Try.prog 33 #[v] W fun e w' => e = .returned (.tuple #[.int .i64 (ck (putL L j M)).1, .int .i64 (ck (putL L j M)).2]) ∧ Below W.heap.size W w') := fun W v hv => by
        obtain ⟨A, c, rfl, hrd⟩ := own_rd hv rfl
        exact checkR_any (putL L j M) A c (Nat.le_trans (putL_len hr1 hr2) (by omega)) (HTx.out j) W hrd
      have z0 : (0 : Int) ≤ ((pt L j).1 : Int) := by omega
      have z1 : ((pt L j).1 : Int) ≤ (cp : Int) := by omega
      have hwr : IntKind.i64.wrap ((j : Int) + 1) = ((j + 1 : Nat) : Int) := by rw [show (j : Int) + 1 = ((j + 1 : Nat) : Int) from by omega, IntKind.wrap_i64]; omega
      obtain ⟨j1, hj1⟩ : ∃ j1, j1 = j + 1 := ⟨_, rfl⟩
      rw [← hj1] at hwr HCd HLd HEq hA3
      have z2 : (0 : Int) ≤ (j1 : Int) := by omega
      have z3 : (j1 : Int) ≤ (L.length : Int) := by omega
      clear hc hj1 hrA3 hrA1 htl hdl hr1 hr2 cl clq HQ HTx HP
      go_wp2_with fail
      refine (HCo.out ()).mono ?_
      rintro e w4 ⟨⟨v4, rfl, ho4⟩, b4⟩
      have HB4 := (show Hid (Below w.heap.size w w4) from b4)
      have hs4 := b4.size
      have HCq4 := (show Hid _ from HCq.out _ b4)
      clear HCo b4 HCq
      go_wp2_with (at_builtin; refine wpList_append_own _ rfl _ _ 23 rfl w.heap.size 37 i0 zA 7 64 Try.underlying23 hinf hz0 hz1 hz2 rfl (by decide) _ _ _ rfl ho4 ⟨gq, oq, none⟩ M.length cq (ndc M) rfl HLq.out.1 HCq4.out HLq.out.2 ?c3 ?c4 ?c5 ?_)
      case c3 => unfold maxLen; omega
      case c4 => omega
      case c5 => omega
      intro v5 w5 ho5 hg5 _
      have HB5 := (show Hid (Below w.heap.size w w5) from HB4.out.grown hg5 hs4 (fun k e => (ho4.lt k e).1))
      have hs5 := HB5.out.size
      have HCd5 := (show Hid _ from HCd.out _ HB5.out)
      clear hg5 ho4 HB4 HCq4 HCd
      go_wp2_with (at_builtin; refine wpList_append_own _ rfl _ _ 23 rfl w.heap.size 37 i0 zA 7 64 Try.underlying23 hinf hz0 hz1 hz2 rfl (by decide) _ _ _ rfl ho5 A3 (L.length - j1) (cp - j1) (ndc (L.drop j1)) rfl HLd.out.1 HCd5.out HLd.out.2 ?c3 ?c4 ?c5 ?_)
      case c3 => unfold maxLen; omega
      case c4 => omega
      case c5 => omega
      intro v6 w6 ho6 hg6 _
      have HB6 := (show Hid (Below w.heap.size w w6) from HB5.out.grown hg6 hs5 (fun k e => (ho5.lt k e).1))
      rw [HEq.out.1, HEq.out.2] at ho6
      have HO6 := (show Hid (w6.ownsRow w.heap.size 37 7 v6 (putL L j M).length (ndc (putL L j M))) from ho6)
      clear hg6 ho5 ho6 HB5 HCd5 HEq HLq HLd
      go_wp2_with fail
      refine (HCk.out _ _ HO6.out).mono ?_
      rintro e w7 ⟨rfl, b7⟩
      have HB7 := (show Hid (Below w.heap.size w w7) from HB6.out.trans (b7.mono HB6.out.size))
      have HO7 := (show Hid (w7.ownsRow w.heap.size 37 7 v6 (putL L j M).length (ndc (putL L j M))) from own_below HO6.out b7)
      clear HCk b7 HO6 HB6
      by_cases hk : (ck (putL L j M)).2 = 0
      · have t2 : ((ck (putL L j M)).2 != 0) = false := by rw [hk]; rfl
        have HI3 := (show Hid ((ck (putL L j M)).2 = 0) from hk)
        clear hk
        go_wp2_with fail
        go_ret2
        refine ⟨?_, HB7.out⟩
        have h := PuV.end (w := w) (w' := w7) (v := v6) rfl HI.out.1 HI2.out.1 (by rw [if_pos HI3.out]; exact HO7.out)
        rw [HI3.out] at h
        exact h
      · have t2 : ((ck (putL L j M)).2 != 0) = true := by rw [bne, beq_eq_false_iff_ne.2 hk]; rfl
        have HI3 := (show Hid (¬ (ck (putL L j M)).2 = 0) from hk)
        clear hk
        go_wp2_with fail
        go_ret2
        exact ⟨PuV.end rfl HI.out.1 HI2.out.1 (by rw [if_neg HI3.out]; exact World.ownsRow_nil _ _ _ _), HB7.out⟩
    · have t1 : ((ck M).2 != 0) = true := by rw [bne, beq_eq_false_iff_ne.2 hc]; rfl
      have HI2 := (show Hid ((ck M).2 ≠ 0) from hc)
      clear hc HP HQ
      go_wp2_with fail
      go_ret2
      exact ⟨PuV.bad2 HI.out.1 HI2.out, HB3.out⟩
  · have HI := (show Hid (fdE L at' ≠ 0) from h0)
    have t1 : (fdE L at' != 0) = true := by rw [bne, beq_eq_false_iff_ne.2 h0]; rfl
    clear h0 HP HQ HK
    go_wp2_with fail
    go_ret2
    exact ⟨PuV.bad1 HI.out, HB.out⟩
end Go.Proofs.Ytfomodpjdaclgab
