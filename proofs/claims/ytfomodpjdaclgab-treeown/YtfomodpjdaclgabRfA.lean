/- DERIVED. Walks: look, Begin, Kids, Parts, Height, by the document. -/
import Derived.Test.YtfomodpjdaclgabFdB
namespace Go.Proofs.Ytfomodpjdaclgab
open Go.RowKit

set_option maxRecDepth 100000 in
set_option maxHeartbeats 4000000 in
theorem look_any (L : List Nd) (Ap : Option Addr) (cp : Nat) (at' : Int) (hL : L.length ≤ 140737488355328) (hT : ∀ n ∈ L, n.tx.size ≤ 140737488355328) (w : World) (hp : RdN w Ap L) :
    Calls Try.prog 41 #[.slice Ap L.length cp, .int .i64 at'] w fun e w' => e = .returned (.int .i64 (fdE L at')) ∧ Below w.heap.size w w' := by
  have HC : Hid (∀ _ : Unit, Calls Try.prog 33 #[.slice Ap L.length cp] w fun e w' => e = .returned (.tuple #[.int .i64 (ck L).1, .int .i64 (ck L).2]) ∧ Below w.heap.size w w') := fun _ => checkR_any L Ap cp hL hT w hp
  clear hp hT
  have HE : Hid (fdE L at' = if (ck L).2 ≠ 0 then (ck L).2 else if at' < 0 ∨ (L.length : Int) ≤ at' then 1 else 0) := rfl
  go_enter Try.func41, Try.ntmps41
  go_wp2_with fail
  refine (HC.out ()).mono ?_
  rintro e w2 ⟨rfl, b2⟩
  have HB := (show Hid (Below w.heap.size w w2) from b2)
  clear HC b2
  by_cases hc : (ck L).2 = 0
  · have t1 : ((ck L).2 != 0) = false := by rw [hc]; rfl
    by_cases h1 : at' < 0
    · have HI := (show Hid (fdE L at' = 1) from by show fdE L at' = _; rw [HE.out, if_neg (fun q => q hc), if_pos (.inl h1)])
      clear hc HE
      generalize (ck L).2 = ce at *
      go_wp2_with fail
      go_ret
      exact ⟨by rw [HI.out]; rfl, HB.out⟩
    by_cases h2 : (L.length : Int) ≤ at'
    · have HI := (show Hid (fdE L at' = 1) from by show fdE L at' = _; rw [HE.out, if_neg (fun q => q hc), if_pos (.inr h2)])
      clear hc HE
      generalize (ck L).2 = ce at *
      go_wp2_with fail
      go_ret
      exact ⟨by rw [HI.out]; rfl, HB.out⟩
    · have HI := (show Hid (fdE L at' = 0) from by show fdE L at' = _; rw [HE.out, if_neg (fun q => q hc), if_neg (by omega)])
      clear hc HE
      generalize (ck L).2 = ce at *
      go_wp2_with fail
      go_ret
      exact ⟨by rw [HI.out]; rfl, HB.out⟩
  · have HI := (show Hid (fdE L at' = (ck L).2) from by show fdE L at' = _; rw [HE.out, if_pos hc])
    have t1 : ((ck L).2 != 0) = true := by rw [bne, beq_eq_false_iff_ne.2 hc]; rfl
    clear hc HE
    generalize (ck L).2 = ce at *
    go_wp2_with fail
    go_ret
    exact ⟨by rw [HI.out]; rfl, HB.out⟩
theorem fdE_ok {L : List Nd} {at' : Int} (h : fdE L at' = 0) : Rt L ∧ ∃ j : Nat, at' = j ∧ j < L.length := by
  unfold fdE at h
  by_cases hc : (ck L).2 = 0
  · rw [if_neg (fun q => q hc)] at h
    by_cases h1 : at' < 0 ∨ (L.length : Int) ≤ at'
    · rw [if_pos h1] at h; cases h
    · exact ⟨rt_of hc, at'.toNat, by omega, by omega⟩
  · rw [if_pos hc] at h; exact absurd h hc
theorem FrV.ok {w w' : World} {L : List Nd} {e : Ending} (h : FrV w w' L e) (hr : Rt L) : ∃ v1 v2, e = .returned (.tuple #[v1, v2, .int .i64 0, .int .i64 0]) ∧ AtF L w w' L.length v1 v2 := by
  rcases h with ⟨k, hk, _, h2, _⟩ | ⟨_, h⟩
  · exact absurd (hr.each k hk) h2
  · exact h

set_option maxRecDepth 100000 in
set_option maxHeartbeats 4000000 in
theorem beginR_any (L : List Nd) (Ap : Option Addr) (cp : Nat) (at' : Int) (hL : L.length ≤ 140737488355328) (hT : ∀ n ∈ L, n.tx.size ≤ 140737488355328) (w : World) (hp : RdN w Ap L) :
    Calls Try.prog 31 #[.slice Ap L.length cp, .int .i64 at'] w fun e w' => e = .returned (.tuple #[.int .i64 (bgE L at'), .int .i64 (fdE L at')]) ∧ Below w.heap.size w w' := by
  have HC : Hid (∀ _ : Unit, Calls Try.prog 41 #[.slice Ap L.length cp, .int .i64 at'] w fun e w' => e = .returned (.int .i64 (fdE L at')) ∧ Below w.heap.size w w') := fun _ => look_any L Ap cp at' hL hT w hp
  have HF : Hid (∀ W, Below w.heap.size w W → Rt L → Calls Try.prog 42 #[.slice Ap L.length cp] W fun e w' => FrV W w' L e ∧ Below W.heap.size W w') := fun W hW hr => from_any L Ap cp (by have := hr.len; omega) hT W (hp.below hW (Nat.le_refl _))
  clear hp hT
  go_enter Try.func31, Try.ntmps31
  go_wp2_with fail
  refine (HC.out ()).mono ?_
  rintro e w2 ⟨rfl, b2⟩
  have HB := (show Hid (Below w.heap.size w w2) from b2)
  clear HC b2
  by_cases hc : fdE L at' = 0
  · obtain ⟨hr, j, hj, hjl⟩ := fdE_ok hc
    have t1 : (fdE L at' != 0) = false := by rw [hc]; rfl
    have HI := (show Hid (bgE L at' = ((pt L j).1 : Int) ∧ fdE L at' = 0) from ⟨by unfold bgE; rw [if_pos hc, hj]; rfl, hc⟩)
    have HR := (show Hid (Rt L) from hr)
    subst hj
    clear hc hr
    go_wp2_with fail
    refine (HF.out _ HB.out HR.out).mono ?_
    rintro e w3 ⟨hv, b3⟩
    have HB3 := (show Hid (Below w.heap.size w w3) from HB.out.trans (b3.mono HB.out.size))
    obtain ⟨v1, v2, rfl, hat⟩ := hv.ok HR.out
    obtain ⟨A1, c1, A2, c2, rfl, rfl, hf⟩ := hat.form
    obtain ⟨g1, g2, rfl, rfl⟩ := hf (by omega)
    have e1 := hat.o1.cells (g := g1) rfl j _ (bgc_get hjl)
    rw [Addr.add_lit, Nat.zero_add] at e1
    have z0 : (0 : Int) ≤ (j : Int) := by omega
    have z1 : (j : Int) < (L.length : Int) := by omega
    clear HF hv b3 hat hf HB HR
    go_wp2_with fail
    go_ret2
    exact ⟨by rw [HI.out.1, HI.out.2]; rfl, HB3.out⟩
  · have t1 : (fdE L at' != 0) = true := by rw [bne, beq_eq_false_iff_ne.2 hc]; rfl
    have HI := (show Hid (bgE L at' = 0) from by show bgE L at' = 0; unfold bgE; rw [if_neg hc])
    clear hc HF
    go_wp2_with fail
    go_ret2
    exact ⟨by rw [HI.out]; rfl, HB.out⟩
end Go.Proofs.Ytfomodpjdaclgab
