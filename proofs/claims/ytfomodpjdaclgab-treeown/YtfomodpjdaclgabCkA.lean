/- DERIVED. Walks: Check by the document; TreeChecks. -/
import Derived.Test.YtfomodpjdaclgabFrA
import Derived.Test.YtfomodpjdaclgabLnA
namespace Go.Proofs.Ytfomodpjdaclgab
open Go.RowKit

theorem one_iff {L : List Nd} {m : Nat} (hm : L.length = m + 1) (h : ∀ j, j < L.length → er L j = 0) : (run L L.length).length = 1 ↔ (pt L m).1 = 0 := by
  have hc := chn_run L L.length (Nat.le_refl _) h
  rw [hm] at hc ⊢
  rw [run_succ] at hc ⊢
  have h2 := hc.2.2.2
  cases hd : (run L m).drop (arN (opAt L m)) with
  | nil => rw [hd] at h2; exact ⟨fun _ => h2, fun _ => rfl⟩
  | cons x r =>
    rw [hd] at h2
    have := h2.1
    constructor
    · intro e; simp at e
    · intro e; omega

set_option maxRecDepth 100000 in
set_option maxHeartbeats 4000000 in
theorem checkR_any (L : List Nd) (Ap : Option Addr) (cp : Nat) (hL : L.length ≤ 140737488355328) (hT : ∀ n ∈ L, n.tx.size ≤ 140737488355328) (w : World) (hp : RdN w Ap L) :
    Calls Try.prog 33 #[.slice Ap L.length cp] w fun e w' => e = .returned (.tuple #[.int .i64 (ck L).1, .int .i64 (ck L).2]) ∧ Below w.heap.size w w' := by
  by_cases hlong : 2048 < L.length
  · have HE := (show Hid (ck L = (0, 2)) from ck_long hlong)
    have z : (2048 : Int) < (L.length : Int) := by omega
    clear hT hp
    go_enter Try.func33, Try.ntmps33
    go_wp2_with fail
    go_ret2
    exact ⟨by rw [HE.out]; rfl, Below.refl _ _⟩
  have z : ¬ (2048 : Int) < (L.length : Int) := by omega
  have HF : Hid (∀ _ : Unit, Calls Try.prog 42 #[.slice Ap L.length cp] w fun e w' => FrV w w' L e ∧ Below w.heap.size w w') := fun _ => from_any L Ap cp (by omega) hT w hp
  clear hT hp
  have HN := (show Hid (¬ 2048 < L.length) from hlong)
  clear hlong
  go_enter Try.func33, Try.ntmps33
  go_wp2_with fail
  refine (HF.out ()).mono ?_
  rintro e w2 ⟨hv, b2⟩
  have HB := (show Hid (Below w.heap.size w w2) from b2)
  clear HF b2
  rcases hv with ⟨k, hk, h1, h2, rfl⟩ | ⟨h1, v1, v2, rfl, h2⟩
  · have HE := (show Hid (ck L = (k, er L k)) from ck_bad HN.out hk h1 h2)
    have t1 : (er L k != 0) = true := by rw [bne, beq_eq_false_iff_ne.2 h2]; rfl
    clear h1 h2 HN
    generalize er L k = ek at *
    go_wp2_with fail
    go_ret2
    exact ⟨by rw [HE.out]; rfl, HB.out⟩
  · have HE := (show Hid (ck L = if (run L L.length).length = 1 then (0, 0) else (L.length, 42)) from ck_end HN.out h1)
    obtain ⟨A1, c1, A2, c2, rfl, rfl, hf⟩ := h2.form
    by_cases h0 : L.length = 0
    · have HE2 := (show Hid (ck L = (L.length, 42)) from by
        show ck L = _
        rw [HE.out, if_neg]
        rw [List.eq_nil_of_length_eq_zero h0]
        simp [run])
      have t0 : ((L.length : Int) == 0) = true := beq_iff_eq.2 (by omega)
      clear h1 h2 hf h0 HE HN
      go_wp2_with fail
      go_ret2
      exact ⟨by rw [HE2.out]; rfl, HB.out⟩
    · obtain ⟨m, hm⟩ : ∃ m, L.length = m + 1 := ⟨L.length - 1, by omega⟩
      obtain ⟨g1, g2, rfl, rfl⟩ := hf (by omega)
      have hone := one_iff hm h1
      have e1 := h2.o1.cells (g := g1) rfl m _ (bgc_get (by omega))
      rw [Addr.add_lit, Nat.zero_add] at e1
      have t0 : ((L.length : Int) == 0) = false := beq_eq_false_iff_ne.2 (by omega)
      have hs : (L.length : Int) - 1 = (m : Int) := by omega
      have zm : (0 : Int) ≤ (m : Int) := by omega
      have zl : (m : Int) < (L.length : Int) := by omega
      by_cases hp0 : (pt L m).1 = 0
      · have HE2 := (show Hid (ck L = (0, 0)) from by show ck L = _; rw [HE.out, if_pos (hone.2 hp0)])
        have t2 : (((pt L m).1 : Int) != 0) = false := by rw [hp0]; rfl
        clear h1 h2 hf h0 HE HN hm hone hp0
        generalize (pt L m).1 = q at *
        go_wp2_with fail
        go_ret2
        exact ⟨by rw [HE2.out]; rfl, HB.out⟩
      · have HE2 := (show Hid (ck L = (L.length, 42)) from by show ck L = _; rw [HE.out, if_neg (fun q => hp0 (hone.1 q))])
        have t2 : (((pt L m).1 : Int) != 0) = true := by rw [bne, beq_eq_false_iff_ne.2 (by omega)]; rfl
        clear h1 h2 hf h0 HE HN hm hone hp0
        generalize (pt L m).1 = q at *
        go_wp2_with fail
        go_ret2
        exact ⟨by rw [HE2.out]; rfl, HB.out⟩
end Go.Proofs.Ytfomodpjdaclgab
