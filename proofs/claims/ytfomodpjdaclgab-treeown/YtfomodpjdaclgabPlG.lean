/- Plain: no part is higher than the whole; a node's parts lie one behind the other. -/
import Derived.Test.YtfomodpjdaclgabPlF
namespace Go.Proofs.Ytfomodpjdaclgab

theorem mk_ge (L : List Nd) (k : Nat) (op : Int) (st : List Pt) (h : arN op ≤ st.length) : ∀ x ∈ st.take (arN op), x.2.2 ≤ (mk L k op st).2.2 := by
  intro x hx
  have h2 := arN_le op
  unfold mk
  by_cases a0 : arN op = 0
  · rw [a0] at hx; cases hx
  rw [if_neg a0]
  by_cases a1 : arN op = 1
  · rw [if_pos a1]
    rw [a1] at hx
    cases st with
    | nil => cases hx
    | cons y r =>
      have e : x = y := by simpa using hx
      subst e
      show x.2.2 ≤ max 1 (x.2.2 + 1)
      omega
  · rw [if_neg a1]
    rw [show arN op = 2 from by omega] at hx
    cases st with
    | nil => cases hx
    | cons y r => cases r with
      | nil =>
        rw [show arN op = 2 from by omega] at h
        simp at h
      | cons z r =>
        have e : x = y ∨ x = z := by simpa using hx
        show x.2.2 ≤ max (max 1 (if opAt L z.2.1 = op then z.2.2 else z.2.2 + 1)) (y.2.2 + 1)
        rcases e with rfl | rfl
        · omega
        · split <;> omega
/-- Each part lies within one that is free, or is one. -/
theorem high_in {L : List Nd} : ∀ k, k ≤ L.length → (∀ i, i < k → er L i = 0) → ∀ j, j < k → ∃ x ∈ run L k, (pt L j).2.2 ≤ x.2.2 := by
  intro k
  induction k with
  | zero => intro _ _ j hj; omega
  | succ k ih =>
    intro hk he j hj
    have hn : L[k]? = some L[k] := List.getElem?_eq_getElem (by omega)
    have hok := er_ok hn (he k (by omega))
    rw [run_succ]
    by_cases q : j = k
    · subst q
      exact ⟨pt L j, by simp, Nat.le_refl _⟩
    · obtain ⟨x, hx, hle⟩ := ih (by omega) (fun i hi => he i (by omega)) j (by omega)
      rw [← List.take_append_drop (arN (opAt L k)) (run L k)] at hx
      rcases List.mem_append.1 hx with hx | hx
      · refine ⟨pt L k, by simp, Nat.le_trans hle ?_⟩
        exact mk_ge L k (opAt L k) (run L k) (by rw [op_of hn]; exact hok.ar) x hx
      · exact ⟨x, List.mem_cons_of_mem _ hx, hle⟩
theorem high_le {L : List Nd} (hr : Rt L) {j : Nat} (hj : j < L.length) : (pt L j).2.2 ≤ (pt L (L.length - 1)).2.2 := by
  obtain ⟨x, hx, hle⟩ := high_in L.length (Nat.le_refl _) hr.each j hj
  have h1 := hr.one
  obtain ⟨m, hm⟩ : ∃ m, L.length = m + 1 := ⟨L.length - 1, by omega⟩
  rw [hm, run_succ] at hx h1
  have hd : (run L m).drop (arN (opAt L m)) = [] := by
    cases hq : (run L m).drop (arN (opAt L m)) with
    | nil => rfl
    | cons y r => rw [hq] at h1; simp at h1
  rw [hd] at hx
  have e : x = pt L m := by simpa using hx
  rw [hm, show m + 1 - 1 = m from by omega, ← e]
  exact hle
end Go.Proofs.Ytfomodpjdaclgab
