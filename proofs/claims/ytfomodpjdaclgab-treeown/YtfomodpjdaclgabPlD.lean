/- Plain: a node's part, reckoned back from part to part. -/
import Derived.Test.YtfomodpjdaclgabPlC
namespace Go.Proofs.Ytfomodpjdaclgab

def atI (k : Nat) (st : List Pt) : Nat → Nat
  | 0 => k
  | i + 1 => match st[i]? with
    | some x => x.1
    | none => 0
def hI (L : List Nd) (op : Int) (a : Nat) (st : List Pt) : Nat → Nat
  | 0 => 0
  | i + 1 => match st[i]? with
    | some x => max (hI L op a st i) (if i + 1 = a ∧ a = 2 ∧ opAt L x.2.1 = op then x.2.2 - 1 else x.2.2)
    | none => hI L op a st i
theorem mk_pos (L : List Nd) (k : Nat) (op : Int) (st : List Pt) : 1 ≤ (mk L k op st).2.2 := by
  unfold mk
  split
  · exact Nat.le_refl _
  · split
    · split
      · show 1 ≤ max 1 _; omega
      · exact Nat.le_refl _
    · split
      · show 1 ≤ max (max 1 _) _; omega
      · exact Nat.le_refl _
theorem run_pos {L : List Nd} {k : Nat} (hk : k ≤ L.length) (h : ∀ j, j < k → er L j = 0) : ∀ x ∈ run L k, 1 ≤ x.2.2 := fun x hx => by
  obtain ⟨_, _, _, e⟩ := run_bd hk h x hx
  rw [e]
  exact mk_pos _ _ _ _
theorem chn_at (L : List Nd) (k : Nat) (st : List Pt) (h : Chn L k st) : ∀ i, i ≤ st.length → Chn L (atI k st i) (st.drop i) := by
  intro i
  induction i with
  | zero => intro _; exact h
  | succ i ih =>
    intro hi
    have c := ih (by omega)
    rw [List.drop_eq_getElem_cons (by omega)] at c
    show Chn L (match st[i]? with
      | some x => x.1
      | none => 0) _
    rw [List.getElem?_eq_getElem (by omega)]
    exact c.2.2.2
theorem pt_at (L : List Nd) (k : Nat) (op : Int) (st : List Pt) (h : arN op ≤ st.length) (hp : ∀ x ∈ st, 1 ≤ x.2.2) : mk L k op st = (atI k st (arN op), k, hI L op (arN op) st (arN op) + 1) := by
  have h2 := arN_le op
  unfold mk
  by_cases a0 : arN op = 0
  · rw [if_pos a0, a0]; rfl
  rw [if_neg a0]
  by_cases a1 : arN op = 1
  · rw [if_pos a1]
    rw [a1] at h ⊢
    cases st with
    | nil => simp at h
    | cons x r => simp [atI, hI]
  · rw [if_neg a1]
    have e2 : arN op = 2 := by omega
    rw [e2] at h ⊢
    cases st with
    | nil => simp at h
    | cons y r => cases r with
      | nil => simp at h
      | cons x r =>
        have hx := hp x (by simp)
        simp only [atI, hI, List.getElem?_cons_zero, List.getElem?_cons_succ]
        by_cases ho : opAt L x.2.1 = op
        · simp [ho]; omega
        · simp [ho]; omega
theorem hI_bd (L : List Nd) (op : Int) (a : Nat) (st : List Pt) (h : ∀ x ∈ st, x.2.2 ≤ 60) : ∀ i, hI L op a st i ≤ 60 := by
  intro i
  induction i with
  | zero => exact Nat.zero_le _
  | succ i ih =>
    rw [hI]
    split
    · next x hx =>
      have := h x (List.mem_of_getElem? hx)
      split <;> omega
    · exact ih
end Go.Proofs.Ytfomodpjdaclgab
