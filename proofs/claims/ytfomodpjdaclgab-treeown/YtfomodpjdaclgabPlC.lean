/- Plain: what is known of the parts that are free. -/
import Derived.Test.YtfomodpjdaclgabPlB
namespace Go.Proofs.Ytfomodpjdaclgab

theorem chn_mem (L : List Nd) : ∀ (st : List Pt) (k : Nat), Chn L k st → ∀ x ∈ st, x.2.1 < k ∧ x.1 ≤ x.2.1 ∧ x = pt L x.2.1 := by
  intro st
  induction st with
  | nil => intro k _ x hx; cases hx
  | cons y r ih =>
    intro k h x hx
    obtain ⟨h1, h2, h3, h4⟩ := h
    rcases List.mem_cons.1 hx with rfl | hx
    · exact ⟨by omega, h3, h2⟩
    · obtain ⟨a, b, c⟩ := ih y.1 h4 x hx
      exact ⟨by omega, b, c⟩
structure ErOk (L : List Nd) (k : Nat) (n : Nd) : Prop where
  al : alE n = 0
  ar : arN n.op ≤ (run L k).length
  ht : (pt L k).2.2 ≤ 60
theorem er_ok {L : List Nd} {k : Nat} {n : Nd} (hn : L[k]? = some n) (h : er L k = 0) : ErOk L k n := by
  rw [er_of hn] at h
  by_cases h1 : alE n ≠ 0
  · rw [if_pos h1] at h; exact absurd h h1
  rw [if_neg h1] at h
  by_cases h2 : (run L k).length < arN n.op
  · rw [if_pos h2] at h; cases h
  rw [if_neg h2] at h
  by_cases h3 : 60 < (pt L k).2.2
  · rw [if_pos h3] at h; cases h
  exact ⟨Classical.byContradiction h1, by omega, by omega⟩
theorem run_bd {L : List Nd} {k : Nat} (hk : k ≤ L.length) (h : ∀ j, j < k → er L j = 0) : ∀ x ∈ run L k, x.1 ≤ x.2.1 ∧ x.2.1 < k ∧ x.2.2 ≤ 60 ∧ x = pt L x.2.1 := by
  intro x hx
  obtain ⟨a, b, c⟩ := chn_mem L _ k (chn_run L k hk h) x hx
  have hn : L[x.2.1]? = some L[x.2.1] := List.getElem?_eq_getElem (by omega)
  have := (er_ok hn (h _ a)).ht
  rw [← c] at this
  exact ⟨b, a, this, c⟩
theorem run_len (L : List Nd) (k : Nat) : (run L k).length ≤ k := by
  induction k with
  | zero => exact Nat.le_refl _
  | succ k ih => rw [run_succ, List.length_cons, List.length_drop]; omega
theorem arN_of {n : Nd} (h : alE n = 0) : ((arN n.op : Nat) : Int) = ar n.op := by
  have := alE_ar h
  unfold arN
  omega
/-- The top of a stack, in the order of the list. -/
theorem rev_drop {α : Type} (st : List α) (a : Nat) (h : a ≤ st.length) : st.reverse.drop (st.length - a) = (st.take a).reverse := by
  rw [List.drop_reverse]
  congr 2
  omega
theorem rev_take {α : Type} (st : List α) (a : Nat) (h : a ≤ st.length) : st.reverse.take (st.length - a) = (st.drop a).reverse := by
  rw [List.take_reverse]
  congr 2
  omega
end Go.Proofs.Ytfomodpjdaclgab
