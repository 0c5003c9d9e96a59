/- Plain: another right pattern in a part's place: long or deep alone may be wrong. -/
import Derived.Test.YtfomodpjdaclgabPlG
namespace Go.Proofs.Ytfomodpjdaclgab

theorem run_length (L : List Nd) (k : Nat) : (run L (k + 1)).length = (run L k).length - arN (opAt L k) + 1 := by
  rw [run_succ, List.length_cons, List.length_drop]
theorem get_suf (A Q R : List Nd) (k : Nat) : (A ++ (Q ++ R))[A.length + Q.length + k]? = R[k]? := by
  rw [List.getElem?_append_right (by omega), List.getElem?_append_right (by omega)]
  congr 1
  omega
theorem opAt_suf (A Q R : List Nd) (k : Nat) : opAt (A ++ (Q ++ R)) (A.length + Q.length + k) = opAt R k := by
  unfold opAt
  rw [get_suf]
theorem pt_pre (A R S : List Nd) (k : Nat) (hk : k < A.length) : pt (A ++ R) k = pt (A ++ S) k := by
  have h := run_pre A R S (k + 1) (by omega)
  rw [run_succ, run_succ] at h
  exact (List.cons.inj h).1
theorem er_pre (A R S : List Nd) (k : Nat) (hk : k < A.length) : er (A ++ R) k = er (A ++ S) k := by
  unfold er
  rw [List.getElem?_append_left hk, List.getElem?_append_left hk, run_pre A R S k (by omega), pt_pre A R S k hk]
theorem pt_mid (A Q R : List Nd) (k : Nat) (hk : k < Q.length) (he : ∀ j, j < Q.length → er Q j = 0) : pt (A ++ (Q ++ R)) (A.length + k) = shP A.length (pt Q k) := by
  have h := run_mid A Q R (k + 1) (by omega) (fun j hj => he j (by omega))
  rw [show A.length + (k + 1) = (A.length + k) + 1 from by omega, run_succ, run_succ, List.map_cons, List.cons_append] at h
  exact (List.cons.inj h).1
theorem er_mid (A Q R : List Nd) (k : Nat) (hk : k < Q.length) (he : ∀ j, j < Q.length → er Q j = 0) : er (A ++ (Q ++ R)) (A.length + k) = 0 := by
  have hn : Q[k]? = some Q[k] := List.getElem?_eq_getElem hk
  have hok := er_ok hn (he k hk)
  have hn2 : (A ++ (Q ++ R))[A.length + k]? = some Q[k] := by rw [get_mid A Q R k hk]; exact hn
  have hm := run_mid A Q R k (by omega) (fun j hj => he j (by omega))
  rw [er_of hn2, if_neg (by rw [hok.al]; simp), if_neg, if_neg]
  · rw [pt_mid A Q R k hk he]
    have := hok.ht
    have e : (shP A.length (pt Q k)).2.2 = (pt Q k).2.2 := rfl
    omega
  · rw [hm, List.length_append, List.length_map]
    have := hok.ar
    omega
theorem run_len_suf {A Q S R : List Nd} (h : (run (A ++ (Q ++ R)) (A.length + Q.length)).length = (run (A ++ (S ++ R)) (A.length + S.length)).length) : ∀ k, (run (A ++ (Q ++ R)) (A.length + Q.length + k)).length = (run (A ++ (S ++ R)) (A.length + S.length + k)).length := by
  intro k
  induction k with
  | zero => exact h
  | succ k ih => rw [← Nat.add_assoc, ← Nat.add_assoc, run_length, run_length, ih, opAt_suf, opAt_suf]
theorem len_mid (A Q R : List Nd) (hq : Rt Q) : (run (A ++ (Q ++ R)) (A.length + Q.length)).length = 1 + (run (A ++ []) A.length).length := by
  rw [run_mid A Q R Q.length (Nat.le_refl _) hq.each, List.length_append, List.length_map, hq.one, run_pre A (Q ++ R) [] A.length (Nat.le_refl _)]
/-- What is wrong with a whole, one of whose parts was changed for another right one. -/
theorem put_ck {A Q S R : List Nd} (hr : Rt (A ++ (Q ++ R))) (hq : Rt Q) (hs : Rt S) : (ck (A ++ (S ++ R))).2 = 0 ∨ (ck (A ++ (S ++ R))).2 = 2 ∨ (ck (A ++ (S ++ R))).2 = 4 := by
  have hlen := run_len_suf (A := A) (Q := Q) (S := S) (R := R) (by rw [len_mid A Q R hq, len_mid A S R hs])
  have her : ∀ j, j < (A ++ (S ++ R)).length → er (A ++ (S ++ R)) j = 0 ∨ er (A ++ (S ++ R)) j = 4 := by
    intro j hj
    rw [List.length_append, List.length_append] at hj
    by_cases h1 : j < A.length
    · left
      rw [er_pre A (S ++ R) (Q ++ R) j h1]
      exact hr.each j (by rw [List.length_append]; omega)
    by_cases h2 : j < A.length + S.length
    · left
      have := er_mid A S R (j - A.length) (by omega) hs.each
      rw [show A.length + (j - A.length) = j from by omega] at this
      exact this
    · obtain ⟨k, rfl⟩ : ∃ k, j = A.length + S.length + k := ⟨j - (A.length + S.length), by omega⟩
      have hk : k < R.length := by omega
      have hn : R[k]? = some R[k] := List.getElem?_eq_getElem hk
      have hn1 := (get_suf A Q R k).trans hn
      have hn2 := (get_suf A S R k).trans hn
      have hok := er_ok hn1 (hr.each _ (by rw [List.length_append, List.length_append]; omega))
      rw [er_of hn2, if_neg (by rw [hok.al]; simp), if_neg (by have := hok.ar; have := hlen k; omega)]
      split
      · exact .inr rfl
      · exact .inl rfl
  by_cases hl : 2048 < (A ++ (S ++ R)).length
  · rw [ck_long hl]; exact .inr (.inl rfl)
  by_cases ha : ∀ j, j < (A ++ (S ++ R)).length → er (A ++ (S ++ R)) j = 0
  · left
    rw [ck_end hl ha, if_pos]
    have h1 := hr.one
    have h2 := hlen R.length
    rw [List.length_append, List.length_append, ← Nat.add_assoc] at h1 ⊢
    omega
  · -- the first node that is wrong
    have key : ∀ m k, k + m = (A ++ (S ++ R)).length → ((ckGo (A ++ (S ++ R)) m k).2 = 0 ∨ (ckGo (A ++ (S ++ R)) m k).2 = 4) := by
      intro m
      induction m with
      | zero =>
        intro k _
        rw [ckGo, if_pos]
        · exact .inl rfl
        · have h1 := hr.one
          have h2 := hlen R.length
          rw [List.length_append, List.length_append, ← Nat.add_assoc] at h1 ⊢
          omega
      | succ m ih =>
        intro k hk
        rw [ckGo]
        split
        · next he =>
          rcases her k (by omega) with q | q
          · exact absurd q he
          · exact .inr q
        · exact ih (k + 1) (by omega)
    rw [ck, if_neg hl]
    rcases key (A ++ (S ++ R)).length 0 (by omega) with q | q
    · exact .inl q
    · exact .inr (.inr q)
theorem pt_last {Q : List Nd} (hq : Rt Q) : (pt Q (Q.length - 1)).1 = 0 ∧ 0 < Q.length := by
  have h1 := hq.one
  have h0 : 0 < Q.length := by
    by_cases q : 0 < Q.length
    · exact q
    · have e : Q.length = 0 := by omega
      rw [e] at h1
      cases h1
  obtain ⟨m, hm⟩ : ∃ m, Q.length = m + 1 := ⟨Q.length - 1, by omega⟩
  have hc := chn_run Q Q.length (Nat.le_refl _) hq.each
  rw [hm, run_succ] at h1 hc
  have hd : (run Q m).drop (arN (opAt Q m)) = [] := by
    cases hq2 : (run Q m).drop (arN (opAt Q m)) with
    | nil => rfl
    | cons y r => rw [hq2] at h1; simp at h1
  rw [hd] at hc
  refine ⟨?_, h0⟩
  rw [hm, show m + 1 - 1 = m from by omega]
  exact hc.2.2.2
theorem put_pt {A S R : List Nd} (hs : Rt S) : (pt (A ++ (S ++ R)) (A.length + S.length - 1)).1 = A.length := by
  obtain ⟨h1, h2⟩ := pt_last hs
  have := pt_mid A S R (S.length - 1) (by omega) hs.each
  rw [show A.length + (S.length - 1) = A.length + S.length - 1 from by omega] at this
  rw [this]
  show (pt S (S.length - 1)).1 + A.length = A.length
  omega
end Go.Proofs.Ytfomodpjdaclgab
