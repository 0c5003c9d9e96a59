/- Plain: a node's parts, cut out: they lie one behind the other, each is right; with the node behind them they are its part. -/
import Derived.Test.YtfomodpjdaclgabPlH
import Derived.Test.YtfomodpjdaclgabPaL
namespace Go.Proofs.Ytfomodpjdaclgab

theorem cut_split (L : List Nd) {b j : Nat} (hb : b ≤ j) (_hj : j < L.length) : L = L.take b ++ (cutL L b (j + 1) ++ L.drop (j + 1)) := by
  unfold cutL
  have h1 : (L.drop b).take (j + 1 - b) ++ L.drop (j + 1) = L.drop b := by
    have := List.take_append_drop (j + 1 - b) (L.drop b)
    rw [List.drop_drop, show b + (j + 1 - b) = j + 1 from by omega] at this
    exact this
  rw [h1, List.take_append_drop]
theorem cut_join (L : List Nd) {a b c : Nat} (h1 : a ≤ b) (h2 : b ≤ c) : cutL L a b ++ cutL L b c = cutL L a c := by
  unfold cutL
  rw [show c - a = (b - a) + (c - b) from by omega, List.take_add, List.drop_drop, show a + (b - a) = b from by omega]
theorem cut_one (L : List Nd) {j : Nat} {n : Nd} (h : L[j]? = some n) : cutL L j (j + 1) = [n] := by
  unfold cutL
  have hj : j < L.length := by
    by_cases q : j < L.length
    · exact q
    · rw [List.getElem?_eq_none (by omega)] at h; cases h
  rw [List.drop_eq_getElem_cons hj, show j + 1 - j = 1 from by omega]
  rw [List.getElem?_eq_getElem hj] at h
  cases h
  rfl
/-- A part, alone. -/
theorem cut_right {L : List Nd} (hr : Rt L) {j : Nat} (hj : j < L.length) : Rt (cutL L (pt L j).1 (j + 1)) ∧ (pt (cutL L (pt L j).1 (j + 1)) ((cutL L (pt L j).1 (j + 1)).length - 1)).2.2 = (pt L j).2.2 := by
  have hb := pt_le hr hj
  have hs := cut_split L hb hj
  have hc := cutL_len (L := L) (b := (pt L j).1) (e := j + 1) (by omega) (by omega)
  have ht : (L.take (pt L j).1).length = (pt L j).1 := by rw [List.length_take]; omega
  obtain ⟨h1, h2⟩ := part_right (A := L.take (pt L j).1) (Q := cutL L (pt L j).1 (j + 1)) (R := L.drop (j + 1)) (j := j) (by have := hr.len; omega) (by rw [ht, hc]; omega) (by rw [← hs, ht]) (by rw [← hs]; exact fun i hi => hr.each i (by omega))
  refine ⟨h1, ?_⟩
  have h3 := h2 ((cutL L (pt L j).1 (j + 1)).length - 1) (by omega)
  rw [← hs, ht, hc, show (pt L j).1 + (j + 1 - (pt L j).1 - 1) = j from by omega] at h3
  rw [hc]
  have h4 := congrArg (fun p : Pt => p.2.2) h3
  exact h4.symm
/-- A node's parts. -/
def kid (L : List Nd) (j : Nat) : List Pt := ((run L j).take (arN (opAt L j))).reverse
theorem tiles_of {L : List Nd} (hr : Rt L) {j : Nat} (hj : j < L.length) : (kid L j).length = arN (opAt L j) ∧ ∃ nx : Nat → Nat, nx 0 = (pt L j).1 ∧ nx (kid L j).length = j ∧ ∀ (i : Nat) x, (kid L j)[i]? = some x → x.1 = nx i ∧ nx (i + 1) = x.2.1 + 1 ∧ x.1 ≤ x.2.1 ∧ x.2.1 < j ∧ x = pt L x.2.1 := by
  have hn : L[j]? = some L[j] := List.getElem?_eq_getElem hj
  have hok := er_ok hn (hr.each j hj)
  have har : arN (opAt L j) ≤ (run L j).length := by rw [op_of hn]; exact hok.ar
  have hc := chn_run L j (by omega) (fun i hi => hr.each i (by omega))
  have h2 := arN_le (opAt L j)
  have hkl : (kid L j).length = arN (opAt L j) := by unfold kid; rw [List.length_reverse, List.length_take]; omega
  refine ⟨hkl, ?_⟩
  rw [hkl]
  by_cases a0 : arN (opAt L j) = 0
  · refine ⟨fun _ => j, ?_, by simp, fun i x hx => ?_⟩
    · show j = (mk L j (opAt L j) (run L j)).1
      unfold mk
      rw [if_pos a0]
    · have e : kid L j = [] := List.eq_nil_of_length_eq_zero (by rw [hkl, a0])
      rw [e] at hx
      cases hx
  by_cases a1 : arN (opAt L j) = 1
  · cases hst : run L j with
    | nil => rw [hst, a1] at har; simp at har
    | cons y r =>
      rw [hst] at hc
      obtain ⟨c1, c2, c3, c4⟩ := hc
      have e : kid L j = [y] := by unfold kid; rw [a1, hst]; rfl
      refine ⟨fun i => if i = 0 then y.1 else j, ?_, by rw [a1]; simp, fun i x hx => ?_⟩
      · show y.1 = (mk L j (opAt L j) (run L j)).1
        unfold mk
        rw [if_neg a0, if_pos a1, hst]
      · rw [e] at hx
        cases i with
        | succ i => simp at hx
        | zero =>
          cases hx
          exact ⟨by simp, by simp; omega, c3, by omega, c2⟩
  · have a2 : arN (opAt L j) = 2 := by omega
    cases hst : run L j with
    | nil => rw [hst, a2] at har; simp at har
    | cons y r =>
      cases hst2 : r with
      | nil => rw [hst, hst2, a2] at har; simp at har
      | cons z r2 =>
        rw [hst, hst2] at hc
        obtain ⟨c1, c2, c3, d1, d2, d3, d4⟩ := hc
        have e : kid L j = [z, y] := by unfold kid; rw [a2, hst, hst2]; rfl
        refine ⟨fun i => if i = 0 then z.1 else if i = 1 then y.1 else j, ?_, by rw [a2]; simp, fun i x hx => ?_⟩
        · show z.1 = (mk L j (opAt L j) (run L j)).1
          unfold mk
          rw [if_neg a0, if_neg a1, hst, hst2]
        · rw [e] at hx
          cases i with
          | zero =>
            cases hx
            exact ⟨by simp, by simp; omega, d3, by omega, d2⟩
          | succ i => cases i with
            | succ i => simp at hx
            | zero =>
              cases hx
              exact ⟨by simp, by simp; omega, c3, by omega, c2⟩
/-- A node behind its own parts. -/
theorem join_own {L : List Nd} (hr : Rt L) {j : Nat} {n : Nd} (hn : L[j]? = some n) : ((kid L j).flatMap fun x => cutL L x.1 (x.2.1 + 1)) ++ [n] = cutL L (pt L j).1 (j + 1) := by
  have hj : j < L.length := by
    by_cases q : j < L.length
    · exact q
    · rw [List.getElem?_eq_none (by omega)] at hn; cases hn
  obtain ⟨hk, nx, h0, h1, h2⟩ := tiles_of hr hj
  have hb := pt_le hr hj
  have key : ∀ m, m ≤ (kid L j).length → nx 0 ≤ nx m ∧ nx m ≤ j ∧ (((kid L j).take m).flatMap fun x => cutL L x.1 (x.2.1 + 1)) = cutL L (nx 0) (nx m) := by
    intro m
    induction m with
    | zero =>
      intro _
      refine ⟨Nat.le_refl _, by omega, ?_⟩
      rw [List.take_zero, List.flatMap_nil]
      unfold cutL
      rw [Nat.sub_self, List.take_zero]
    | succ m ih =>
      intro hm
      obtain ⟨i1, i2, i3⟩ := ih (by omega)
      have hx : (kid L j)[m]? = some (kid L j)[m] := List.getElem?_eq_getElem (by omega)
      obtain ⟨e1, e2, e3, e4, e5⟩ := h2 m _ hx
      refine ⟨by omega, by omega, ?_⟩
      rw [List.take_add_one, hx, List.flatMap_append, i3]
      show _ ++ List.flatMap _ [(kid L j)[m]] = _
      rw [List.flatMap_cons, List.flatMap_nil, List.append_nil, e1, ← e2]
      exact cut_join L i1 (by omega)
  obtain ⟨_, _, h5⟩ := key (kid L j).length (Nat.le_refl _)
  rw [List.take_length, h0, h1] at h5
  rw [h5, ← cut_one L hn]
  exact cut_join L hb (by omega)
end Go.Proofs.Ytfomodpjdaclgab
