/- Plain: a pattern within a list: its parts are those that it has alone. -/
import Derived.Test.YtfomodpjdaclgabPlD
namespace Go.Proofs.Ytfomodpjdaclgab

def shP (a : Nat) (p : Pt) : Pt := (p.1 + a, p.2.1 + a, p.2.2)
theorem mk_shift {L Q : List Nd} {a m : Nat} (hop : ∀ j, j < m → opAt L (a + j) = opAt Q j) (k : Nat) (op : Int) (st base : List Pt) (h : arN op ≤ st.length) (hb : ∀ x ∈ st, x.2.1 < m) : mk L (a + k) op (st.map (shP a) ++ base) = shP a (mk Q k op st) := by
  have h2 := arN_le op
  unfold mk
  by_cases a0 : arN op = 0
  · rw [if_pos a0, if_pos a0]; show (a + k, a + k, 1) = (k + a, k + a, 1); rw [Nat.add_comm]
  rw [if_neg a0, if_neg a0]
  by_cases a1 : arN op = 1
  · rw [if_pos a1, if_pos a1]
    rw [a1] at h
    cases st with
    | nil => simp at h
    | cons x r => show (x.1 + a, a + k, _) = (x.1 + a, k + a, _); rw [Nat.add_comm a k]; rfl
  · rw [if_neg a1, if_neg a1]
    rw [show arN op = 2 from by omega] at h
    cases st with
    | nil => simp at h
    | cons y r => cases r with
      | nil => simp at h
      | cons x r =>
        have hx := hop x.2.1 (hb x (by simp))
        show (x.1 + a, a + k, max (max 1 (if opAt L (x.2.1 + a) = op then x.2.2 else x.2.2 + 1)) (y.2.2 + 1)) = (x.1 + a, k + a, max (max 1 (if opAt Q x.2.1 = op then x.2.2 else x.2.2 + 1)) (y.2.2 + 1))
        rw [Nat.add_comm x.2.1 a, hx, Nat.add_comm a k]
theorem opAt_mid (A Q R : List Nd) (j : Nat) (h : j < Q.length) : opAt (A ++ (Q ++ R)) (A.length + j) = opAt Q j := by
  unfold opAt
  rw [List.getElem?_append_right (by omega), show A.length + j - A.length = j from by omega, List.getElem?_append_left h]
theorem get_mid (A Q R : List Nd) (j : Nat) (h : j < Q.length) : (A ++ (Q ++ R))[A.length + j]? = Q[j]? := by
  rw [List.getElem?_append_right (by omega), show A.length + j - A.length = j from by omega, List.getElem?_append_left h]
theorem run_mid (A Q R : List Nd) : ∀ k, k ≤ Q.length → (∀ j, j < k → er Q j = 0) → run (A ++ (Q ++ R)) (A.length + k) = (run Q k).map (shP A.length) ++ run (A ++ (Q ++ R)) A.length := by
  intro k
  induction k with
  | zero => intro _ _; rfl
  | succ k ih =>
    intro hk he
    have hih := ih (by omega) (fun j hj => he j (by omega))
    have hn : Q[k]? = some Q[k] := List.getElem?_eq_getElem (by omega)
    have hok := er_ok hn (he k (by omega))
    have hop := opAt_mid A Q R k (by omega)
    have ho2 := op_of hn
    rw [show A.length + (k + 1) = (A.length + k) + 1 from by omega, run_succ, run_succ, hih, hop]
    have hm := mk_shift (L := A ++ (Q ++ R)) (Q := Q) (a := A.length) (m := Q.length) (fun j hj => opAt_mid A Q R j hj) k (opAt Q k) (run Q k) (run (A ++ (Q ++ R)) A.length) (by rw [ho2]; exact hok.ar) (fun x hx => by
      have := (run_bd (by omega) (fun j hj => he j (by omega)) x hx).2.1
      omega)
    show (mk _ _ (opAt (A ++ (Q ++ R)) (A.length + k)) _ :: _) = _
    rw [hop, hih, hm, List.drop_append_of_le_length (by rw [List.length_map, ho2]; exact hok.ar), ← List.map_drop]
    rfl
/-- Ahead of where two lists part they are the same. -/
theorem run_pre (A R S : List Nd) : ∀ k, k ≤ A.length → run (A ++ R) k = run (A ++ S) k := by
  have hop : ∀ j, j < A.length → opAt (A ++ R) j = opAt (A ++ S) j := fun j hj => by
    unfold opAt
    rw [List.getElem?_append_left hj, List.getElem?_append_left hj]
  have key : ∀ k, k ≤ A.length → run (A ++ R) k = run (A ++ S) k ∧ ∀ x ∈ run (A ++ R) k, x.2.1 < k := by
    intro k
    induction k with
    | zero => intro _; exact ⟨rfl, fun x hx => by cases hx⟩
    | succ k ih =>
      intro hk
      obtain ⟨i1, i2⟩ := ih (by omega)
      have hm : mk (A ++ R) k (opAt (A ++ R) k) (run (A ++ R) k) = mk (A ++ S) k (opAt (A ++ S) k) (run (A ++ S) k) := by
        rw [← i1, ← hop k (by omega)]
        unfold mk
        split
        · rfl
        · split
          · rfl
          · cases hr : run (A ++ R) k with
            | nil => rfl
            | cons y r => cases hr2 : r with
              | nil => rfl
              | cons x r2 =>
                have hx := i2 x (by rw [hr, hr2]; simp)
                show (x.1, k, max (max 1 (if opAt (A ++ R) x.2.1 = _ then _ else _)) _) = (x.1, k, max (max 1 (if opAt (A ++ S) x.2.1 = _ then _ else _)) _)
                rw [hop x.2.1 (by omega)]
      refine ⟨?_, fun x hx => ?_⟩
      · show mk _ _ _ _ :: _ = mk _ _ _ _ :: _
        rw [hm, i1, hop k (by omega)]
      · rw [run_succ] at hx
        rcases List.mem_cons.1 hx with rfl | hx
        · rw [show (pt (A ++ R) k).2.1 = k from mk_last _ _ _ _]; omega
        · have := i2 x (List.mem_of_mem_drop hx); omega
  exact fun k hk => (key k hk).1
end Go.Proofs.Ytfomodpjdaclgab
