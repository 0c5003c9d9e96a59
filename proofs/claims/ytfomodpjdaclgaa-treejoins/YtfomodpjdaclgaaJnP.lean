/- Plain: a node behind parts: what is wrong, and what comes out. -/
import Derived.Test.YtfomodpjdaclgaaPuA
namespace Go.Proofs.Ytfomodpjdaclgaa

/-- What is wrong with the first part that is not right. -/
def prt : List (List Nd) → Int
  | [] => 0
  | p :: r => if (ck p).2 ≠ 0 then (ck p).2 else prt r
theorem prt_bad : ∀ {Ps : List (List Nd)} {i : Nat} {p : List Nd}, (∀ j q, j < i → Ps[j]? = some q → (ck q).2 = 0) → Ps[i]? = some p → (ck p).2 ≠ 0 → prt Ps = (ck p).2 := by
  intro Ps
  induction Ps with
  | nil => intro i p _ hp; cases hp
  | cons a r ih =>
    intro i p h hp he
    cases i with
    | zero => cases hp; rw [prt, if_pos he]
    | succ i =>
      have h0 := h 0 a (by omega) rfl
      rw [prt, if_neg (by rw [h0]; simp)]
      exact ih (i := i) (fun j q hj hq => h (j + 1) q (by omega) (by simpa using hq)) (by simpa using hp) he
theorem prt_ok : ∀ {Ps : List (List Nd)}, (∀ q ∈ Ps, (ck q).2 = 0) → prt Ps = 0 := by
  intro Ps
  induction Ps with
  | nil => intro _; rfl
  | cons a r ih =>
    intro h
    rw [prt, if_neg (by rw [h a (by simp)]; simp)]
    exact ih (fun q hq => h q (by simp [hq]))
theorem prt_all : ∀ {Ps : List (List Nd)}, prt Ps = 0 → ∀ q ∈ Ps, (ck q).2 = 0 := by
  intro Ps
  induction Ps with
  | nil => intro _ q hq; cases hq
  | cons a r ih =>
    intro h q hq
    rw [prt] at h
    by_cases h0 : (ck a).2 ≠ 0
    · rw [if_pos h0] at h; exact absurd h h0
    rw [if_neg h0] at h
    rcases List.mem_cons.1 hq with rfl | hq
    · exact Classical.byContradiction h0
    · exact ih h q hq
def jnE (n : Nd) (Ps : List (List Nd)) : Int := if alE n ≠ 0 then alE n else if (Ps.length : Int) ≠ ar n.op then 42 else if prt Ps ≠ 0 then prt Ps else (ck (Ps.flatten ++ [n])).2
def jnL (n : Nd) (Ps : List (List Nd)) : List Nd := if jnE n Ps = 0 then Ps.flatten ++ [n] else []
theorem jnE_1 {n : Nd} {Ps : List (List Nd)} (h : alE n ≠ 0) : jnE n Ps = alE n := by unfold jnE; rw [if_pos h]
theorem jnE_2 {n : Nd} {Ps : List (List Nd)} (h : alE n = 0) (h2 : (Ps.length : Int) ≠ ar n.op) : jnE n Ps = 42 := by unfold jnE; rw [if_neg (by rw [h]; simp), if_pos h2]
theorem jnE_3 {n : Nd} {Ps : List (List Nd)} (h : alE n = 0) (h2 : (Ps.length : Int) = ar n.op) (h3 : prt Ps ≠ 0) : jnE n Ps = prt Ps := by unfold jnE; rw [if_neg (by rw [h]; simp), if_neg (by rw [h2]; simp), if_pos h3]
theorem jnE_4 {n : Nd} {Ps : List (List Nd)} (h : alE n = 0) (h2 : (Ps.length : Int) = ar n.op) (h3 : prt Ps = 0) : jnE n Ps = (ck (Ps.flatten ++ [n])).2 := by unfold jnE; rw [if_neg (by rw [h]; simp), if_neg (by rw [h2]; simp), if_neg (by rw [h3]; simp)]
theorem flat_len : ∀ {Ps : List (List Nd)}, (∀ q ∈ Ps, Rt q) → Ps.flatten.length ≤ 2048 * Ps.length := by
  intro Ps
  induction Ps with
  | nil => intro _; simp
  | cons a r ih =>
    intro h
    have h1 := (h a (by simp)).len
    have h2 := ih (fun q hq => h q (by simp [hq]))
    rw [List.flatten_cons, List.length_append, List.length_cons]
    omega
theorem jnL_len {n : Nd} {Ps : List (List Nd)} : (jnL n Ps).length ≤ 8192 := by
  unfold jnL
  split
  · next h =>
    by_cases h1 : alE n = 0
    · by_cases h2 : (Ps.length : Int) = ar n.op
      · by_cases h3 : prt Ps = 0
        · have := flat_len (fun q hq => rt_of (prt_all h3 q hq))
          have := ar_hi n.op
          rw [List.length_append, List.length_singleton]
          omega
        · rw [jnE_3 h1 h2 h3] at h; exact absurd h h3
      · rw [jnE_2 h1 h2] at h; cases h
    · rw [jnE_1 h1] at h; exact absurd h h1
  · simp
theorem flatL_eq (ps : List Ls) : flatL ps = (ps.map fun p => p.2.2).flatten := by unfold flatL; rw [List.flatMap_def]
open Go.RowKit
def JnV (w w' : World) (n : Nd) (Ps : List (List Nd)) (e : Ending) : Prop := ∃ v, e = .returned (.tuple #[v, .int .i64 (jnE n Ps)]) ∧ w'.ownsRow w.heap.size 43 7 v (jnL n Ps).length (ndc (jnL n Ps))
theorem JnV.bad {w w' : World} {n : Nd} {Ps : List (List Nd)} {x : Int} (h : jnE n Ps = x) (hx : x ≠ 0) : JnV w w' n Ps (.returned (.tuple #[.slice none 0 0, .int .i64 x])) := by
  refine ⟨_, by rw [h], ?_⟩
  unfold jnL
  rw [h, if_neg hx]
  exact World.ownsRow_nil _ _ _ _
theorem JnV.end {w w' : World} {n : Nd} {Ps : List (List Nd)} (h : alE n = 0) (h2 : (Ps.length : Int) = ar n.op) (h3 : prt Ps = 0) {v : Value} {F : List Nd} (hF : F = Ps.flatten ++ [n]) (hv : w'.ownsRow w.heap.size 43 7 v (if (ck F).2 = 0 then F else []).length (ndc (if (ck F).2 = 0 then F else []))) : JnV w w' n Ps (.returned (.tuple #[v, .int .i64 (ck F).2])) := by
  subst hF
  refine ⟨v, by rw [jnE_4 h h2 h3], ?_⟩
  unfold jnL
  rw [jnE_4 h h2 h3]
  exact hv
/-- A list of lists, to be read. -/
def RdL (W : World) (A : Option Addr) (ps : List Ls) : Prop := (ps ≠ [] → ∃ g o, A = some ⟨g, o, none⟩ ∧ g < W.heap.size ∧ ∀ (i : Nat) p, ps[i]? = some p → W.cell? ⟨g, o + i, none⟩ = some (lsV p)) ∧ ∀ p ∈ ps, RdN W p.1 p.2.2
theorem RdL.below {W W' : World} {A : Option Addr} {ps : List Ls} {B : Nat} (h : RdL W A ps) (hb : Below B W W') (hB : W.heap.size ≤ B) : RdL W' A ps := ⟨fun hne => by
  obtain ⟨g, o, e, lg, hc⟩ := h.1 hne
  refine ⟨g, o, e, Nat.lt_of_lt_of_le lg hb.size, fun i p hp => ?_⟩
  exact (hb.cell (p := ⟨g, o + i, none⟩) (Nat.lt_of_lt_of_le lg hB)).trans (hc i p hp), fun p hp => (h.2 p hp).below hb hB⟩
end Go.Proofs.Ytfomodpjdaclgaa
