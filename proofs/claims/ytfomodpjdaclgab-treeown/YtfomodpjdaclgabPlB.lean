/- Plain: which nodes are right: the parts that are free ahead of a node, its own part, what is wrong with it, and what Check answers. -/
import Derived.Test.YtfomodpjdaclgabPlA
namespace Go.Proofs.Ytfomodpjdaclgab

/-- A part: its first and its last node, its height. -/
abbrev Pt := Nat × Nat × Nat

def opAt (L : List Nd) (k : Nat) : Int := match L[k]? with
  | some n => n.op
  | none => 0
def arN (op : Int) : Nat := (ar op).toNat
/-- The part that ends with node k, by the parts that are free ahead of it (the last one first). -/
def mk (L : List Nd) (k : Nat) (op : Int) (st : List Pt) : Pt :=
  if arN op = 0 then (k, k, 1) else if arN op = 1 then (match st with
    | x :: _ => (x.1, k, max 1 (x.2.2 + 1))
    | [] => (k, k, 1)) else (match st with
    | y :: x :: _ => (x.1, k, max (max 1 (if opAt L x.2.1 = op then x.2.2 else x.2.2 + 1)) (y.2.2 + 1))
    | _ => (k, k, 1))
def run (L : List Nd) : Nat → List Pt
  | 0 => []
  | k + 1 => mk L k (opAt L k) (run L k) :: (run L k).drop (arN (opAt L k))
def pt (L : List Nd) (k : Nat) : Pt := mk L k (opAt L k) (run L k)
theorem run_succ (L : List Nd) (k : Nat) : run L (k + 1) = pt L k :: (run L k).drop (arN (opAt L k)) := rfl

/-- What is wrong with node k; 0: nothing. -/
def er (L : List Nd) (k : Nat) : Int := match L[k]? with
  | none => 0
  | some n => if alE n ≠ 0 then alE n else if (run L k).length < arN n.op then 42 else if 60 < (pt L k).2.2 then 4 else 0
def ckGo (L : List Nd) : Nat → Nat → Nat × Int
  | 0, _ => if (run L L.length).length = 1 then (0, 0) else (L.length, 42)
  | m + 1, k => if er L k ≠ 0 then (k, er L k) else ckGo L m (k + 1)
def ck (L : List Nd) : Nat × Int := if 2048 < L.length then (0, 2) else ckGo L L.length 0

theorem ckGo_from (L : List Nd) : ∀ (k m : Nat), k + m = L.length → (∀ j, j < k → er L j = 0) → ckGo L L.length 0 = ckGo L m k := by
  intro k
  induction k with
  | zero => intro m hm _; rw [← hm, Nat.zero_add]
  | succ k ih =>
    intro m hm h
    rw [ih (m + 1) (by omega) (fun j hj => h j (by omega)), ckGo, if_neg (by rw [h k (by omega)]; simp)]
theorem ck_bad {L : List Nd} {k : Nat} (hl : ¬ 2048 < L.length) (hk : k < L.length) (h : ∀ j, j < k → er L j = 0) (he : er L k ≠ 0) : ck L = (k, er L k) := by
  rw [ck, if_neg hl, ckGo_from L k (L.length - k) (by omega) h, show L.length - k = (L.length - k - 1) + 1 from by omega, ckGo, if_pos he]
theorem ck_end {L : List Nd} (hl : ¬ 2048 < L.length) (h : ∀ j, j < L.length → er L j = 0) : ck L = if (run L L.length).length = 1 then (0, 0) else (L.length, 42) := by
  rw [ck, if_neg hl, ckGo_from L L.length 0 (by omega) h, ckGo]
theorem ck_long {L : List Nd} (hl : 2048 < L.length) : ck L = (0, 2) := by rw [ck, if_pos hl]
/-- Right. -/
structure Rt (L : List Nd) : Prop where
  len : ¬ 2048 < L.length
  each : ∀ j, j < L.length → er L j = 0
  one : (run L L.length).length = 1
theorem Rt.ck {L : List Nd} (h : Rt L) : ck L = (0, 0) := by rw [ck_end h.len h.each, if_pos h.one]
theorem ckGo_ok (L : List Nd) : ∀ (m k : Nat), k + m = L.length → (ckGo L m k).2 = 0 → (∀ j, k ≤ j → j < L.length → er L j = 0) ∧ (run L L.length).length = 1 := by
  intro m
  induction m with
  | zero =>
    intro k hk h
    refine ⟨fun j h1 h2 => by omega, ?_⟩
    rw [ckGo] at h
    split at h
    · assumption
    · cases h
  | succ m ih =>
    intro k hk h
    rw [ckGo] at h
    split at h
    · next he => exact absurd h he
    · next he =>
      obtain ⟨h1, h2⟩ := ih (k + 1) (by omega) h
      refine ⟨fun j a b => ?_, h2⟩
      by_cases hj : j = k
      · subst hj
        exact Classical.byContradiction he
      · exact h1 j (by omega) b
theorem rt_of {L : List Nd} (h : (ck L).2 = 0) : Rt L := by
  unfold ck at h
  split at h
  · cases h
  · next hl =>
    obtain ⟨h1, h2⟩ := ckGo_ok L L.length 0 (by omega) h
    exact ⟨hl, fun j hj => h1 j (by omega) hj, h2⟩

theorem er_of {L : List Nd} {k : Nat} {n : Nd} (h : L[k]? = some n) : er L k = if alE n ≠ 0 then alE n else if (run L k).length < arN n.op then 42 else if 60 < (pt L k).2.2 then 4 else 0 := by
  unfold er; rw [h]
theorem op_of {L : List Nd} {k : Nat} {n : Nd} (h : L[k]? = some n) : opAt L k = n.op := by unfold opAt; rw [h]
theorem alE_ar {n : Nd} (h : alE n = 0) : 0 ≤ ar n.op := by
  unfold alE at h
  split at h
  · cases h
  · omega

/-- What lies free ahead of node k lies one behind the other. -/
def Chn (L : List Nd) : Nat → List Pt → Prop
  | at', [] => at' = 0
  | at', x :: r => x.2.1 + 1 = at' ∧ x = pt L x.2.1 ∧ x.1 ≤ x.2.1 ∧ Chn L x.1 r
theorem mk_last (L : List Nd) (k : Nat) (op : Int) (st : List Pt) : (mk L k op st).2.1 = k := by
  unfold mk
  split
  · rfl
  · split
    · split <;> rfl
    · split <;> rfl
theorem arN_le (op : Int) : arN op ≤ 2 := by unfold arN; have := ar_hi op; omega
theorem chn_run (L : List Nd) : ∀ k, k ≤ L.length → (∀ j, j < k → er L j = 0) → Chn L k (run L k) := by
  intro k
  induction k with
  | zero => intro _ _; exact rfl
  | succ k ih =>
    intro hk h
    have c := ih (by omega) (fun j hj => h j (by omega))
    have hn : L[k]? = some L[k] := List.getElem?_eq_getElem (by omega)
    have he := h k (by omega)
    rw [er_of hn] at he
    have ha : alE L[k] = 0 := by
      apply Classical.byContradiction
      intro q
      rw [if_pos q] at he
      exact q he
    rw [if_neg (by simp [ha])] at he
    have hl : ¬ (run L k).length < arN L[k].op := by
      intro q
      rw [if_pos q] at he
      cases he
    have hop := op_of hn
    rw [run_succ]
    have hlast : (pt L k).2.1 = k := mk_last _ _ _ _
    refine ⟨by rw [hlast], by rw [hlast], ?_, ?_⟩
    · rw [hlast]
      unfold pt mk
      rw [hop]
      split
      · exact Nat.le_refl _
      · split
        · cases hr : run L k with
          | nil => exact Nat.le_refl _
          | cons x r => rw [hr] at c; have := c.1; have := c.2.2.1; show x.1 ≤ k; omega
        · cases hr : run L k with
          | nil => exact Nat.le_refl _
          | cons y r =>
            rw [hr] at c
            cases hr2 : r with
            | nil => exact Nat.le_refl _
            | cons x r2 =>
              rw [hr2] at c
              have h1 := c.1; have h2 := c.2.2.1; have h3 := c.2.2.2.1; have h4 := c.2.2.2.2.2.1
              show x.1 ≤ k
              omega
    · have h2 := arN_le L[k].op
      unfold pt mk
      rw [hop]
      by_cases a0 : arN L[k].op = 0
      · rw [if_pos a0, a0]
        exact c
      · rw [if_neg a0]
        by_cases a1 : arN L[k].op = 1
        · rw [if_pos a1, a1]
          rw [a1] at hl
          cases hr : run L k with
          | nil => rw [hr] at hl; exact absurd (by simp) hl
          | cons x r => rw [hr] at c; exact c.2.2.2
        · rw [if_neg a1, show arN L[k].op = 2 from by omega]
          rw [show arN L[k].op = 2 from by omega] at hl
          cases hr : run L k with
          | nil => rw [hr] at hl; exact absurd (by simp) hl
          | cons y r =>
            rw [hr] at c hl
            cases hr2 : r with
            | nil => rw [hr2] at hl; exact absurd (by simp) hl
            | cons x r2 => rw [hr2] at c; exact c.2.2.2.2.2.2
end Go.Proofs.Ytfomodpjdaclgab
