/- Plain: Fold. -/
import Derived.Test.YtlcmlipldkpliaaEach
namespace Go.Proofs.Ytlcmlipldkpliaa
open Go.RowKit

/-- One byte of the set, as the program folds it. -/
def fstep (y : BitVec 256) (b : Fin 256) : BitVec 256 :=
  if 65 ≤ b.val ∧ b.val ≤ 90 then y ||| bt (b.val + 32) else if 97 ≤ b.val ∧ b.val ≤ 122 then y ||| bt (b.val - 32) else y
def foldP (x : BitVec 256) (l : List (Fin 256)) : BitVec 256 := l.foldl fstep x
theorem foldP_snoc (x : BitVec 256) (l : List (Fin 256)) (b : Fin 256) : foldP x (l ++ [b]) = fstep (foldP x l) b := by
  unfold foldP; rw [List.foldl_append]; rfl
/-- The document's: k letters have been looked at. -/
def foldR (x : BitVec 256) : Nat → BitVec 256
  | 0 => x
  | k + 1 => if x.getLsbD (97 + k) || x.getLsbD (65 + k) then foldR x k ||| bt (97 + k) ||| bt (65 + k) else foldR x k

theorem foldP_get (x : BitVec 256) (k : Nat) (hk : k ≤ 256) (j : Nat) (hj : j < 256) : (foldP x (byf x k)).getLsbD j =
    (x.getLsbD j || (decide (97 ≤ j ∧ j ≤ 122 ∧ j - 32 < k) && x.getLsbD (j - 32)) || (decide (65 ≤ j ∧ j ≤ 90 ∧ j + 32 < k) && x.getLsbD (j + 32))) := by
  induction k with
  | zero => simp [byf, foldP]
  | succ k ih =>
    have ih := ih (by omega)
    cases hb : x.getLsbD k
    · rw [byf_no x k (by omega) hb, ih]
      congr 1
      · congr 1
        by_cases e : j - 32 = k
        · rw [e, hb]; simp
        · rw [show decide (97 ≤ j ∧ j ≤ 122 ∧ j - 32 < k + 1) = decide (97 ≤ j ∧ j ≤ 122 ∧ j - 32 < k) from decide_eq_decide.2 (by omega)]
      · by_cases e : j + 32 = k
        · rw [e, hb]; simp
        · rw [show decide (65 ≤ j ∧ j ≤ 90 ∧ j + 32 < k + 1) = decide (65 ≤ j ∧ j ≤ 90 ∧ j + 32 < k) from decide_eq_decide.2 (by omega)]
    · rw [byf_yes x k (by omega) hb, foldP_snoc]
      unfold fstep
      dsimp only
      by_cases h1 : 65 ≤ k ∧ k ≤ 90
      · rw [if_pos h1, BitVec.getLsbD_or, ih, bt_get _ _ (by omega)]
        by_cases e : j = k + 32
        · subst e
          have : x.getLsbD (k + 32 - 32) = true := by rw [Nat.add_sub_cancel]; exact hb
          have d1 : 97 ≤ k + 32 ∧ k + 32 ≤ 122 ∧ k + 32 - 32 < k + 1 := by omega
          rw [this, decide_eq_true d1]; simp
        · rw [show decide (97 ≤ j ∧ j ≤ 122 ∧ j - 32 < k + 1) = decide (97 ≤ j ∧ j ≤ 122 ∧ j - 32 < k) from decide_eq_decide.2 (by omega)]
          rw [show decide (65 ≤ j ∧ j ≤ 90 ∧ j + 32 < k + 1) = decide (65 ≤ j ∧ j ≤ 90 ∧ j + 32 < k) from decide_eq_decide.2 (by omega)]
          simp [e]
      · rw [if_neg h1]
        by_cases h2 : 97 ≤ k ∧ k ≤ 122
        · rw [if_pos h2, BitVec.getLsbD_or, ih, bt_get _ _ (by omega)]
          by_cases e : j = k - 32
          · subst e
            have : x.getLsbD (k - 32 + 32) = true := by rw [Nat.sub_add_cancel (by omega)]; exact hb
            have d1 : 65 ≤ k - 32 ∧ k - 32 ≤ 90 ∧ k - 32 + 32 < k + 1 := by omega
            rw [this, decide_eq_true d1]; simp
          · rw [show decide (97 ≤ j ∧ j ≤ 122 ∧ j - 32 < k + 1) = decide (97 ≤ j ∧ j ≤ 122 ∧ j - 32 < k) from decide_eq_decide.2 (by omega)]
            rw [show decide (65 ≤ j ∧ j ≤ 90 ∧ j + 32 < k + 1) = decide (65 ≤ j ∧ j ≤ 90 ∧ j + 32 < k) from decide_eq_decide.2 (by omega)]
            simp [e]
        · rw [if_neg h2, ih]
          rw [show decide (97 ≤ j ∧ j ≤ 122 ∧ j - 32 < k + 1) = decide (97 ≤ j ∧ j ≤ 122 ∧ j - 32 < k) from decide_eq_decide.2 (by omega)]
          rw [show decide (65 ≤ j ∧ j ≤ 90 ∧ j + 32 < k + 1) = decide (65 ≤ j ∧ j ≤ 90 ∧ j + 32 < k) from decide_eq_decide.2 (by omega)]

theorem foldR_get (x : BitVec 256) (k : Nat) (hk : k ≤ 26) (j : Nat) (hj : j < 256) : (foldR x k).getLsbD j =
    (x.getLsbD j || (decide (97 ≤ j ∧ j < 97 + k) && x.getLsbD (j - 32)) || (decide (65 ≤ j ∧ j < 65 + k) && x.getLsbD (j + 32))) := by
  induction k with
  | zero =>
    have e1 : ¬ (97 ≤ j ∧ j < 97 + 0) := by omega
    have e2 : ¬ (65 ≤ j ∧ j < 65 + 0) := by omega
    simp only [foldR, decide_eq_false e1, decide_eq_false e2]; simp
  | succ k ih =>
    have ih := ih (by omega)
    rw [foldR]
    by_cases ea : j = 97 + k
    · subst ea
      have q : x.getLsbD (97 + k - 32) = x.getLsbD (65 + k) := by rw [show 97 + k - 32 = 65 + k from by omega]
      have d1 : (97 ≤ 97 + k ∧ 97 + k < 97 + (k + 1)) := by omega
      have d2 : ¬ (65 ≤ 97 + k ∧ 97 + k < 65 + (k + 1)) := by omega
      have d3 : ¬ (97 ≤ 97 + k ∧ 97 + k < 97 + k) := by omega
      have d4 : ¬ (65 ≤ 97 + k ∧ 97 + k < 65 + k) := by omega
      rw [decide_eq_false d3, decide_eq_false d4] at ih
      rw [q, decide_eq_true d1, decide_eq_false d2]
      cases h1 : x.getLsbD (97 + k) <;> cases h2 : x.getLsbD (65 + k) <;> simp [BitVec.getLsbD_or, bt_get _ _ (show 97 + k < 256 by omega), ih, h1]
    · by_cases eb : j = 65 + k
      · subst eb
        have q : x.getLsbD (65 + k + 32) = x.getLsbD (97 + k) := by rw [show 65 + k + 32 = 97 + k from by omega]
        have d1 : ¬ (97 ≤ 65 + k ∧ 65 + k < 97 + (k + 1)) := by omega
        have d2 : (65 ≤ 65 + k ∧ 65 + k < 65 + (k + 1)) := by omega
        have d3 : ¬ (97 ≤ 65 + k ∧ 65 + k < 97 + k) := by omega
        have d4 : ¬ (65 ≤ 65 + k ∧ 65 + k < 65 + k) := by omega
        rw [decide_eq_false d3, decide_eq_false d4] at ih
        rw [q, decide_eq_false d1, decide_eq_true d2]
        cases h1 : x.getLsbD (97 + k) <;> cases h2 : x.getLsbD (65 + k) <;> simp [BitVec.getLsbD_or, bt_get _ _ (show 65 + k < 256 by omega), ih, h2]
      · rw [show decide (97 ≤ j ∧ j < 97 + (k + 1)) = decide (97 ≤ j ∧ j < 97 + k) from decide_eq_decide.2 (by omega)]
        rw [show decide (65 ≤ j ∧ j < 65 + (k + 1)) = decide (65 ≤ j ∧ j < 65 + k) from decide_eq_decide.2 (by omega)]
        split
        · rw [BitVec.getLsbD_or, BitVec.getLsbD_or, bt_get _ _ (by omega), bt_get _ _ (by omega), ih]; simp [ea, eb]
        · exact ih

theorem fold_same (x : BitVec 256) : foldP x (byf x 256) = foldR x 26 := by
  refine set_eq _ _ fun j hj => ?_
  rw [foldP_get x 256 (Nat.le_refl _) j hj, foldR_get x 26 (Nat.le_refl _) j hj]
  rw [show decide (97 ≤ j ∧ j ≤ 122 ∧ j - 32 < 256) = decide (97 ≤ j ∧ j < 97 + 26) from decide_eq_decide.2 (by omega)]
  rw [show decide (65 ≤ j ∧ j ≤ 90 ∧ j + 32 < 256) = decide (65 ≤ j ∧ j < 65 + 26) from decide_eq_decide.2 (by omega)]
end Go.Proofs.Ytlcmlipldkpliaa
