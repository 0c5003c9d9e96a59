/- Plain: the spans of a set's bytes. -/
import Derived.Test.YtlcmlipldkpliaaBytesA
namespace Go.Proofs.Ytlcmlipldkpliaa
open Go.RowKit

/-- One byte more, behind the spans of those before it. -/
def spStep (l : List (Int × Int)) (b : Int) : List (Int × Int) := match l.getLast? with
  | some p => if p.2 + 1 = b then l.dropLast ++ [(p.1, b)] else l ++ [(b, b)]
  | none => [(b, b)]
def spL (bs : List Int) : List (Int × Int) := bs.foldl spStep []
theorem spL_snoc (bs : List Int) (b : Int) : spL (bs ++ [b]) = spStep (spL bs) b := by unfold spL; rw [List.foldl_append]; rfl
theorem spStep_nil (b : Int) : spStep [] b = [(b, b)] := rfl
theorem spStep_hit (l : List (Int × Int)) (lo hi b : Int) (h : hi + 1 = b) : spStep (l ++ [(lo, hi)]) b = l ++ [(lo, b)] := by
  unfold spStep; simp [h]
theorem spStep_miss (l : List (Int × Int)) (lo hi b : Int) (h : hi + 1 ≠ b) : spStep (l ++ [(lo, hi)]) b = l ++ [(lo, hi)] ++ [(b, b)] := by
  unfold spStep; simp [h]
theorem snoc_cases {α : Type} (l : List α) : l = [] ∨ ∃ m a, l = m ++ [a] := by
  rcases List.eq_nil_or_concat l with h | ⟨m, a, h⟩
  · exact .inl h
  · exact .inr ⟨m, a, by rw [h, List.concat_eq_append]⟩
theorem spStep_len (l : List (Int × Int)) (b : Int) : (spStep l b).length ≤ l.length + 1 := by
  rcases snoc_cases l with rfl | ⟨m, ⟨lo, hi⟩, rfl⟩
  · simp [spStep]
  · by_cases h : hi + 1 = b
    · rw [spStep_hit _ _ _ _ h]; simp
    · rw [spStep_miss _ _ _ _ h]; simp
theorem spL_len (bs : List Int) : (spL bs).length ≤ bs.length := by
  have key : ∀ n (bs : List Int), bs.length = n → (spL bs).length ≤ n := fun n => by
    induction n with
    | zero => intro bs h; rw [List.eq_nil_of_length_eq_zero h]; exact Nat.le_refl _
    | succ n ih =>
      intro bs h
      rcases snoc_cases bs with rfl | ⟨m, b, rfl⟩
      · simp at h
      · rw [spL_snoc]
        have h1 := ih m (by simp at h; exact h)
        have h2 := spStep_len (spL m) b
        omega
  exact key _ bs rfl
/-- The last span ends at the last byte. -/
theorem spL_last (m : List Int) (b : Int) : ∃ l lo, spL (m ++ [b]) = l ++ [(lo, b)] := by
  rw [spL_snoc]
  rcases snoc_cases (spL m) with h | ⟨l, ⟨lo, hi⟩, h⟩
  · rw [h]; exact ⟨[], b, rfl⟩
  · rw [h]
    by_cases e : hi + 1 = b
    · rw [spStep_hit _ _ _ _ e]; exact ⟨l, lo, rfl⟩
    · rw [spStep_miss _ _ _ _ e]; exact ⟨_, b, rfl⟩
/-- The cells of a list of spans. -/
def spc (l : List (Int × Int)) : List Value := l.flatMap fun p => [.int .i64 p.1, .int .i64 p.2]
theorem spc_append (a b : List (Int × Int)) : spc (a ++ b) = spc a ++ spc b := by unfold spc; rw [List.flatMap_append]
theorem spc_len (l : List (Int × Int)) : (spc l).length = l.length * 2 := by
  induction l with
  | nil => rfl
  | cons p l ih => unfold spc at *; rw [List.flatMap_cons, List.length_append, ih]; simp; omega
theorem spc_lo (l : List (Int × Int)) (i : Nat) (h : i < l.length) : (spc l)[i * 2]? = some (.int .i64 (l[i]).1) := by
  induction l generalizing i with
  | nil => simp at h
  | cons p l ih =>
    have e : spc (p :: l) = .int .i64 p.1 :: .int .i64 p.2 :: spc l := by unfold spc; rfl
    rw [e]
    cases i with
    | zero => rfl
    | succ i => rw [show (i + 1) * 2 = i * 2 + 1 + 1 from by omega]; simp only [List.getElem?_cons_succ, List.getElem_cons_succ]; exact ih i (by simpa using h)
theorem spc_hi (l : List (Int × Int)) (i : Nat) (h : i < l.length) : (spc l)[i * 2 + 1]? = some (.int .i64 (l[i]).2) := by
  induction l generalizing i with
  | nil => simp at h
  | cons p l ih =>
    have e : spc (p :: l) = .int .i64 p.1 :: .int .i64 p.2 :: spc l := by unfold spc; rfl
    rw [e]
    cases i with
    | zero => rfl
    | succ i => rw [show (i + 1) * 2 + 1 = i * 2 + 1 + 1 + 1 from by omega]; simp only [List.getElem?_cons_succ, List.getElem_cons_succ]; exact ih i (by simpa using h)
theorem spc_set (l : List (Int × Int)) (lo hi b : Int) : (spc (l ++ [(lo, hi)])).set (l.length * 2 + 1) (.int .i64 b) = spc (l ++ [(lo, b)]) := by
  rw [spc_append, spc_append, List.set_append_right _ _ (by rw [spc_len]; omega), spc_len]
  rw [show l.length * 2 + 1 - l.length * 2 = 1 from by omega]
  rfl

/-- Every number of the spans is one of the bytes. -/
theorem spL_mem (bs : List Int) (p : Int × Int) (h : p ∈ spL bs) : p.1 ∈ bs ∧ p.2 ∈ bs := by
  have key : ∀ n (bs : List Int), bs.length = n → ∀ p ∈ spL bs, p.1 ∈ bs ∧ p.2 ∈ bs := fun n => by
    induction n with
    | zero => intro bs h p hp; rw [List.eq_nil_of_length_eq_zero h] at hp; simp [spL] at hp
    | succ n ih =>
      intro bs h p hp
      rcases snoc_cases bs with rfl | ⟨m, b, rfl⟩
      · simp at h
      · have ihm := ih m (by simp at h; exact h)
        rw [spL_snoc] at hp
        have old : ∀ q ∈ spL m, q.1 ∈ m ++ [b] ∧ q.2 ∈ m ++ [b] := fun q hq => ⟨List.mem_append_left _ (ihm q hq).1, List.mem_append_left _ (ihm q hq).2⟩
        have new : b ∈ m ++ [b] := by simp
        rcases snoc_cases (spL m) with hs | ⟨l, ⟨lo, hi⟩, hs⟩
        · rw [hs] at hp; simp [spStep] at hp; subst hp; exact ⟨new, new⟩
        · rw [hs] at hp old
          by_cases e : hi + 1 = b
          · rw [spStep_hit _ _ _ _ e] at hp
            rcases List.mem_append.1 hp with h1 | h1
            · exact old p (List.mem_append_left _ h1)
            · simp at h1; subst h1; exact ⟨(old (lo, hi) (by simp)).1, new⟩
          · rw [spStep_miss _ _ _ _ e] at hp
            rcases List.mem_append.1 hp with h1 | h1
            · exact old p h1
            · simp at h1; subst h1; exact ⟨new, new⟩
  exact key _ bs rfl p h
end Go.Proofs.Ytlcmlipldkpliaa
