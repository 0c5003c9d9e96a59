/- DERIVED. Rows of rows that a call owns. -/
import Derived.Test.YtiillgahnbimjabDoorPlF
import Derived.Maps.Range
import Derived.OwnWalk
import Derived.ProofKit
namespace Go.Proofs.YtiillgahnbimjabDoor
open Go.RowKit

theorem own_base {w : World} {a b e size : Nat} {v : Value} {n : Nat} {xs : List Value} (h : w.ownsRow b e size v n xs) (hab : a ≤ b) : w.ownsRow a e size v n xs := by
  obtain ⟨h1, h2⟩ := h
  refine ⟨h1, ?_⟩
  rcases h2 with h2 | ⟨g, cap, cur, h3, h4, h5⟩
  · exact .inl h2
  · exact .inr ⟨g, cap, cur, h3, Nat.le_trans hab h4, h5⟩
theorem Below.grow {w w' : World} (hb : Below w.heap.size w w') (row : Option Nat) : w.grownBy w' row := ⟨hb.os, hb.tape, hb.output, hb.size, fun k hk _ => hb.block k hk⟩
theorem own_below {w w' : World} {base e size : Nat} {v : Value} {n : Nat} {xs : List Value} (h : w.ownsRow base e size v n xs) (hb : Below w.heap.size w w') : w'.ownsRow base e size v n xs := by
  refine h.kept (row := none) (Below.grow hb none) ?_
  cases h2 : v.ownBlock
  · exact .inl rfl
  · exact .inr (by simp)

/-- A list of shapes that the call owns: no two of its lists share any memory. -/
structure RR (W : World) (B : Nat) (v : Value) (ss : List Shape) (xs : List Value) : Prop where
  o : W.ownsRow B 30 1 v xs.length xs
  len : xs.length = ss.length
  each : ∀ (i : Nat) x s, xs[i]? = some x → ss[i]? = some s → W.ownsRow B 34 2 x s.length (spc s) ∧ x.ownBlock ≠ none ∧ x.ownBlock ≠ v.ownBlock
  apart : ∀ (i j : Nat) x y, xs[i]? = some x → xs[j]? = some y → i ≠ j → x.ownBlock ≠ y.ownBlock

theorem RR.nil (W : World) (B : Nat) : RR W B (.slice none 0 0) [] [] :=
  ⟨World.ownsRow_nil _ _ _ _, rfl, fun _ _ _ h => (by cases h), fun _ _ _ _ h => (by cases h)⟩
theorem RR.lt {W : World} {B : Nat} {v : Value} {ss : List Shape} {xs : List Value} (h : RR W B v ss xs) {i : Nat} {x : Value} (hx : xs[i]? = some x) : ∃ g, x.ownBlock = some g ∧ B ≤ g ∧ g < W.heap.size := by
  have hi : i < ss.length := by
    rw [← h.len]
    by_cases q : i < xs.length
    · exact q
    · rw [List.getElem?_eq_none (by omega)] at hx; cases hx
  obtain ⟨h1, h2, _⟩ := h.each i x _ hx (List.getElem?_eq_getElem hi)
  cases hb : x.ownBlock with
  | none => exact absurd hb h2
  | some g => exact ⟨g, rfl, (h1.lt g hb).1, (h1.lt g hb).2⟩
theorem RR.below {W W' : World} {B : Nat} {v : Value} {ss : List Shape} {xs : List Value} (h : RR W B v ss xs) (hb : Below W.heap.size W W') : RR W' B v ss xs :=
  ⟨own_below h.o hb, h.len, fun i x s hx hs => ⟨own_below (h.each i x s hx hs).1 hb, (h.each i x s hx hs).2⟩, h.apart⟩
theorem RR.alloc {W : World} {B : Nat} {v : Value} {ss : List Shape} {xs : List Value} (h : RR W B v ss xs) (o : Obj) : RR (W.alloc o) B v ss xs :=
  h.below ((Below.refl _ _).alloc (Nat.le_refl _) _)
theorem RR.drew {W : World} {B : Nat} {v : Value} {ss : List Shape} {xs : List Value} (h : RR W B v ss xs) : RR W.drew B v ss xs :=
  h.below (Below.refl _ _).drew
/-- One shape more. -/
theorem RR.push {W W1 : World} {B : Nat} {v y : Value} {ss : List Shape} {s : Shape} {xs : List Value} {g0 g cap : Nat} {ob : Obj} (h : RR W B v ss xs) (hy : W.ownsRow B 34 2 y s.length (spc s)) (hyb : y.ownBlock = some g0)
    (hyv : v.ownBlock ≠ some g0) (hyx : ∀ (i : Nat) x, xs[i]? = some x → x.ownBlock ≠ some g0)
    (hown : W1.ownsRow B 30 1 (.slice (some ⟨g, 0, none⟩) (xs.length + 1) cap) (xs.length + 1) (xs ++ [y])) (hgrow : (W.alloc ob).grownBy W1 v.ownBlock) (hat : v.ownBlock = some g ∨ g = W.heap.size + 1) :
    RR W1 B (.slice (some ⟨g, 0, none⟩) (xs.length + 1) cap) (ss ++ [s]) (xs ++ [y]) := by
  have hal := h.alloc ob
  have hya := hy.alloc ob
  have hg0 := (hy.lt g0 hyb).2
  have hne : ∀ x : Value, (∃ k, x.ownBlock = some k ∧ k < W.heap.size) → x.ownBlock ≠ v.ownBlock → x.ownBlock ≠ (Value.slice (some ⟨g, 0, none⟩) (xs.length + 1) cap).ownBlock := by
    rintro x ⟨k, hk, hlt⟩ hv e
    rw [hk] at e
    have e2 : k = g := Option.some.inj e
    rcases hat with q | q
    · exact hv (by rw [hk, q, e2])
    · omega
  refine ⟨?_, by rw [List.length_append, List.length_append, h.len]; rfl, ?_, ?_⟩
  · rw [List.length_append]; exact hown
  · intro i x t hx ht
    by_cases hi : i < xs.length
    · rw [List.getElem?_append_left hi] at hx
      rw [List.getElem?_append_left (by rw [← h.len]; exact hi)] at ht
      obtain ⟨e1, e2, e3⟩ := hal.each i x t hx ht
      obtain ⟨k, hk, _, hlt⟩ := h.lt hx
      exact ⟨e1.kept hgrow (.inr e3), e2, hne x ⟨k, hk, hlt⟩ e3⟩
    · rw [List.getElem?_append_right (by omega)] at hx
      rw [List.getElem?_append_right (by rw [← h.len]; omega), ← h.len] at ht
      have hi0 : i - xs.length = 0 := by
        by_cases q : i - xs.length = 0
        · exact q
        · rw [List.getElem?_eq_none (by simp; omega)] at hx; cases hx
      rw [hi0] at hx ht
      cases hx
      cases ht
      have hv : y.ownBlock ≠ v.ownBlock := by rw [hyb]; exact Ne.symm hyv
      exact ⟨hya.kept hgrow (.inr hv), by rw [hyb]; simp, hne y ⟨g0, hyb, hg0⟩ hv⟩
  · intro i j x z hx hz hij
    by_cases hi : i < xs.length
    · rw [List.getElem?_append_left hi] at hx
      by_cases hj : j < xs.length
      · rw [List.getElem?_append_left hj] at hz
        exact h.apart i j x z hx hz hij
      · rw [List.getElem?_append_right (by omega)] at hz
        have hj0 : j - xs.length = 0 := by
          by_cases q : j - xs.length = 0
          · exact q
          · rw [List.getElem?_eq_none (by simp; omega)] at hz; cases hz
        rw [hj0] at hz
        cases hz
        rw [hyb]
        exact hyx i x hx
    · rw [List.getElem?_append_right (by omega)] at hx
      have hi0 : i - xs.length = 0 := by
        by_cases q : i - xs.length = 0
        · exact q
        · rw [List.getElem?_eq_none (by simp; omega)] at hx; cases hx
      rw [hi0] at hx
      cases hx
      by_cases hj : j < xs.length
      · rw [List.getElem?_append_left hj] at hz
        rw [hyb]
        exact Ne.symm (hyx j z hz)
      · rw [List.getElem?_append_right (by omega)] at hz
        have hj0 : j - xs.length = 0 := by
          by_cases q : j - xs.length = 0
          · exact q
          · rw [List.getElem?_eq_none (by simp; omega)] at hz; cases hz
        omega
end Go.Proofs.YtiillgahnbimjabDoor
