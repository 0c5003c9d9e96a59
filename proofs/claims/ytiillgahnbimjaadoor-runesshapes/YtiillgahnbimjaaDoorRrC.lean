/- DERIVED. A shape of a list gets a span more. -/
import Derived.Test.YtiillgahnbimjaaDoorRrB
namespace Go.Proofs.YtiillgahnbimjaaDoor
open Go.RowKit

theorem own_blk {W W' : World} {base e size n : Nat} {v : Value} {xs : List Value} (h : W.ownsRow base e size v n xs) (hk : ∀ k, v.ownBlock = some k → W'.heap[k]? = W.heap[k]?) : W'.ownsRow base e size v n xs := by
  obtain ⟨h1, h2⟩ := h
  refine ⟨h1, ?_⟩
  rcases h2 with h2 | ⟨g, cap, cur, rfl, h3, h4, h5⟩
  · exact .inl h2
  · exact .inr ⟨g, cap, cur, rfl, h3, (hk g rfl).trans h4, h5⟩
theorem RR.blk {W W' : World} {B : Nat} {v : Value} {ss : List Shape} {xs : List Value} (h : RR W B v ss xs) (hv : ∀ k, v.ownBlock = some k → W'.heap[k]? = W.heap[k]?) (hx : ∀ (i : Nat) y k, xs[i]? = some y → y.ownBlock = some k → W'.heap[k]? = W.heap[k]?) : RR W' B v ss xs :=
  ⟨own_blk h.o hv, h.len, fun i x s hi hs => ⟨own_blk (h.each i x s hi hs).1 (fun k e => hx i x k hi e), (h.each i x s hi hs).2⟩, h.apart⟩

theorem RR.spoil {W W2 : World} {B g g' cap cap' i : Nat} {ss : List Shape} {xs : List Value} {x : Value} {s : Shape} {p : Int × Int} {ob : Obj} (h : RR W B (.slice (some ⟨g, 0, none⟩) xs.length cap) ss xs) (hx : xs[i]? = some x) (hs : ss[i]? = some s)
    (hown : W2.ownsRow B 56 2 (.slice (some ⟨g', 0, none⟩) (s.length + 1) cap') (s.length + 1) (spc s ++ [.int .i64 p.1, .int .i64 p.2])) (hgrow : (W.alloc ob).grownBy W2 x.ownBlock) (hat : x.ownBlock = some g' ∨ g' = W.heap.size + 1) :
    RR (W2.setCell ⟨g, i, none⟩ (.slice (some ⟨g', 0, none⟩) (s.length + 1) cap')) B (.slice (some ⟨g, 0, none⟩) xs.length cap) (ss.set i (s ++ [p])) (xs.set i (.slice (some ⟨g', 0, none⟩) (s.length + 1) cap')) := by
  have hi : i < xs.length := by
    by_cases q : i < xs.length
    · exact q
    · rw [List.getElem?_eq_none (by omega)] at hx; cases hx
  have hi2 : i < ss.length := by rw [← h.len]; exact hi
  obtain ⟨gx, hgx, _, hgxl⟩ := h.lt hx
  have hgl : g < W.heap.size := (h.o.lt g rfl).2
  have hxv : x.ownBlock ≠ some g := (h.each i x s hx hs).2.2
  have hgg' : g' ≠ g := by
    rcases hat with q | q
    · rintro rfl; exact hxv q
    · omega
  have o2 := ((h.o.alloc ob).kept hgrow (.inr (Ne.symm hxv)))
  obtain ⟨st1, st2⟩ := o2.stored i (.slice (some ⟨g', 0, none⟩) (s.length + 1) cap')
  refine ⟨by rw [List.length_set]; exact st1, by rw [List.length_set, List.length_set]; exact h.len, ?_, ?_⟩
  · intro j y t hy ht
    by_cases hj : j = i
    · subst hj
      rw [List.getElem?_set_self hi] at hy
      rw [List.getElem?_set_self hi2] at ht
      cases hy
      cases ht
      refine ⟨?_, by simp [Value.ownBlock], fun e => hgg' (Option.some.inj e)⟩
      rw [List.length_append, spc_append]
      exact hown.kept st2 (.inr fun e => hgg' (Option.some.inj e))
    · rw [List.getElem?_set_ne (Ne.symm hj)] at hy ht
      obtain ⟨e1, e2, e3⟩ := h.each j y t hy ht
      have hap := h.apart j i y x hy hx hj
      exact ⟨((e1.alloc ob).kept hgrow (.inr hap)).kept st2 (.inr e3), e2, e3⟩
  · intro j k y z hy hz hjk
    have far : ∀ (m : Nat) u, m ≠ i → xs[m]? = some u → u.ownBlock ≠ some g' := fun m u hm hu e => by
      rcases hat with q | q
      · exact h.apart m i u x hu hx hm (by rw [e, q])
      · obtain ⟨gu, hgu, _, hlt⟩ := h.lt hu
        rw [hgu] at e
        have e2 : gu = g' := Option.some.inj e
        omega
    by_cases hj : j = i
    · subst hj
      rw [List.getElem?_set_self hi] at hy
      rw [List.getElem?_set_ne hjk] at hz
      cases hy
      exact Ne.symm (far k z (Ne.symm hjk) hz)
    · rw [List.getElem?_set_ne (Ne.symm hj)] at hy
      by_cases hk : k = i
      · subst hk
        rw [List.getElem?_set_self hi] at hz
        cases hz
        exact far j y hj hy
      · rw [List.getElem?_set_ne (Ne.symm hk)] at hz
        exact h.apart j k y z hy hz hjk

/-- The first shapes with a span more. -/
def spo (ss : List Shape) : Nat → List Shape
  | 0 => ss
  | k + 1 => (spo ss k).set k (((spo ss k)[k]?.getD []) ++ [(-7 - (k : Int), 0)])
theorem spo_len (ss : List Shape) (k : Nat) : (spo ss k).length = ss.length := by
  induction k with
  | zero => rfl
  | succ k ih => rw [spo, List.length_set, ih]
theorem spo_get (ss : List Shape) (k i : Nat) : (spo ss k)[i]? = if i < k then (ss[i]?).map (fun s => s ++ [(-7 - (i : Int), 0)]) else ss[i]? := by
  induction k generalizing i with
  | zero => simp [spo]
  | succ k ih =>
    rw [spo]
    by_cases h : i = k
    · subst h
      rw [if_pos (by omega)]
      by_cases hl : i < ss.length
      · rw [List.getElem?_set_self (by rw [spo_len]; exact hl), ih i, if_neg (by omega), List.getElem?_eq_getElem hl]; rfl
      · rw [List.getElem?_eq_none (by rw [List.length_set, spo_len]; omega), List.getElem?_eq_none (by omega)]; rfl
    · rw [List.getElem?_set_ne (Ne.symm h), ih i]
      by_cases h2 : i < k
      · rw [if_pos h2, if_pos (by omega)]
      · rw [if_neg h2, if_neg (by omega)]
end Go.Proofs.YtiillgahnbimjaaDoor
