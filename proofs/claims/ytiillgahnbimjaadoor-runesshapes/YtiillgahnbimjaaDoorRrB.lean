/- DERIVED. Lists of shapes put one behind the other. -/
import Derived.Test.YtiillgahnbimjaaDoorSmC
import Derived.Maps.AppendAt
import Derived.RegionTactic
import Derived.Laws.OwnMore
namespace Go.Proofs.YtiillgahnbimjaaDoor
open Go.RowKit

theorem RR.base {W : World} {A B : Nat} {v : Value} {ss : List Shape} {xs : List Value} (h : RR W B v ss xs) (hab : A ≤ B) : RR W A v ss xs :=
  ⟨own_base h.o hab, h.len, fun i x s hx hs => ⟨own_base (h.each i x s hx hs).1 hab, (h.each i x s hx hs).2⟩, h.apart⟩
/-- All that a list of shapes owns lies below a block. -/
structure Under (N : Nat) (v : Value) (xs : List Value) : Prop where
  v : ∀ k, v.ownBlock = some k → k < N
  x : ∀ (i : Nat) y k, xs[i]? = some y → y.ownBlock = some k → k < N
theorem RR.under {W : World} {B : Nat} {v : Value} {ss : List Shape} {xs : List Value} (h : RR W B v ss xs) : Under W.heap.size v xs :=
  ⟨fun k e => (h.o.lt k e).2, fun i y k hy e => by obtain ⟨g, hg, _, hlt⟩ := h.lt hy; rw [hg] at e; cases e; exact hlt⟩
theorem Under.mono {N M : Nat} {v : Value} {xs : List Value} (h : Under N v xs) (hm : N ≤ M) : Under M v xs := ⟨fun k e => Nat.lt_of_lt_of_le (h.v k e) hm, fun i y k hy e => Nat.lt_of_lt_of_le (h.x i y k hy e) hm⟩

theorem get_app {α : Type} {a b : List α} {i : Nat} {x : α} (h : (a ++ b)[i]? = some x) : (i < a.length ∧ a[i]? = some x) ∨ (a.length ≤ i ∧ b[i - a.length]? = some x) := by
  by_cases q : i < a.length
  · rw [List.getElem?_append_left q] at h; exact .inl ⟨q, h⟩
  · rw [List.getElem?_append_right (by omega)] at h; exact .inr ⟨by omega, h⟩
/-- One behind the other. -/
theorem RR.join {W W1 : World} {B N : Nat} {v v2 v' : Value} {ss ss2 : List Shape} {xs xs2 : List Value} (h : RR W B v ss xs) (hu : Under N v xs) (h2 : RR W N v2 ss2 xs2) (hBN : B ≤ N)
    (hown : W1.ownsRow B 54 1 v' (xs.length + xs2.length) (xs ++ xs2)) (hgrow : W.grownBy W1 v.ownBlock) (hat : ∀ k, v'.ownBlock = some k → v.ownBlock = some k ∨ W.heap.size ≤ k) : RR W1 B v' (ss ++ ss2) (xs ++ xs2) := by
  have hne : ∀ (x : Value) k, x.ownBlock = some k → k < W.heap.size → x.ownBlock ≠ v.ownBlock → x.ownBlock ≠ v'.ownBlock := fun x k hk hlt hv e => by
    rcases hat k (by rw [← e]; exact hk) with q | q
    · exact hv (by rw [hk, q])
    · omega
  have hfar : ∀ (i : Nat) y, xs2[i]? = some y → ∃ k, y.ownBlock = some k ∧ N ≤ k ∧ k < W.heap.size := fun i y hy => h2.lt hy
  refine ⟨by rw [List.length_append]; exact hown, by rw [List.length_append, List.length_append, h.len, h2.len], ?_, ?_⟩
  · intro i x t hx ht
    rcases get_app hx with ⟨hi, hx⟩ | ⟨hi, hx⟩
    · rw [List.getElem?_append_left (by rw [← h.len]; exact hi)] at ht
      obtain ⟨e1, e2, e3⟩ := h.each i x t hx ht
      obtain ⟨k, hk, _, hlt⟩ := h.lt hx
      exact ⟨e1.kept hgrow (.inr e3), e2, hne x k hk hlt e3⟩
    · rw [List.getElem?_append_right (by rw [← h.len]; exact hi), ← h.len] at ht
      obtain ⟨e1, e2, _⟩ := h2.each _ x t hx ht
      obtain ⟨k, hk, hNk, hlt⟩ := hfar _ x hx
      have e3 : x.ownBlock ≠ v.ownBlock := fun e => by have := hu.v k (by rw [← e]; exact hk); omega
      exact ⟨own_base (e1.kept hgrow (.inr e3)) hBN, e2, hne x k hk hlt e3⟩
  · intro i j x z hx hz hij
    rcases get_app hx with ⟨hi, hx⟩ | ⟨hi, hx⟩
    · rcases get_app hz with ⟨hj, hz⟩ | ⟨hj, hz⟩
      · exact h.apart i j x z hx hz hij
      · obtain ⟨k, hk, hNk, _⟩ := hfar _ z hz
        intro e
        have := hu.x i x k hx (by rw [e]; exact hk)
        omega
    · rcases get_app hz with ⟨hj, hz⟩ | ⟨hj, hz⟩
      · obtain ⟨k, hk, hNk, _⟩ := hfar _ x hx
        intro e
        have := hu.x j z k hz (by rw [← e]; exact hk)
        omega
      · exact h2.apart _ _ x z hx hz (by omega)

theorem run_append_RR (w : World) {B N : Nat} {v v2 : Value} {ss ss2 : List Shape} {xs xs2 : List Value} (ty : TypeId) (h : RR w B v ss xs) (hu : Under N v xs) (h2 : RR w N v2 ss2 xs2) (hBN : B ≤ N) (hN : N ≤ w.heap.size) (hl : ss.length + ss2.length ≤ 4000000) :
    ∃ v' w', (Builtin.append_ #[41, 41] ty #[v, v2]).run Tryd.prog w = .ok v' w' ∧ RR w' B v' (ss ++ ss2) (xs ++ xs2) ∧ w.grownBy w' v.ownBlock ∧ ∀ k, v'.ownBlock = some k → v.ownBlock = some k ∨ w.heap.size ≤ k := by
  obtain ⟨i0, hinf, hz0, hz1, hz2⟩ := info_parts Tryd.info54
  have hlx := h.len
  have hlx2 := h2.len
  rcases h2.o.2 with ⟨rfl, h0⟩ | ⟨g2, c2, cur, rfl, _⟩
  · have hnil : xs2 = [] := List.eq_nil_of_length_eq_zero h0
    subst hnil
    have hss : ss2 = [] := List.eq_nil_of_length_eq_zero (by rw [← h2.len]; rfl)
    subst hss
    have hr := run_append_owned_none (P := Tryd.prog) w B 41 ty 54 i0 1 Tryd.underlying41 hinf v xs.length xs h.o
    exact ⟨v, w, hr, by rw [List.append_nil, List.append_nil]; exact h, World.grownBy.refl _ _, fun k e => .inl e⟩
  · have hc := h2.o.cells (g := g2) rfl
    have h1c : ∀ u ∈ xs2, u.oneCell' = true := fun u hu2 => by
      obtain ⟨i, hi, rfl⟩ := List.getElem_of_mem hu2
      obtain ⟨e1, e2, _⟩ := h2.each i _ _ (List.getElem?_eq_getElem hi) (List.getElem?_eq_getElem (by rw [← hlx2]; exact hi))
      rcases e1.2 with ⟨q, _⟩ | ⟨_, _, _, q, _⟩
      · rw [q] at e2; exact absurd rfl e2
      · rw [q]; rfl
    obtain ⟨v', w', hr, ho, hg, _, hat⟩ := run_append_own_at (P := Tryd.prog) w B 41 ty 54 i0 (.slice none 0 0) 1 24 Tryd.underlying41 hinf hz0 hz1 hz2 rfl (by decide) v xs.length xs h.o ⟨g2, 0, none⟩ xs2.length c2 xs2 (by omega) hc h1c (by unfold maxLen; omega) (by omega) (by omega)
    have hat2 : ∀ k, v'.ownBlock = some k → v.ownBlock = some k ∨ w.heap.size ≤ k := fun k e => by
      rcases hat with q | q
      · exact .inl (by rw [← q]; exact e)
      · rw [q] at e; cases e; exact .inr (Nat.le_refl _)
    exact ⟨v', w', hr, h.join hu h2 hBN ho hg hat2, hg, hat2⟩
theorem wp_append_RR {w : World} {o : Oper} {a : Act} {K : Act → World → Prop} {Q : Exit → Act → World → Prop} (s x : Operand)
    (ho : o.op = .call { callee := .builtin .append, args := #[s, x], argTypes := #[41, 41] }) {B N : Nat} {v v2 : Value} {ss ss2 : List Shape} {xs xs2 : List Value} (hs : a.eval s = v) (hx : a.eval x = v2)
    (h : RR w B v ss xs) (hu : Under N v xs) (h2 : RR w N v2 ss2 xs2) (hBN : B ≤ N) (hN : N ≤ w.heap.size) (hl : ss.length + ss2.length ≤ 4000000)
    (hk : ∀ v' w', RR w' B v' (ss ++ ss2) (xs ++ xs2) → w.grownBy w' v.ownBlock → (∀ k, v'.ownBlock = some k → v.ownBlock = some k ∨ w.heap.size ≤ k) → K (a.put o.dst v') w') : o.wp Tryd.prog a w K Q := by
  obtain ⟨v', w', hr, h3, h4, h5⟩ := run_append_RR w o.type h hu h2 hBN hN hl
  unfold Oper.wp execOp
  simp only [ho, resolve, invoke, builtin, Sem.run_bind, Sem.run_pure, Result.andThen_ok, List.map_toArray, List.map_cons, List.map_nil, hs, hx, hr]
  exact hk v' w' h3 h4 h5
theorem wpList_append_RR {w : World} {ops : Array Oper} {rest : List Oper} {o : Oper} {a : Act} {Q : Exit → Act → World → Prop} (hgd : o.guard = none) (s x : Operand)
    (ho : o.op = .call { callee := .builtin .append, args := #[s, x], argTypes := #[41, 41] }) {B N : Nat} {v v2 : Value} {ss ss2 : List Shape} {xs xs2 : List Value} (hs : a.eval s = v) (hx : a.eval x = v2)
    (h : RR w B v ss xs) (hu : Under N v xs) (h2 : RR w N v2 ss2 xs2) (hBN : B ≤ N) (hN : N ≤ w.heap.size) (hl : ss.length + ss2.length ≤ 4000000)
    (hk : ∀ v' w', RR w' B v' (ss ++ ss2) (xs ++ xs2) → w.grownBy w' v.ownBlock → (∀ k, v'.ownBlock = some k → v.ownBlock = some k ∨ w.heap.size ≤ k) → wpList Tryd.prog ops Q rest (a.put o.dst v') w') : wpList Tryd.prog ops Q (o :: rest) a w :=
  wpList_plain hgd fun _ hK => wp_append_RR s x ho hs hx h hu h2 hBN hN hl fun v' w' h3 h4 h5 => hK _ _ (hk v' w' h3 h4 h5)
theorem step_append_RR {w : World} {ops : Array Oper} {o : Oper} {a : Act} {K : Act → World → Prop} {Q : Exit → Act → World → Prop} {E : Prop} (hgd : o.guard = none) (s x : Operand)
    (ho : o.op = .call { callee := .builtin .append, args := #[s, x], argTypes := #[41, 41] }) {B N : Nat} {v v2 : Value} {ss ss2 : List Shape} {xs xs2 : List Value} (hs : a.eval s = v) (hx : a.eval x = v2)
    (h : RR w B v ss xs) (hu : Under N v xs) (h2 : RR w N v2 ss2 xs2) (hBN : B ≤ N) (hN : N ≤ w.heap.size) (hl : ss.length + ss2.length ≤ 4000000)
    (hk : ∀ v' w', RR w' B v' (ss ++ ss2) (xs ++ xs2) → w.grownBy w' v.ownBlock → (∀ k, v'.ownBlock = some k → v.ownBlock = some k ∨ w.heap.size ≤ k) → K (a.put o.dst v') w') :
    if Region.wanted o (yielded ops a.tmps) = true then Oper.wp Tryd.prog o a w K Q else E := by
  have hw : Region.wanted o (yielded ops a.tmps) = true := by simp [Region.wanted, hgd]
  rw [if_pos hw]
  exact wp_append_RR s x ho hs hx h hu h2 hBN hN hl hk
end Go.Proofs.YtiillgahnbimjaaDoor
