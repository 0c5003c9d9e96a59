/- DERIVED. What the law of the shapes keeps while it spoils. -/
import Derived.Test.YtiillgahnbimjaaDoorSeA
import Derived.Test.YtiillgahnbimjaaDoorRrC
import Derived.Test.YtiillgahnbimjaaDoorPnC
namespace Go.Proofs.YtiillgahnbimjaaDoor
open Go.RowKit

/-- Of the blocks of a world only those between two numbers may have changed. -/
structure Fr (A B : Nat) (w w' : World) : Prop where
  os : w'.os = w.os
  tape : w'.tape = w.tape
  output : w'.output = w.output
  size : w.heap.size ≤ w'.heap.size
  block : ∀ k, k < w.heap.size → (k < A ∨ B ≤ k) → w'.heap[k]? = w.heap[k]?
theorem Fr.refl (A B : Nat) (w : World) : Fr A B w w := ⟨rfl, rfl, rfl, Nat.le_refl _, fun _ _ _ => rfl⟩
theorem Fr.below {A B : Nat} {w w1 w2 : World} (h : Fr A B w w1) (hb : Below w1.heap.size w1 w2) : Fr A B w w2 :=
  ⟨hb.os.trans h.os, hb.tape.trans h.tape, hb.output.trans h.output, Nat.le_trans h.size hb.size, fun k hk hc => (hb.block k (Nat.lt_of_lt_of_le hk h.size)).trans (h.block k hk hc)⟩
theorem Fr.grown {A B : Nat} {w w1 w2 : World} {row : Option Nat} (h : Fr A B w w1) (hg : w1.grownBy w2 row) (hr : ∀ j, row = some j → (A ≤ j ∧ j < B) ∨ w.heap.size ≤ j) : Fr A B w w2 :=
  ⟨hg.os.trans h.os, hg.tape.trans h.tape, hg.output.trans h.output, Nat.le_trans h.size hg.size, fun k hk hc => (hg.block k (Nat.lt_of_lt_of_le hk h.size) (fun e => by rcases hr k e.symm with ⟨q1, q2⟩ | q <;> omega)).trans (h.block k hk hc)⟩

theorem RR.keepF {W W' : World} {C : Nat} {v : Value} {ss : List Shape} {xs : List Value} (h : RR W C v ss xs) (hf : ∀ k, C ≤ k → k < W.heap.size → W'.heap[k]? = W.heap[k]?) : RR W' C v ss xs :=
  h.blk (fun k e => hf k (h.o.lt k e).1 (h.o.lt k e).2) (fun i y k hy e => by
    obtain ⟨g, hg, h1, h2⟩ := h.lt hy
    rw [hg] at e
    cases e
    exact hf _ h1 h2)
theorem own_keepF {W W' : World} {C e size n : Nat} {v : Value} {xs : List Value} (h : W.ownsRow C e size v n xs) (hf : ∀ k, C ≤ k → k < W.heap.size → W'.heap[k]? = W.heap[k]?) : W'.ownsRow C e size v n xs :=
  own_blk h (fun k q => hf k (h.lt k q).1 (h.lt k q).2)
theorem own_rdn' {W : World} {B c : Nat} {A : Option Addr} {L : List Nd} (h : W.ownsRow B 80 7 (.slice A L.length c) L.length (ndc L)) : RdN W A L := by
  obtain ⟨A', c', e, hr⟩ := own_rdn h rfl
  cases e
  exact hr
theorem RR.cap {W : World} {B gx m cx i : Nat} {v : Value} {ss : List Shape} {xs : List Value} (h : RR W B v ss xs) {s : Shape} (hx : xs[i]? = some (.slice (some ⟨gx, 0, none⟩) m cx)) (hs : ss[i]? = some s) : m ≤ cx := by
  rcases (h.each i _ s hx hs).1.2 with ⟨q, _⟩ | ⟨g, cap, cur, q, _, _, h1, _⟩
  · cases q
  · cases q; exact h1

theorem sh_uni (lo hi : Int) : ∃ (ss : List Shape) (cd : Int) (L : List Nd), ss.length ≤ 1114112 ∧ (∀ s ∈ ss, s.length ≤ 4) ∧ L.length ≤ 20000000 ∧ (∀ w w' e, ShV w w' lo hi e → ∃ v xs, e = .returned (.tuple #[v, .int .i64 cd]) ∧ RR w' w.heap.size v ss xs) ∧ (∀ w w' e, PnV w w' lo hi e → ∃ v, e = .returned (.tuple #[v, .int .i64 cd]) ∧ w'.ownsRow w.heap.size 80 7 v L.length (ndc L)) := by
  unfold ShV PnV
  by_cases q : bdB lo = true ∧ bdB hi = true
  · by_cases q2 : lo ≤ hi
    · have hl := shTo_len lo hi 5
      rw [shTo_all] at hl
      have h4 : ∀ s ∈ shAll lo hi, s.length ≤ 4 := fun s hs => (shAll_ord lo hi s hs).2.2
      refine ⟨shAll lo hi, 0, patN (shAll lo hi), hl, h4, ?_, ?_, ?_⟩
      · unfold patN
        split
        · simp
        · have := ptTo_len (shAll lo hi) (shAll lo hi).length h4; omega
      · intro w w' e h; rw [if_pos q, if_pos q2] at h; exact h
      · intro w w' e h; rw [if_pos q, if_pos q2] at h; exact h
    · refine ⟨[], 1, [], by simp, by simp, by simp, ?_, ?_⟩
      · intro w w' e h; rw [if_pos q, if_neg q2] at h; exact ⟨_, _, h, RR.nil _ _⟩
      · intro w w' e h; rw [if_pos q, if_neg q2] at h; exact ⟨_, h, World.ownsRow_nil _ _ _ _⟩
  · refine ⟨[], 30, [], by simp, by simp, by simp, ?_, ?_⟩
    · intro w w' e h; rw [if_neg q] at h; exact ⟨_, _, h, RR.nil _ _⟩
    · intro w w' e h; rw [if_neg q] at h; exact ⟨_, h, World.ownsRow_nil _ _ _ _⟩
end Go.Proofs.YtiillgahnbimjaaDoor
