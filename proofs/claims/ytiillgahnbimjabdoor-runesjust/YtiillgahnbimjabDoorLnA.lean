/- DERIVED. Walks: LendInts, KeptInts. -/
import Derived.Test.YtiillgahnbimjabDoorLiA
import Derived.Laws.AppendOwnNone
import Derived.Deep.AppendLies
namespace Go.Proofs.YtiillgahnbimjabDoor
open Go.RowKit

theorem own_empty (w : World) : (w.alloc (.cells #[] 3)).ownsRow w.heap.size 3 1 (.slice (some ⟨w.heap.size, 0, none⟩) 0 0) 0 [] :=
  ⟨rfl, .inr ⟨w.heap.size, 0, #[], rfl, Nat.le_refl _, heap_alloc_new w _, Nat.le_refl _, Nat.zero_le _, rfl, rfl⟩⟩
theorem own_cap {W : World} {B e size n xs' : Nat} {g cap : Nat} {xs : List Value} (_ : xs' = n) (h : W.ownsRow B e size (.slice (some ⟨g, 0, none⟩) n cap) n xs) : n ≤ cap := by
  rcases h.2 with ⟨q, _⟩ | ⟨g2, c2, cur, q, _, _, h3, _⟩
  · cases q
  · cases q; exact h3

/-- What was lent. -/
def LentI (w w' : World) (l : List Int) (e : Ending) : Prop := ∃ g cap, e = .returned (.slice (some ⟨g, 0, none⟩) l.length cap) ∧ w'.ownsRow w.heap.size 3 1 (.slice (some ⟨g, 0, none⟩) (l.length + 1) cap) (l.length + 1) (inc (l ++ [-77]))
/-- What a list that comes in is. -/
def InI (W : World) (A : Option Addr) (c : Nat) (l : List Int) : Prop := (A = none ∧ c = 0 ∧ l = []) ∨ ∃ ad, A = some ad ∧ ∀ (j : Nat) u, (inc l)[j]? = some u → W.cell? (ad.add j) = some u
theorem InI.rd {W : World} {A : Option Addr} {c : Nat} {l : List Int} (h : InI W A c l) : RdI W A l := fun hl => by
  rcases h with ⟨_, _, rfl⟩ | ⟨ad, rfl, hc⟩
  · exact absurd rfl hl
  · obtain ⟨g, off, spot⟩ := ad
    have h0 : 0 < l.length := List.length_pos_iff.2 hl
    have c0 := hc 0 _ (by rw [List.getElem?_map, List.getElem?_eq_getElem h0]; rfl)
    have hs : spot = none := by simpa [Addr.add] using World.cell?_spot c0
    subst hs
    refine ⟨g, off, rfl, World.block_lt_of_cell? W _ c0, fun k x hk => ?_⟩
    have := hc k (.int .i64 x) (by rw [List.getElem?_map, hk]; rfl)
    rwa [Addr.add_lit] at this
/-- What was lent can be read. -/
theorem lent_rd {W : World} {B g cap : Nat} {l : List Int} (h : W.ownsRow B 3 1 (.slice (some ⟨g, 0, none⟩) (l.length + 1) cap) (l.length + 1) (inc (l ++ [-77]))) : RdI W (some ⟨g, 0, none⟩) l := fun _ => by
  refine ⟨g, 0, rfl, (h.lt g rfl).2, fun k x hk => ?_⟩
  have hlt : k < l.length := by
    by_cases q : k < l.length
    · exact q
    · rw [List.getElem?_eq_none (by omega)] at hk; cases hk
  have := h.cells (g := g) rfl k (.int .i64 x) (by rw [List.getElem?_map, List.getElem?_append_left hlt, hk]; rfl)
  rwa [Addr.add_lit] at this
theorem lent_last {W : World} {B g cap : Nat} {l : List Int} (h : W.ownsRow B 3 1 (.slice (some ⟨g, 0, none⟩) (l.length + 1) cap) (l.length + 1) (inc (l ++ [-77]))) : W.cell? ⟨g, l.length, none⟩ = some (.int .i64 (-77)) := by
  have := h.cells (g := g) rfl l.length (.int .i64 (-77)) (by rw [List.getElem?_map, List.getElem?_append_right (Nat.le_refl _), Nat.sub_self]; rfl)
  rwa [Addr.add_lit, Nat.zero_add] at this
end Go.Proofs.YtiillgahnbimjabDoor
