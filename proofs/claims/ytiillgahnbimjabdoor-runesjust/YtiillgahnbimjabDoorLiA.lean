/- DERIVED. Walks: lists of numbers: the same, spoilt, lent, kept. -/
import Derived.Test.YtiillgahnbimjabDoorFpA
import Derived.Laws.OwnMore
import Derived.BigQuiet
namespace Go.Proofs.YtiillgahnbimjabDoor
open Go.RowKit

/-- A row of numbers that the call owns can be read. -/
theorem own_rd {W : World} {B n : Nat} {v : Value} {l : List Int} (h : W.ownsRow B 3 1 v n (inc l)) (hn : n = l.length) : ∃ A c, v = .slice A l.length c ∧ RdI W A l := by
  subst hn
  have hc := h
  rcases h.2 with ⟨rfl, h0⟩ | ⟨g, cap, cur, rfl, _⟩
  · exact ⟨none, 0, by rw [h0], fun hl => absurd (List.eq_nil_of_length_eq_zero h0) hl⟩
  · refine ⟨_, cap, rfl, fun _ => ⟨g, 0, rfl, (hc.lt g rfl).2, fun k x hk => ?_⟩⟩
    have := hc.cells (g := g) rfl k (.int .i64 x) (by rw [List.getElem?_map, hk]; rfl)
    rw [Addr.add_lit] at this
    exact this
end Go.Proofs.YtiillgahnbimjabDoor
