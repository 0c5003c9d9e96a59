/- DERIVED. Walks: FromPoints, by the program and by the document. -/
import Derived.Test.YtiillgahnbimjabDoorClB
import Derived.Test.YtiillgahnbimjabDoorPoA
namespace Go.Proofs.YtiillgahnbimjabDoor
open Go.RowKit

/-- Numbers that lie in memory. -/
structure CI (W : World) (A : Option Addr) (l : List Int) (g off : Nat) : Prop where
  a : A = some ⟨g, off, none⟩
  lt : g < W.heap.size
  c : ∀ k x, l[k]? = some x → W.cell? ⟨g, off + k, none⟩ = some (.int .i64 x)
/-- A list of numbers. -/
def RdI (W : World) (A : Option Addr) (l : List Int) : Prop := l ≠ [] → ∃ g off, CI W A l g off
theorem CI.below {W W' : World} {A : Option Addr} {l : List Int} {g off : Nat} {B : Nat} (h : CI W A l g off) (hb : Below B W W') (hB : g < B) : CI W' A l g off :=
  ⟨h.a, Nat.lt_of_lt_of_le h.lt hb.size, fun k x hk => (hb.cell (p := ⟨g, off + k, none⟩) hB).trans (h.c k x hk)⟩
theorem RdI.below {W W' : World} {A : Option Addr} {l : List Int} (h : RdI W A l) (hb : Below W.heap.size W W') : RdI W' A l := fun hl => by
  obtain ⟨g, off, hc⟩ := h hl
  exact ⟨g, off, hc.below hb hc.lt⟩
theorem ne_of_get {l : List Int} {k : Nat} (h : k < l.length) : l ≠ [] := by rintro rfl; simp at h
theorem okL_take {l : List Int} {k : Nat} {r : Int} (h : okL (l.take k) = true) (hk : l[k]? = some r) (hr : cpB r = true) : okL (l.take (k + 1)) = true := by
  unfold okL at *
  rw [List.take_add_one, hk, List.all_append, h]
  simp [hr]
theorem okL_no {l : List Int} {k : Nat} {r : Int} (hk : l[k]? = some r) (hr : cpB r = false) : okL l = false := by
  unfold okL
  rw [← Bool.not_eq_true, List.all_eq_true]
  intro h
  have := h r (List.mem_of_getElem? hk)
  rw [hr] at this
  cases this
theorem flat_take {l : List Int} {k : Nat} {r : Int} (hk : l[k]? = some r) : (l.take (k + 1)).flatMap enL = (l.take k).flatMap enL ++ enL r := by
  rw [List.take_add_one, hk, List.flatMap_append]; simp
theorem fpV_no {l : List Int} (h : ¬ 4096 < l.length) (ho : okL l = false) : fpV l = .tuple #[.string ⟨#[]⟩, .int .i64 30] := by
  unfold fpV; rw [if_neg h, if_neg (by rw [ho]; simp)]
theorem fpV_yes {l : List Int} (h : ¬ 4096 < l.length) (ho : okL l = true) : fpV l = .tuple #[.string (asText (l.flatMap enL)), .int .i64 0] := by
  unfold fpV; rw [if_neg h, if_pos ho]
end Go.Proofs.YtiillgahnbimjabDoor
