/- DERIVED. Walks: Clean, by the document. -/
import Derived.Test.YtiillgahnbimjabDoorClA
import Derived.Maps.AppendAt
namespace Go.Proofs.YtiillgahnbimjabDoor
open Go.RowKit

/-- What holds in the loop. -/
structure AtD (w wr : World) (v : Value) (l : List Int) : Prop where
  o : wr.ownsRow w.heap.size 5 1 v l.length (u8c l)
  b : Below w.heap.size w wr
theorem dcd_ext {s : ByteArray} {p n : Nat} {r : Int} (h : dcd s p = some (r, n)) : s.extract p (p + n) = asText (enL r) := by
  have hb := dcd_bd h
  obtain ⟨h1, h2, h3⟩ := dcd_some h
  have hl := enL_len h1
  have := (ext_iff (enL_by r) (by omega)).2 h3
  rw [hl, ← h2] at this
  exact this
end Go.Proofs.YtiillgahnbimjabDoor
