/- DERIVED. Walks: Valid, by the program and by the document. -/
import Derived.Test.YtiillgahnbimjabDoorPlG
import Derived.Test.YtiillgahnbimjabDoorRcC
import Derived.Test.YtiillgahnbimjabDoorRcD
namespace Go.Proofs.YtiillgahnbimjabDoor
open Go.RowKit Go.Shelf

attribute [local go_sem] Oper.semAt_some

/-- Within a range over a text. -/
structure AtI (B k0 : Nat) (w wr : World) (s : ByteArray) (p : Nat) : Prop where
  i : wr.heap[k0]? = some (.stringIter s p)
  b : Below B w wr
  le : B ≤ k0
theorem AtI.new (w : World) (s : ByteArray) : AtI w.heap.size w.heap.size w (w.iter s 0) s 0 := ⟨World.iter_heap w s 0, iter_below w s 0, Nat.le_refl _⟩
theorem AtI.next {B k0 : Nat} {w wr : World} {s : ByteArray} {p : Nat} (h : AtI B k0 w wr s p) (q : Nat) : AtI B k0 w (wr.iterAt k0 s q) s q :=
  ⟨Lib.iterAt_heap wr k0 s p q h.i, Lib.below_iterAt h.b h.le _ _, h.le⟩
theorem AtI.pos {B k0 : Nat} {w wr : World} {s : ByteArray} {p : Nat} (h : AtI B k0 w wr s p) : wr.iterPos k0 = p := by unfold World.iterPos; rw [h.i]

theorem begins_at (s : ByteArray) (p : Nat) (h : p < s.size) (w : World) : Calls Tryd.prog 13 #[.string (s.extract p s.size), .int .i32 ((Utf8.decode s p).1 : Int)] w fun e w' => e = .returned (.bool (dcd s p).isSome) ∧ w' = w := by
  rw [← begins_eq h]
  exact begins_any _ _ w
end Go.Proofs.YtiillgahnbimjabDoor
