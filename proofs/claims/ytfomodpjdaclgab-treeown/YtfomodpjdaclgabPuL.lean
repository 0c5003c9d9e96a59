/- DERIVED. The walk of TreePuts. -/
import Derived.Test.YtfomodpjdaclgabPuB
namespace Go.Proofs.Ytfomodpjdaclgab
open Go.RowKit

/-- A change in a box. -/
structure CB (W : World) (b : Nat) (u v x : Value) : Prop where
  heap : W.heap[b]? = some (.cells #[u, v, x] 42 (0, 0))
theorem CB.lt {W : World} {b : Nat} {u v x : Value} (h : CB W b u v x) : b < W.heap.size := (Array.getElem?_eq_some_iff.1 h.heap).1
theorem CB.c0 {W : World} {b : Nat} {u v x : Value} (h : CB W b u v x) : W.cell? ⟨b, 0, none⟩ = some u := by rw [cell_of_row W b 0 _ 42 (0, 0) h.heap]; rfl
theorem CB.c1 {W : World} {b : Nat} {u v x : Value} (h : CB W b u v x) : W.cell? ⟨b, 1, none⟩ = some v := by rw [cell_of_row W b 1 _ 42 (0, 0) h.heap]; rfl
theorem CB.c2 {W : World} {b : Nat} {u v x : Value} (h : CB W b u v x) : W.cell? ⟨b, 2, none⟩ = some x := by rw [cell_of_row W b 2 _ 42 (0, 0) h.heap]; rfl
theorem CB.same {W W' : World} {b : Nat} {u v x : Value} (h : CB W b u v x) (hb : W'.heap[b]? = W.heap[b]?) : CB W' b u v x := ⟨hb.trans h.heap⟩
theorem CB.below {W W' : World} {b : Nat} {u v x : Value} (h : CB W b u v x) (hb : Below W.heap.size W W') : CB W' b u v x := h.same (hb.block b h.lt)
/-- What is held while a change is looked at. -/
structure PS (w W : World) (g cap : Nat) (L : List Nd) (g2 cap2 : Nat) (M : List Nd) (u v x : Value) : Prop where
  r1 : LentR W w.heap.size g cap L
  r2 : LentR W w.heap.size g2 cap2 M
  b : Below w.heap.size w W
  c : CB W w.heap.size u v x
theorem PS.below {w W W' : World} {g cap : Nat} {L : List Nd} {g2 cap2 : Nat} {M : List Nd} {u v x : Value} (h : PS w W g cap L g2 cap2 M u v x) (hb : Below W.heap.size W W') : PS w W' g cap L g2 cap2 M u v x := ⟨h.r1.below hb, h.r2.below hb, h.b.trans (hb.mono h.b.size), h.c.below hb⟩
end Go.Proofs.Ytfomodpjdaclgab
