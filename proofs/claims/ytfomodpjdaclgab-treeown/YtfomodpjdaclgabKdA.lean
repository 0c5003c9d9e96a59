/- DERIVED. Walks: Kids, by the document. -/
import Derived.Test.YtfomodpjdaclgabFdB
namespace Go.Proofs.Ytfomodpjdaclgab
open Go.RowKit

theorem own_ints (w : World) (xs : List Int) (_h0 : xs ≠ []) (hl : xs.length ≤ 2) : (w.alloc (.cells (xs.map fun x => Value.int .i64 x).toArray 3)).ownsRow w.heap.size 3 1 (.slice (some ⟨w.heap.size, 0, none⟩) xs.length xs.length) xs.length (xs.map fun x => .int .i64 x) :=
  ⟨by simp, .inr ⟨w.heap.size, xs.length, _, rfl, Nat.le_refl _, heap_alloc_new w _, Nat.le_refl _, by unfold maxLen; omega, by simp, by rw [Nat.mul_one]; exact List.take_of_length_le (by simp)⟩⟩
end Go.Proofs.Ytfomodpjdaclgab
