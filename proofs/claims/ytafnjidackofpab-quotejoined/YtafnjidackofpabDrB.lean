/- DERIVED. Walks: Cut, by the document. -/
import Derived.Test.YtafnjidackofpabRdC
namespace Go.Proofs.Ytafnjidackofpab
open Go.RowKit

theorem size1 (w : World) (o : Obj) : (w.alloc o).heap.size = w.heap.size + 1 := by simp
theorem own_empty (w : World) : (w.alloc (.cells #[] 5)).ownsRow w.heap.size 5 1 (.slice (some ⟨w.heap.size, 0, none⟩) 0 0) 0 [] :=
  World.ownsRow_made (size := 1) (e := 5) w #[] 0 (Nat.le_refl _) (by unfold maxLen; omega) rfl
theorem rdByte_plain {s : ByteArray} {i : Nat} (h : chr s i ≠ 92) : rdByte s i = if chr s i < 32 ∨ chr s i = 127 then .inr (i, 22) else .inl (chr s i, i + 1) := by
  unfold rdByte; rw [if_neg h]
theorem rdByte_esc {s : ByteArray} {i : Nat} (h : chr s i = 92) : rdByte s i = match rdEsc s i with | none => .inr (i, 21) | some p => .inl p := by
  unfold rdByte; rw [if_pos h]; rfl
end Go.Proofs.Ytafnjidackofpab
