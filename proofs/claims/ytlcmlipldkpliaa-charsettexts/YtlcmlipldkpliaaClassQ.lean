/- DERIVED. Walks: a small letter's class, by the document. -/
import Derived.Test.YtlcmlipldkpliaaClassP
import Derived.Test.YtlcmlipldkpliaaClass
import Derived.Test.YtlcmlipldkpliaaFromTo
namespace Go.Proofs.Ytlcmlipldkpliaa
open Go.RowKit

theorem class_pre (w w1 w2 w3 w4 : World) (a b c : BitVec 256) (hb1 : Below (w.alloc z4).heap.size (w.alloc z4) w1) (hb2 : Below w1.heap.size w1 w2) (hb3 : Below w2.heap.size w2 w3)
    (hb4 : Below (((w3.alloc (c4 a)).alloc (c4 b)).alloc (c4 c)).heap.size (((w3.alloc (c4 a)).alloc (c4 b)).alloc (c4 c)) w4) :
    w.heap.size < w3.heap.size ∧ w3.heap.size + 1 + 1 < w4.heap.size ∧ Hid (Below w.heap.size w w4) ∧ Hid (Holds w4 w.heap.size 0#256) ∧ Hid (Holds w4 w3.heap.size a) ∧ Hid (Holds w4 (w3.heap.size + 1) b) ∧ Hid (Holds w4 (w3.heap.size + 1 + 1) c) := by
  have s1 := hb1.size
  have s2 := hb2.size
  have s3 := hb3.size
  have s4 := hb4.size
  rw [size1] at s1
  rw [size3] at s4 hb4
  rw [size1] at hb1
  have h13 : Below (w.heap.size + 1) (w.alloc z4) w3 := (hb1.trans (hb2.mono (by omega))).trans (hb3.mono (by omega))
  have h3 : Below w.heap.size w w3 := (below1 w z4).trans (h13.mono (by omega))
  have h34 : Below w3.heap.size w3 w4 := (below3 w3 (c4 a) (c4 b) (c4 c)).trans (hb4.mono (by omega))
  have e0 : Holds w3 w.heap.size 0#256 := (Holds.zero w).below h13 (by omega)
  refine ⟨by omega, by omega, h3.trans (h34.mono (by omega)), e0.below h34 (by omega), ?_, ?_, ?_⟩
  · exact (((Holds.new w3 a).alloc (c4 b)).alloc (c4 c)).below hb4 (by omega)
  · have h := (Holds.new (w3.alloc (c4 a)) b).alloc (c4 c)
    rw [size1] at h
    exact h.below hb4 (by omega)
  · have h := Holds.new ((w3.alloc (c4 a)).alloc (c4 b)) c
    rw [size2] at h
    exact h.below hb4 (by omega)
end Go.Proofs.Ytlcmlipldkpliaa
