/- DERIVED. Walks: SameSpans at two equal lists. -/
import Derived.Test.YtlcmlipldkpliabSpanP
import Derived.LoopN
namespace Go.Proofs.Ytlcmlipldkpliab
open Go.RowKit

/-- The slice v reads as the list of spans l. -/
def Reads (w : World) (v : Value) (l : List (Int × Int)) : Prop :=
  (v = .slice none 0 0 ∧ l = []) ∨ ∃ g off cap, v = .slice (some ⟨g, off, none⟩) l.length cap ∧ g < w.heap.size ∧
    ∀ i (h : i < l.length), w.cell? ⟨g, off + i * 2, none⟩ = some (.int .i64 (l[i]).1) ∧ w.cell? ⟨g, off + i * 2 + 1, none⟩ = some (.int .i64 (l[i]).2)
theorem Reads.below {B : Nat} {w w' : World} {v : Value} {l : List (Int × Int)} (h : Reads w v l) (hb : Below B w w') (hB : w.heap.size ≤ B) : Reads w' v l := by
  rcases h with h | ⟨g, off, cap, hv, hg, hc⟩
  · exact .inl h
  · refine .inr ⟨g, off, cap, hv, Nat.lt_of_lt_of_le hg hb.size, fun i hi => ?_⟩
    exact ⟨(hb.cell (p := ⟨g, off + i * 2, none⟩) (by simp; omega)).trans (hc i hi).1, (hb.cell (p := ⟨g, off + i * 2 + 1, none⟩) (by simp; omega)).trans (hc i hi).2⟩
theorem reads_own {w : World} {base : Nat} {v : Value} {l : List (Int × Int)} (h : w.ownsRow base 56 2 v l.length (spc l)) (hn : l = [] → v = .slice none 0 0) : Reads w v l := by
  rcases h.2 with ⟨hv, h0⟩ | ⟨g, cap, cur, hv, hr⟩
  · exact .inl ⟨hv, List.eq_nil_of_length_eq_zero h0⟩
  · subst hv
    refine .inr ⟨g, 0, cap, rfl, (h.lt g rfl).2, fun i hi => ?_⟩
    rw [show 0 + i * 2 = i * 2 from by omega]
    exact ⟨(h.cellAt (i * 2) (by omega)).trans (spc_lo l i hi), (h.cellAt (i * 2 + 1) (by omega)).trans (spc_hi l i hi)⟩
end Go.Proofs.Ytlcmlipldkpliab
