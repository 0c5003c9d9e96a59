/- DERIVED. Walks: Fold, by the program. -/
import Derived.RangeFuncBox
import Derived.Test.YtlcmlipldkpliabFoldP
import Derived.Test.YtlcmlipldkpliabLeast
import Derived.Test.YtlcmlipldkpliabClass
namespace Go.Proofs.Ytlcmlipldkpliab
open Go.RowKit Go.Shelf

attribute [local go_sem] Oper.semAt_some

/-- Is it a small letter? -/
def smlB (b : Int) : Bool := decide (97 ≤ b) && decide (b ≤ 122)
theorem holds_kept {W W' : World} {b : Nat} {x : BitVec 256} {row : Option Nat} (h : Holds W b x) (hg : W.grownBy W' row) (hr : ∀ r, row = some r → ∃ o : Obj, W.heap[r]? = some o ∧ o.isCells = false) : Holds W' b x :=
  ⟨Nat.lt_of_lt_of_le h.lt hg.size, cell_kept h.c0 hg hr, cell_kept h.c1 hg hr, cell_kept h.c2 hg hr, cell_kept h.c3 hg hr,
    (frozen_kept h.c0 hg hr).trans h.f0, (frozen_kept h.c1 hg hr).trans h.f1, (frozen_kept h.c2 hg hr).trans h.f2, (frozen_kept h.c3 hg hr).trans h.f3⟩
theorem others_below {W W' : World} (hb : Below W.heap.size W W') : KeepsOthers W W' := KeepsOthers.of_grownBy (grown_below hb) (fun j o ej _ => by cases ej)
theorem others_put4 (W : World) (b : Nat) (y : BitVec 256) : KeepsOthers W (put4 W b y) :=
  (((KeepsOthers.setCell _ _ _).trans (KeepsOthers.setCell _ _ _)).trans (KeepsOthers.setCell _ _ _)).trans (KeepsOthers.setCell _ _ _)
theorem keep_put4 {W : World} {b c : Nat} (h : c ≠ b) (y : BitVec 256) : KeepB c W (put4 W b y) :=
  ((((KeepB.setCell (p := ⟨b, 0, none⟩) h _).trans (KeepB.setCell (p := ⟨b, 1, none⟩) h _)).trans (KeepB.setCell (p := ⟨b, 2, none⟩) h _)).trans (KeepB.setCell (p := ⟨b, 3, none⟩) h _))
theorem put4_belowF {B : Nat} {w w' : World} {b : Nat} (h : Below B w w') (hb : B ≤ b) (y : BitVec 256) : Below B w (put4 w' b y) :=
  (((h.setCell (p := ⟨b, 0, none⟩) hb _).setCell (p := ⟨b, 1, none⟩) hb _).setCell (p := ⟨b, 2, none⟩) hb _).setCell (p := ⟨b, 3, none⟩) hb _
end Go.Proofs.Ytlcmlipldkpliab
