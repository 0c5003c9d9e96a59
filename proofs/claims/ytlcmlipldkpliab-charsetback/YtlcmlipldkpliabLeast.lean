/- DERIVED. Walks: Least, Single, by the program. -/
import Derived.Test.YtlcmlipldkpliabEach
import Derived.Test.YtlcmlipldkpliabCount
import Derived.Test.YtlcmlipldkpliabRefs
namespace Go.Proofs.Ytlcmlipldkpliab
open Go.RowKit Go.Shelf

attribute [local go_sem] Oper.semAt_some

/-- A box of one cell: what it holds, and that it may be written. -/
structure Box1 (W : World) (b : Nat) (v : Value) : Prop where
  c : W.cell? ⟨b, 0, none⟩ = some v
  f : W.frozen? ⟨b, 0, none⟩ = false
theorem Box1.new (W : World) (v : Value) (t : TypeId) : Box1 (W.alloc (.cells #[v] t)) W.heap.size v := by
  have h := World.alloc_heap_new W (.cells #[v] t)
  exact ⟨by unfold World.cell?; rw [h]; rfl, by unfold World.frozen?; rw [h]; rfl⟩
theorem Box1.kept {W W' : World} {b : Nat} {v : Value} {row : Option Nat} (h : Box1 W b v) (hg : W.grownBy W' row) (hr : ∀ r, row = some r → ∃ o : Obj, W.heap[r]? = some o ∧ o.isCells = false) : Box1 W' b v :=
  ⟨cell_kept h.1 hg hr, (frozen_kept h.1 hg hr).trans h.2⟩
theorem Box1.alloc {W : World} {b : Nat} {v : Value} (h : Box1 W b v) (o : Obj) : Box1 (W.alloc o) b v := h.kept (World.grownBy_alloc W o none) (fun r e => by cases e)
theorem Box1.set {W : World} {b : Nat} {v : Value} (h : Box1 W b v) (u : Value) : Box1 (W.setCell ⟨b, 0, none⟩ u) b u :=
  ⟨World.cell?_setCell_same' _ _ _ (by rw [h.1]; rfl), by rw [World.frozen?_setCell]; exact h.2⟩
theorem Box1.other {W : World} {b c : Nat} {v : Value} (h : Box1 W b v) (hne : b ≠ c) (u : Value) : Box1 (W.setCell ⟨c, 0, none⟩ u) b v := by
  obtain ⟨h1, h2⟩ := h
  constructor <;> simp [go_sem, *]

/-- The least byte of a set. -/
def lst (x : BitVec 256) : Int × Bool := match byf x 256 with
  | b :: _ => ((b.val : Int), true)
  | [] => (0, false)

theorem least_w3 (w : World) (o p q : Obj) : (((w.alloc o).alloc p).alloc q).heap.size = w.heap.size + 1 + 1 + 1 := by simp
end Go.Proofs.Ytlcmlipldkpliab
