/- DERIVED. Walks: Decode, by the document. -/
import Derived.Test.YtiillgahnbimjabDoorRcB
import Derived.Deep.RegionHeld3
import Derived.WalkSmall
namespace Go.Proofs.YtiillgahnbimjabDoor
open Go.RowKit

/-- The heads' box. -/
structure AtH (w wr : World) : Prop where
  lt : w.heap.size < wr.heap.size
  c : ∀ n, n ≤ 4 → wr.cell? ⟨w.heap.size, n, none⟩ = some (.int .i64 (hdI n))
  b : Below w.heap.size w wr
theorem AtH.new (w : World) : AtH w (w.alloc (.cells #[.int .i64 0, .int .i64 0, .int .i64 192, .int .i64 224, .int .i64 240] 85)) := by
  refine ⟨by simp, fun n hn => ?_, (Below.refl _ _).alloc (Nat.le_refl _) _⟩
  match n, hn with
  | 0, _ => simp [hdI]
  | 1, _ => simp [hdI]
  | 2, _ => simp [hdI]
  | 3, _ => simp [hdI]
  | 4, _ => simp [hdI]
theorem AtH.below {w wr w2 : World} (h : AtH w wr) (hb : Below wr.heap.size wr w2) : AtH w w2 :=
  ⟨Nat.lt_of_lt_of_le h.lt hb.size, fun n hn => (hb.cell (p := ⟨w.heap.size, n, none⟩) h.lt).trans (h.c n hn), h.b.trans (hb.mono (Nat.le_of_lt h.lt))⟩
theorem AtH.drew {w wr : World} (h : AtH w wr) : AtH w wr.drew := h.below (Below.refl _ _).drew

theorem cut_run (s : ByteArray) (p n : Nat) (h : p + n ≤ s.size) (w : World) : (Instr.slice 9 (.string s) (some (.int .i64 (p : Int))) (some (.int .i64 ((p : Int) + (n : Int)))) none).run Tryd.prog w = .ok (.string (s.extract p (p + n))) w := by
  rw [run_slice_string w _ s _ _ _ _ Tryd.underlying9 (by omega) (by omega) (by omega)]
  congr 2
theorem calm {f : FuncId} {args : Array Value} {v : Value} {w : World} (h : Calls Tryd.prog f args w fun e w' => e = .returned v ∧ w' = w) : Calls Tryd.prog f args w fun e w' => e = .returned v ∧ ∃ n, w' = w.drewN n :=
  h.mono fun _ _ ⟨h1, h2⟩ => ⟨h1, 0, h2⟩
/-- What the inner loop holds. -/
def FzBd (i : Nat) (r : Int) : Prop := -300 ≤ r ∧ (i = 1 → r ≤ 255) ∧ (i = 2 → r ≤ 16447) ∧ (i = 3 → r ≤ 1052735) ∧ (i = 4 → r ≤ 67375167)
end Go.Proofs.YtiillgahnbimjabDoor
