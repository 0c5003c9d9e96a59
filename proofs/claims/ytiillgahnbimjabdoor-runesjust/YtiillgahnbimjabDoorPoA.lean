/- DERIVED. Walks: Points, by the program. -/
import Derived.Test.YtiillgahnbimjabDoorVaA
import Derived.Test.YtiillgahnbimjabDoorRrA
import Derived.Maps.AppendAt
namespace Go.Proofs.YtiillgahnbimjabDoor
open Go.RowKit Go.Shelf

attribute [local go_sem] Oper.semAt_some

/-- A box with a fault. -/
structure FHolds (w : World) (b : Nat) (p q : Int) : Prop where
  lt : b < w.heap.size
  c0 : w.cell? ⟨b, 0, none⟩ = some (.int .i64 p)
  c1 : w.cell? ⟨b, 1, none⟩ = some (.int .i64 q)
  f0 : w.frozen? ⟨b, 0, none⟩ = false
  f1 : w.frozen? ⟨b, 1, none⟩ = false
theorem FHolds.below {B : Nat} {w w' : World} {b : Nat} {p q : Int} (h : FHolds w b p q) (hb : Below B w w') (hB : b < B) : FHolds w' b p q :=
  ⟨Nat.lt_of_lt_of_le h.lt hb.size, (hb.cell (p := ⟨b, 0, none⟩) hB).trans h.c0, (hb.cell (p := ⟨b, 1, none⟩) hB).trans h.c1, (hb.frozen (p := ⟨b, 0, none⟩) hB).trans h.f0, (hb.frozen (p := ⟨b, 1, none⟩) hB).trans h.f1⟩
theorem FHolds.new (w : World) (p q : Int) : FHolds (w.alloc (.cells #[.int .i64 p, .int .i64 q] 26)) w.heap.size p q := by
  constructor <;> simp [go_sem]
theorem FHolds.grown {w w' : World} {b : Nat} {p q : Int} {row : Option Nat} (h : FHolds w b p q) (hg : w.grownBy w' row) (hne : row = some b → False) : FHolds w' b p q := by
  have e := hg.block b h.lt (fun e => hne e.symm)
  exact ⟨Nat.lt_of_lt_of_le h.lt hg.size, (World.cell?_of_block (a := ⟨b, 0, none⟩) e).trans h.c0, (World.cell?_of_block (a := ⟨b, 1, none⟩) e).trans h.c1, 
    (World.frozen?_of_block (a := ⟨b, 0, none⟩) e).trans h.f0, (World.frozen?_of_block (a := ⟨b, 1, none⟩) e).trans h.f1⟩
theorem FHolds.alloc {w : World} {b : Nat} {p q : Int} (h : FHolds w b p q) (o : Obj) : FHolds (w.alloc o) b p q :=
  h.below (B := w.heap.size) ((Below.refl _ _).alloc (Nat.le_refl _) _) h.lt
theorem FHolds.put {w : World} {b : Nat} {p q : Int} (h : FHolds w b p q) (p' q' : Int) : FHolds ((w.setCell ⟨b, 0, none⟩ (.int .i64 p')).setCell ⟨b, 1, none⟩ (.int .i64 q')) b p' q' := by
  obtain ⟨lt, c0, c1, f0, f1⟩ := h
  constructor <;> simp [go_sem, *]
theorem FHolds.put_other {w : World} {b c : Nat} {p q : Int} (h : FHolds w c p q) (hne : c ≠ b) (u v : Value) : FHolds ((w.setCell ⟨b, 0, none⟩ u).setCell ⟨b, 1, none⟩ v) c p q := by
  obtain ⟨lt, c0, c1, f0, f1⟩ := h
  constructor <;> simp [go_sem, *]
theorem putF_below {B : Nat} {w wr : World} {b : Nat} (hb : Below B w wr) (h : B ≤ b) (u v : Value) : Below B w ((wr.setCell ⟨b, 0, none⟩ u).setCell ⟨b, 1, none⟩ v) :=
  (hb.setCell (p := ⟨b, 0, none⟩) h _).setCell (p := ⟨b, 1, none⟩) h _


theorem Tryd.info3 : (Tryd.prog.info? 3).map (fun i => (i.zero, i.size, i.bytes)) = some (some (.int .i64 0), 1, 8) := by kernel_rfl
/-- The cells of numbers. -/
abbrev inc (l : List Int) : List Value := l.map (Value.int .i64)
theorem inc_append (a b : List Int) : inc (a ++ b) = inc a ++ inc b := List.map_append
/-- What Points answers. -/
def PtV (w w' : World) (s : ByteArray) (e : Ending) : Prop :=
  if 65536 < s.size then e = .returned (.tuple #[.slice none 0 0, .agg #[.int .i64 0, .int .i64 2]]) else
  match pts s with
  | .inr p => e = .returned (.tuple #[.slice none 0 0, .agg #[.int .i64 (p : Int), .int .i64 6]])
  | .inl l => ∃ v, e = .returned (.tuple #[v, .agg #[.int .i64 0, .int .i64 0]]) ∧ w'.ownsRow w.heap.size 3 1 v l.length (inc l)

/-- What holds in the loop. -/
structure AtP (w wr : World) (s : ByteArray) (p : Nat) (v : Value) (l : List Int) : Prop where
  f : FHolds wr w.heap.size 0 0
  i : AtI w.heap.size (w.heap.size + 1) w wr s p
  o : wr.ownsRow (w.heap.size + 2) 3 1 v l.length (inc l)
theorem AtP.next {w wr : World} {s : ByteArray} {p : Nat} {v : Value} {l : List Int} (h : AtP w wr s p v l) (q : Nat) : AtP w (wr.iterAt (w.heap.size + 1) s q) s q v l :=
  ⟨h.f.below (B := w.heap.size + 1) (Lib.below_iterAt (Below.refl _ _) (Nat.le_refl _) _ _) (by omega), h.i.next q, ownsRow_iterAt h.o (by omega) s q⟩
theorem AtI.lt {B k0 : Nat} {w wr : World} {s : ByteArray} {p : Nat} (h : AtI B k0 w wr s p) : k0 < wr.heap.size := (Array.getElem?_eq_some_iff.1 h.i).1
end Go.Proofs.YtiillgahnbimjabDoor
