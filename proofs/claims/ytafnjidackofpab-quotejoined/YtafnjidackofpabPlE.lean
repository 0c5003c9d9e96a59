/- Plain: the spots of a text: where its characters begin, by line and column, and its end. -/
import Derived.Test.YtafnjidackofpabPlA
import Derived.Laws.RangeAny
import Derived.Lib.RuneCount
namespace Go.Proofs.Ytafnjidackofpab
open Go.RowKit

/-- A place, its line and its column. -/
abbrev Spot := Nat × Nat × Nat
/-- The line behind a character. -/
def lnB (r l : Nat) : Nat := if r = 10 then l + 1 else l
/-- The column behind a character. -/
def coB (r c : Nat) : Nat := if r = 10 then 1 else c + 1
/-- The spots from a place on. -/
def spF (s : ByteArray) : Nat → Nat → Nat → Nat → List Spot
  | 0, _, l, c => [(s.size, l, c)]
  | f + 1, p, l, c => if p < s.size then (p, l, c) :: spF s f (p + (Utf8.decode s p).2) (lnB (Utf8.decode s p).1 l) (coB (Utf8.decode s p).1 c) else [(s.size, l, c)]
def spots (s : ByteArray) : List Spot := spF s (s.size + 1) 0 1 1
theorem spF_step {s : ByteArray} {f p l c : Nat} (h : p < s.size) : spF s (f + 1) p l c = (p, l, c) :: spF s f (p + (Utf8.decode s p).2) (lnB (Utf8.decode s p).1 l) (coB (Utf8.decode s p).1 c) := by
  rw [spF, if_pos h]
theorem spF_end {s : ByteArray} {f p l c : Nat} (h : ¬ p < s.size) : spF s f p l c = [(s.size, l, c)] := by
  cases f with
  | zero => rfl
  | succ f => rw [spF, if_neg h]
theorem lnB_le (r l : Nat) : lnB r l ≤ l + 1 := by unfold lnB; split <;> omega
theorem coB_le (r c : Nat) : coB r c ≤ c + 1 := by unfold coB; split <;> omega
/-- A spot as a value. -/
def spV (x : Spot) : Value := .agg #[.int .i64 (x.1 : Int), .int .i64 (x.2.1 : Int), .int .i64 (x.2.2 : Int)]
theorem pre_lt {α : Type} {pre : List α} {x : α} {r all : List α} (h : pre ++ x :: r = all) : pre.length < all.length := by rw [← h]; simp
theorem pre_pre {α : Type} {pre : List α} {x : α} {r all : List α} (h : pre ++ x :: r = all) : pre ++ [x] <+: all := ⟨r, by rw [← h]; simp⟩
theorem pre_next {α : Type} {pre : List α} {x : α} {r all : List α} (h : pre ++ x :: r = all) : (pre ++ [x]) ++ r = all := by rw [← h]; simp
end Go.Proofs.Ytafnjidackofpab
