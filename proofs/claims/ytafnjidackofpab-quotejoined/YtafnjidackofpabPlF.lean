/- Plain: the last spot up to a place; the first spot of a line and a column. -/
import Derived.Test.YtafnjidackofpabPlE
namespace Go.Proofs.Ytafnjidackofpab
open Go.RowKit

/-- The last of some spots. -/
def lastOf (l : List Spot) : Spot := l.getLast?.getD (0, 0, 0)
theorem lastOf_snoc (l : List Spot) (x : Spot) : lastOf (l ++ [x]) = x := by unfold lastOf; simp
/-- The last spot up to a place. -/
def plP (s : ByteArray) (m : Nat) : Spot := lastOf ((spots s).takeWhile fun x => x.1 ≤ m)
/-- What Place answers. -/
def plV (x : Spot) : Value := .tuple #[.int .i64 (x.2.1 : Int), .int .i64 (x.2.2 : Int), .int .i64 0]
theorem take_all {l : List Spot} {m : Nat} (h : ∀ x ∈ l, x.1 ≤ m) : (l.takeWhile fun x => decide (x.1 ≤ m)) = l := by
  induction l with
  | nil => rfl
  | cons a l ih => rw [List.takeWhile_cons_of_pos (by simpa using h a (List.mem_cons_self ..)), ih (fun x hx => h x (List.mem_cons_of_mem _ hx))]
theorem take_upto {l all : List Spot} {x : Spot} {m : Nat} (hp : l ++ [x] <+: all) (h : ∀ y ∈ l, y.1 ≤ m) (hx : m < x.1) : (all.takeWhile fun x => decide (x.1 ≤ m)) = l := by
  obtain ⟨r, rfl⟩ := hp
  induction l with
  | nil => simp [show ¬ x.1 ≤ m from by omega]
  | cons a l ih =>
    rw [List.cons_append, List.cons_append, List.takeWhile_cons_of_pos (by simpa using h a (List.mem_cons_self ..)), ih (fun y hy => h y (List.mem_cons_of_mem _ hy))]
theorem plP_all {s : ByteArray} {m : Nat} (h : ∀ x ∈ spots s, x.1 ≤ m) : plP s m = lastOf (spots s) := by unfold plP; rw [take_all h]
theorem plP_upto {s : ByteArray} {l : List Spot} {x : Spot} {m : Nat} (hp : l ++ [x] <+: spots s) (h : ∀ y ∈ l, y.1 ≤ m) (hx : m < x.1) : plP s m = lastOf l := by unfold plP; rw [take_upto hp h hx]
/-- The spot of a line and a column. -/
def atB (ln co : Int) (x : Spot) : Bool := decide ((x.2.1 : Int) = ln ∧ (x.2.2 : Int) = co)
def atP (s : ByteArray) (ln co : Int) : Option Spot := (spots s).find? (atB ln co)
def atV : Option Spot → Value
  | some x => .tuple #[.int .i64 (x.1 : Int), .int .i64 0]
  | none => .tuple #[.int .i64 0, .int .i64 1]
theorem atP_none {s : ByteArray} {ln co : Int} (h : ∀ x ∈ spots s, atB ln co x = false) : atP s ln co = none := by
  unfold atP; rw [List.find?_eq_none]; intro x hx; rw [h x hx]; simp
theorem atP_some {s : ByteArray} {l : List Spot} {x : Spot} {ln co : Int} (hp : l ++ [x] <+: spots s) (h : ∀ y ∈ l, atB ln co y = false) (hx : atB ln co x = true) : atP s ln co = some x := by
  obtain ⟨r, hr⟩ := hp
  unfold atP
  rw [← hr]
  clear hr
  induction l with
  | nil => simp [hx]
  | cons a l ih =>
    have h1 := h a (List.mem_cons_self ..)
    rw [List.cons_append, List.cons_append, List.find?_cons_of_neg (by rw [h1]; simp), ih (fun y hy => h y (List.mem_cons_of_mem _ hy))]
end Go.Proofs.Ytafnjidackofpab
