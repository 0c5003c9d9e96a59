/- Plain: what the calls of this layer answer for code points. -/
import Derived.Test.YtiillgahnbimjabDoorPlB
namespace Go.Proofs.YtiillgahnbimjabDoor
open Go.RowKit

def cpB (n : Int) : Bool := decide (0 ≤ n ∧ n ≤ 1114111 ∧ ¬ (55296 ≤ n ∧ n ≤ 57343))
theorem cpB_iff {n : Int} : cpB n = true ↔ cp n := by unfold cpB cp; rw [decide_eq_true_eq]
theorem cpB_not {n : Int} : cpB n = false ↔ ¬ cp n := by rw [← cpB_iff, Bool.not_eq_true]
theorem cpB_t {n : Int} (h : cp n) : cpB n = true := cpB_iff.2 h
theorem cpB_f {n : Int} (h : ¬ cp n) : cpB n = false := cpB_not.2 h
/-- A number from 0 to 10FFFF. -/
def bdB (n : Int) : Bool := decide (0 ≤ n ∧ n ≤ 1114111)
theorem bdB_t {n : Int} (h : 0 ≤ n ∧ n ≤ 1114111) : bdB n = true := decide_eq_true h
theorem bdB_f {n : Int} (h : ¬ (0 ≤ n ∧ n ≤ 1114111)) : bdB n = false := decide_eq_false h
/-- What Encode answers. -/
def enV (n : Int) : Value := if cpB n = true then .tuple #[.string (Utf8.encode n), .int .i64 0] else .tuple #[.string ⟨#[]⟩, .int .i64 30]
/-- What Decode answers. -/
def deV : Option (Int × Nat) → Value
  | some (r, n) => .tuple #[.int .i64 r, .int .i64 (n : Int), .bool true]
  | none => .tuple #[.int .i64 0, .int .i64 0, .bool false]
/-- At any place. -/
def dcI (s : ByteArray) (a : Int) : Option (Int × Nat) := if 0 ≤ a then dcd s a.toNat else none
theorem enV_t {n : Int} (h : cp n) : enV n = .tuple #[.string (Utf8.encode n), .int .i64 0] := by unfold enV; rw [if_pos (cpB_t h)]
theorem enV_f {n : Int} (h : ¬ cp n) : enV n = .tuple #[.string ⟨#[]⟩, .int .i64 30] := by unfold enV; rw [if_neg (by rw [cpB_f h]; simp)]
theorem dcI_neg {s : ByteArray} {a : Int} (h : a < 0) : dcI s a = none := by unfold dcI; rw [if_neg (by omega)]
theorem dcI_out {s : ByteArray} {a : Int} (h : (s.size : Int) ≤ a) : dcI s a = none := by
  unfold dcI; rw [if_pos (by omega)]; exact dcd_out (by omega)
theorem dcI_in {s : ByteArray} (i : Nat) : dcI s (i : Int) = dcd s i := by unfold dcI; rw [if_pos (by omega)]; rfl
/-- The bytes of a code point, one by one, from the last one on. -/
theorem enL_by_div {r : Int} (h : cp r) : asText (enL r) = Utf8.encode r := (encode_eq h).symm
theorem fz_bd {s : ByteArray} {p i : Nat} {r : Int} (h0 : 0 ≤ r) (hb : (i = 1 → r ≤ 255) ∧ (i = 2 → r ≤ 16447) ∧ (i = 3 → r ≤ 1052735)) (hp : p + i < s.size) :
    -128 ≤ r * 64 + chr s (p + i) - 128 ∧ (i + 1 = 2 → r * 64 + chr s (p + i) - 128 ≤ 16447) ∧ (i + 1 = 3 → r * 64 + chr s (p + i) - 128 ≤ 1052735) ∧ (i + 1 = 4 → r * 64 + chr s (p + i) - 128 ≤ 67375167) := by
  have := chr_bd hp
  omega
end Go.Proofs.YtiillgahnbimjabDoor
