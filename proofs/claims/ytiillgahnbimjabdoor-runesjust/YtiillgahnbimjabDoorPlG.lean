/- Plain: a text as code points: valid, read, cleaned; and points as a text. -/
import Derived.Test.YtiillgahnbimjabDoorPlD
namespace Go.Proofs.YtiillgahnbimjabDoor
open Go.RowKit

/-- The code points from a place on, or where none begins. -/
def ptF (s : ByteArray) : Nat → Nat → List Int → Sum (List Int) Nat
  | 0, _, l => .inl l
  | f + 1, p, l => if p < s.size then (match dcd s p with | none => .inr p | some (r, n) => ptF s f (p + n) (l ++ [r])) else .inl l
def pts (s : ByteArray) : Sum (List Int) Nat := ptF s s.size 0 []
def vlF (s : ByteArray) : Nat → Nat → Bool
  | 0, _ => true
  | f + 1, p => if p < s.size then (match dcd s p with | none => false | some (_, n) => vlF s f (p + n)) else true
def vld (s : ByteArray) : Bool := vlF s s.size 0
/-- The bytes of a text, cleaned, from a place on. -/
def clF (s : ByteArray) : Nat → Nat → List Int → List Int
  | 0, _, l => l
  | f + 1, p, l => if p < s.size then (match dcd s p with | none => clF s f (p + 1) (l ++ [239, 191, 189]) | some (r, n) => clF s f (p + n) (l ++ enL r)) else l
def cln (s : ByteArray) : List Int := clF s s.size 0 []

theorem ptF_end {s : ByteArray} {f p : Nat} {l : List Int} (h : ¬ p < s.size) : ptF s f p l = .inl l := by
  cases f with
  | zero => rfl
  | succ f => rw [ptF, if_neg h]
theorem ptF_bad {s : ByteArray} {f p : Nat} {l : List Int} (h : p < s.size) (hd : dcd s p = none) : ptF s (f + 1) p l = .inr p := by rw [ptF, if_pos h, hd]
theorem ptF_step {s : ByteArray} {f p n : Nat} {r : Int} {l : List Int} (h : p < s.size) (hd : dcd s p = some (r, n)) : ptF s (f + 1) p l = ptF s f (p + n) (l ++ [r]) := by rw [ptF, if_pos h, hd]
theorem vlF_end {s : ByteArray} {f p : Nat} (h : ¬ p < s.size) : vlF s f p = true := by
  cases f with
  | zero => rfl
  | succ f => rw [vlF, if_neg h]
theorem vlF_bad {s : ByteArray} {f p : Nat} (h : p < s.size) (hd : dcd s p = none) : vlF s (f + 1) p = false := by rw [vlF, if_pos h, hd]
theorem vlF_step {s : ByteArray} {f p n : Nat} {r : Int} (h : p < s.size) (hd : dcd s p = some (r, n)) : vlF s (f + 1) p = vlF s f (p + n) := by rw [vlF, if_pos h, hd]
theorem clF_end {s : ByteArray} {f p : Nat} {l : List Int} (h : ¬ p < s.size) : clF s f p l = l := by
  cases f with
  | zero => rfl
  | succ f => rw [clF, if_neg h]
theorem clF_bad {s : ByteArray} {f p : Nat} {l : List Int} (h : p < s.size) (hd : dcd s p = none) : clF s (f + 1) p l = clF s f (p + 1) (l ++ [239, 191, 189]) := by rw [clF, if_pos h, hd]
theorem clF_step {s : ByteArray} {f p n : Nat} {r : Int} {l : List Int} (h : p < s.size) (hd : dcd s p = some (r, n)) : clF s (f + 1) p l = clF s f (p + n) (l ++ enL r) := by rw [clF, if_pos h, hd]
/-- Points as a text. -/
def okL (l : List Int) : Bool := l.all cpB
/-- What FromPoints answers. -/
def fpV (l : List Int) : Value := if 4096 < l.length then .tuple #[.string ⟨#[]⟩, .int .i64 2] else if okL l = true then .tuple #[.string (asText (l.flatMap enL)), .int .i64 0] else .tuple #[.string ⟨#[]⟩, .int .i64 30]
theorem enL_le (r : Int) : 1 ≤ (enL r).length ∧ (enL r).length ≤ 4 := Lib.encodeRuneZ_length r
theorem flat_enL_le (l : List Int) : (l.flatMap enL).length ≤ 4 * l.length := by
  induction l with
  | nil => simp
  | cons b l ih => rw [List.flatMap_cons, List.length_append, List.length_cons]; have := enL_le b; omega
theorem flat_enL_by (l : List Int) : By (l.flatMap enL) := fun n hn => by
  obtain ⟨b, _, h2⟩ := List.mem_flatMap.1 hn
  exact enL_by b n h2
end Go.Proofs.YtiillgahnbimjabDoor
