/- Plain: names, templates, nodes: what a node may hold by itself. -/
import Derived.WalkKit
import Derived.ProofKit
import Derived.BigQuiet
namespace Go.Proofs.Ytfomodpjdaclgab
open Go.RowKit

def dgB (c : Int) : Bool := decide (48 ≤ c) && decide (c ≤ 57)
def ltB (c : Int) : Bool := (decide (97 ≤ c) && decide (c ≤ 122)) || (decide (65 ≤ c) && decide (c ≤ 90))
def nmC (c : Int) : Bool := dgB c || ltB c || c == 95

def NmP (s : ByteArray) : Prop := 0 < s.size ∧ s.size ≤ 32 ∧ (∀ h : 0 < s.size, dgB (s[0].toNat : Int) = false) ∧ ∀ (j : Nat) (h : j < s.size), nmC (s[j].toNat : Int) = true
def decNm (s:ByteArray):Decidable (NmP s):=by unfold NmP;exact inferInstance
def nmB (s:ByteArray):Bool:=@decide (NmP s) (decNm s)
theorem nmB_t {s : ByteArray} (h : NmP s) : nmB s = true := by unfold nmB; exact @decide_eq_true _ (decNm _) h
theorem nmB_f {s : ByteArray} (h : ¬ NmP s) : nmB s = false := by unfold nmB; exact @decide_eq_false _ (decNm _) h

def tmGo (s : ByteArray) : Nat → Nat → Bool
  | 0, _ => true
  | m + 1, i => if h : i < s.size then (if (s[i].toNat : Int) = 37 then (if h2 : i + 1 < s.size then (if (s[i + 1].toNat : Int) = 37 ∨ dgB (s[i + 1].toNat : Int) = true then tmGo s m (i + 2) else false) else false) else tmGo s m (i + 1)) else true
def tmB (s : ByteArray) : Bool := if s.size ≤ 255 then tmGo s s.size 0 else false

/-- A node of a pattern. -/
structure Nd where
  op : Int
  nn : Int
  tx : ByteArray
  s0 : Int
  s1 : Int
  s2 : Int
  s3 : Int

def ar (op : Int) : Int := if op < 1 ∨ 23 < op then -1 else if op ≤ 6 ∨ op = 17 then 0 else if op = 7 ∨ op = 8 then 2 else 1
theorem ar_lo (op : Int) : -1 ≤ ar op := by
  unfold ar; split
  · omega
  · split
    · omega
    · split <;> omega
theorem ar_hi (op : Int) : ar op ≤ 2 := by
  unfold ar; split
  · omega
  · split
    · omega
    · split <;> omega

def txF (op : Int) (tx : ByteArray) : Bool := if op = 4 then decide (1 ≤ tx.size ∧ tx.size ≤ 255) else if op = 6 then nmB tx else if op = 19 then decide (tx.size = 0) || nmB tx else if op = 22 then tmB tx else decide (tx.size = 0)
def nuF (op nn : Int) : Bool := if op = 14 ∨ op = 15 ∨ op = 16 ∨ op = 23 then decide (0 ≤ nn ∧ nn ≤ 50) else decide (nn = 0)
def seF (op a b c d : Int) : Bool := if op = 5 then true else decide (a = 0 ∧ b = 0 ∧ c = 0 ∧ d = 0)
def fdF (n : Nd) : Bool := txF n.op n.tx && nuF n.op n.nn && seF n.op n.s0 n.s1 n.s2 n.s3
def alE (n : Nd) : Int := if ar n.op < 0 then 40 else if fdF n then 0 else 41

abbrev ndG (n : Nd) : Value := .agg #[.int .i64 n.op, .int .i64 n.nn, .string n.tx, .int .u64 n.s0, .int .u64 n.s1, .int .u64 n.s2, .int .u64 n.s3]
def ndV (n : Nd) : List Value := [.int .i64 n.op, .int .i64 n.nn, .string n.tx, .int .u64 n.s0, .int .u64 n.s1, .int .u64 n.s2, .int .u64 n.s3]
def ndc (l : List Nd) : List Value := l.flatMap ndV
theorem ndc_append (a b : List Nd) : ndc (a ++ b) = ndc a ++ ndc b := List.flatMap_append
theorem ndc_one (n : Nd) : ndc [n] = ndV n := by unfold ndc; rw [List.flatMap_cons, List.flatMap_nil, List.append_nil]
theorem ndc_len (l : List Nd) : (ndc l).length = l.length * 7 := by
  induction l with
  | nil => rfl
  | cons a l ih => show (ndV a ++ ndc l).length = _; rw [List.length_append, ih, List.length_cons]; show 7 + _ = _; omega

theorem emp_t {s : ByteArray} (h : s.size = 0) : s.toList.isEmpty = true := by
  obtain ⟨d⟩ := s
  have h2 : d.size = 0 := h
  rw [ByteArray.toList_eq, Array.eq_empty_of_size_eq_zero h2]; rfl
theorem emp_f {s : ByteArray} (h : ¬ s.size = 0) : s.toList.isEmpty = false := by
  obtain ⟨d⟩ := s
  have h2 : ¬ d.toList.length = 0 := h
  rw [ByteArray.toList_eq]
  show d.toList.isEmpty = false
  cases hd : d.toList with
  | nil => rw [hd] at h2; exact absurd rfl h2
  | cons a b => rfl
theorem ret_bool {a b : Bool} (h : a = b) : Ending.returned (.bool a) = .returned (.bool b) := by rw [h]
theorem ret_int {a b : Int} (h : a = b) : Ending.returned (.int .i64 a) = .returned (.int .i64 b) := by rw [h]
end Go.Proofs.Ytfomodpjdaclgab
