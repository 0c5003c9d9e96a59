/- Plain: literals, how they are written. -/
import Derived.Test.YtafnjidackofpabPlA
import Derived.Lib.Builder
import Derived.Lib.UnsafeStr
import Derived.Lib.AppendStr
namespace Go.Proofs.Ytafnjidackofpab
open Go.RowKit

/-- The digit of a number below 16. -/
def hexD (m : Int) : Int := if m < 10 then 48 + m else 87 + m
/-- A byte as it stands in a literal. -/
def shB (b : Int) : List Int :=
  if b = 10 then [92, 110] else if b = 13 then [92, 114] else if b = 9 then [92, 116] else if b = 39 ∨ b = 92 then [92, b] else
  if 32 ≤ b ∧ b ≤ 126 then [b] else [92, 120, hexD (b / 16), hexD (b % 16)]
/-- The bytes of a text, as numbers. -/
def byl (s : ByteArray) : List Int := s.data.toList.map fun c => (c.toNat : Int)
/-- The first bytes of a literal. -/
def qTo (s : ByteArray) (k : Nat) : List Int := 39 :: ((byl s).take k).flatMap shB
def qT (s : ByteArray) : List Int := 39 :: (byl s).flatMap shB ++ [39]
/-- All are bytes. -/
def By (l : List Int) : Prop := ∀ n ∈ l, 0 ≤ n ∧ n ≤ 255

theorem By.append {a b : List Int} (h : By a) (k : By b) : By (a ++ b) := fun n hn => by
  rcases List.mem_append.1 hn with h1 | h1
  · exact h n h1
  · exact k n h1
theorem By.nil : By [] := fun n hn => by cases hn
theorem By.cons {x : Int} {l : List Int} (hx : 0 ≤ x ∧ x ≤ 255) (h : By l) : By (x :: l) := fun n hn => by
  rcases List.mem_cons.1 hn with rfl | h1
  · exact hx
  · exact h n h1
theorem hexD_bd {m : Int} (h0 : 0 ≤ m) (h1 : m < 16) : 48 ≤ hexD m ∧ hexD m ≤ 102 := by unfold hexD; split <;> omega
theorem shB_by {b : Int} (h0 : 0 ≤ b) (h1 : b ≤ 255) : By (shB b) := by
  have d1 := hexD_bd (m := b / 16) (by omega) (by omega)
  have d2 := hexD_bd (m := b % 16) (by omega) (by omega)
  unfold shB
  repeat' split
  all_goals
    intro n hn
    simp only [List.mem_cons, List.not_mem_nil, or_false] at hn
    omega
theorem shB_len (b : Int) : 1 ≤ (shB b).length ∧ (shB b).length ≤ 4 := by
  unfold shB
  repeat' split
  all_goals simp
theorem byl_by (s : ByteArray) : By (byl s) := fun n hn => by
  unfold byl at hn
  obtain ⟨c, _, rfl⟩ := List.mem_map.1 hn
  have := c.toNat_lt
  omega
theorem byl_len (s : ByteArray) : (byl s).length = s.size := by unfold byl; rw [List.length_map]; rfl
theorem byl_get (s : ByteArray) (k : Nat) (h : k < s.size) : (byl s)[k]? = some (s[k].toNat : Int) := by
  unfold byl
  rw [List.getElem?_map, List.getElem?_eq_getElem (by simpa using h)]
  rfl
theorem qTo_succ (s : ByteArray) (k : Nat) (h : k < s.size) : qTo s (k + 1) = qTo s k ++ shB (s[k].toNat : Int) := by
  unfold qTo
  have h2 := byl_get s k h
  rw [List.take_add_one, h2, List.flatMap_append]
  simp
theorem qTo_all (s : ByteArray) (k : Nat) (h : s.size ≤ k) : qTo s k ++ [39] = qT s := by
  unfold qTo qT
  rw [List.take_of_length_le (by rw [byl_len]; exact h)]
theorem flat_by {l : List Int} (h : By l) : By (l.flatMap shB) := fun n hn => by
  obtain ⟨b, hb, h2⟩ := List.mem_flatMap.1 hn
  exact shB_by (h b hb).1 (h b hb).2 n h2
theorem flat_len (l : List Int) : l.length ≤ (l.flatMap shB).length ∧ (l.flatMap shB).length ≤ 4 * l.length := by
  induction l with
  | nil => simp
  | cons b l ih => rw [List.flatMap_cons, List.length_append, List.length_cons]; have := shB_len b; omega
theorem qTo_by (s : ByteArray) (k : Nat) : By (qTo s k) := By.cons (by omega) (flat_by fun n hn => byl_by s n (List.mem_of_mem_take hn))
theorem qTo_len (s : ByteArray) (k : Nat) : (qTo s k).length ≤ 4 * k + 1 ∧ 1 ≤ (qTo s k).length := by
  unfold qTo
  have h := flat_len ((byl s).take k)
  have h2 : ((byl s).take k).length ≤ k := List.length_take_le _ _
  rw [List.length_cons]
  omega
theorem qTo_mono (s : ByteArray) (k : Nat) : (qTo s k).length + 1 ≤ (qT s).length := by
  unfold qTo qT
  have h : (byl s).flatMap shB = ((byl s).take k).flatMap shB ++ ((byl s).drop k).flatMap shB := by rw [← List.flatMap_append, List.take_append_drop]
  rw [h]
  simp
theorem qT_by (s : ByteArray) : By (qT s) := (By.cons (by omega) (flat_by (byl_by s))).append (By.cons (by omega) By.nil)

theorem by_cells {l : List Int} (h : By l) : Lib.byteCells (l.map fun n => UInt8.ofNat n.toNat) = l.map (Value.int .u8) := by
  unfold Lib.byteCells
  rw [List.map_map]
  refine List.map_congr_left fun n hn => ?_
  have := h n hn
  show Value.int .u8 ((UInt8.ofNat n.toNat).toNat : Int) = _
  rw [UInt8.toNat_ofNat', Nat.mod_eq_of_lt (by omega)]
  congr 1
  omega
theorem asText_eq (l : List Int) : asText l = ⟨(l.map fun n => UInt8.ofNat n.toNat).toArray⟩ := by
  have h := asText_data l
  cases ht : asText l with
  | mk d =>
    rw [ht] at h
    cases d with
    | mk x => simp at h; rw [h]
theorem strCells_text {l : List Int} (h : By l) : Lib.strCells (asText l) = l.map (Value.int .u8) := by
  rw [asText_eq, ← by_cells h]; rfl
theorem asText_size (l : List Int) : (asText l).size = l.length := by
  rw [asText_eq]; show (List.toArray _).size = _; simp
theorem asText_byl (s : ByteArray) : asText (byl s) = s := by
  rw [asText_eq]
  unfold byl
  rw [List.map_map]
  have : (List.map ((fun n : Int => UInt8.ofNat n.toNat) ∘ fun c : UInt8 => (c.toNat : Int)) s.data.toList) = s.data.toList := by
    conv => rhs; rw [← List.map_id s.data.toList]
    refine List.map_congr_left fun c _ => ?_
    simp
  rw [this]
/-- What Quote answers. -/
def quV (s : ByteArray) : Value := if 65536 < s.size ∨ 65536 < (qT s).length then .tuple #[.string ⟨#[]⟩, .int .i64 2] else .tuple #[.string (asText (qT s)), .int .i64 0]
end Go.Proofs.Ytafnjidackofpab
