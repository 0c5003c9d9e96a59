/- DERIVED. Plain: how a class text is read. -/
import Derived.Test.YtlcmlipldkpliabItem
import Derived.Test.YtlcmlipldkpliabClassP
namespace Go.Proofs.Ytlcmlipldkpliab
open Go.RowKit

/-- The byte of a text at a place, or -1. -/
def chr (s : ByteArray) (i : Nat) : Int := if h : i < s.size then (s[i].toNat : Int) else -1
theorem chr_in {s : ByteArray} {i : Nat} (h : i < s.size) : chr s i = (s[i].toNat : Int) := by unfold chr; rw [dif_pos h]
theorem chr_out {s : ByteArray} {i : Nat} (h : ¬ i < s.size) : chr s i = -1 := by unfold chr; rw [dif_neg h]
theorem chr_le (s : ByteArray) (i : Nat) : -1 ≤ chr s i ∧ chr s i ≤ 255 := by
  unfold chr
  split
  · have := s[i].toNat_lt; omega
  · omega
theorem chr_lt {s : ByteArray} {i : Nat} (h : 0 ≤ chr s i) : i < s.size := by
  by_cases hi : i < s.size
  · exact hi
  · rw [chr_out hi] at h; omega
/-- What a digit is worth, or -1. -/
def hexV (c : Int) : Int := if 48 ≤ c ∧ c ≤ 57 then c - 48 else if 97 ≤ c ∧ c ≤ 102 then c - 87 else -1
/-- A byte told by its number, behind a backslash. -/
def rdHex (s : ByteArray) (i : Nat) : Option (Nat × Nat) :=
  if 0 ≤ hexV (chr s (i + 2)) ∧ 0 ≤ hexV (chr s (i + 3)) then some ((16 * hexV (chr s (i + 2)) + hexV (chr s (i + 3))).toNat, i + 4) else none
def rdEsc (s : ByteArray) (i : Nat) : Option (Nat × Nat) :=
  if chr s (i + 1) = 110 then some (10, i + 2) else if chr s (i + 1) = 114 then some (13, i + 2) else if chr s (i + 1) = 116 then some (9, i + 2) else
  if chr s (i + 1) = 120 then rdHex s i else if signB (chr s (i + 1)) then some ((chr s (i + 1)).toNat, i + 2) else none
def rdItem (s : ByteArray) (i : Nat) : Option (Nat × Nat) :=
  if chr s i = 92 then rdEsc s i else if chr s i = 93 ∨ chr s i = 45 ∨ chr s i = 37 ∨ prnB (chr s i) = false then none else some ((chr s i).toNat, i + 1)
/-- What is read, or a place and an error. -/
abbrev Rd (α : Type) := Sum α (Nat × Int)
def rdClass (s : ByteArray) (i : Nat) : Rd (BitVec 256 × Nat) :=
  if i + 1 < s.size ∧ (cls (chr s (i + 1)).toNat).2 = 0 then .inl ((cls (chr s (i + 1)).toNat).1, i + 2) else .inr (i, 10)
def rdMember (s : ByteArray) (i : Nat) : Rd (BitVec 256 × Nat) :=
  if chr s i = 37 then rdClass s i else
  match rdItem s i with
  | none => .inr (i, 6)
  | some (lo, n) =>
    if chr s n = 45 then
      match rdItem s (n + 1) with
      | none => .inr ((n + 1), 6)
      | some (hi, e) => if hi < lo then .inr (i, 1) else .inl (spn lo hi, e)
    else .inl (spn lo lo, n)
def rdMembers (s : ByteArray) : Nat → BitVec 256 → Nat → Rd (BitVec 256 × Nat)
  | 0, _, i => .inr (i, 6)
  | f + 1, x, i =>
    if chr s i = 93 then .inl (x, i) else
    match rdMember s i with
    | .inr (a, c) => .inr (a, c)
    | .inl (y, n) => rdMembers s f (x ||| y) n

theorem hexV_bd (c : Int) : -1 ≤ hexV c ∧ hexV c ≤ 15 := by unfold hexV; split; omega; split <;> omega
theorem hexV_chr {s : ByteArray} {i : Nat} (h : 0 ≤ hexV (chr s i)) : i < s.size := by
  by_cases hi : i < s.size
  · exact hi
  · rw [chr_out hi] at h; simp [hexV] at h
theorem rdHex_bd {s : ByteArray} {i b n : Nat} (h : rdHex s i = some (b, n)) : b < 256 ∧ i < n ∧ n ≤ s.size := by
  unfold rdHex at h
  split at h
  · rename_i hh
    have h1 := hexV_bd (chr s (i + 2)); have h2 := hexV_bd (chr s (i + 3)); have h3 := hexV_chr hh.2
    simp at h; omega
  · simp at h
theorem rdEsc_bd {s : ByteArray} {i b n : Nat} (h : rdEsc s i = some (b, n)) : b < 256 ∧ i < n ∧ n ≤ s.size := by
  unfold rdEsc at h
  have hc := chr_le s (i + 1)
  by_cases hi : i + 1 < s.size
  · split at h; (simp at h; omega)
    split at h; (simp at h; omega)
    split at h; (simp at h; omega)
    split at h; (exact rdHex_bd h)
    split at h
    · simp at h; omega
    · simp at h
  · rw [chr_out hi] at h; simp [signB] at h
theorem rdItem_bd {s : ByteArray} {i b n : Nat} (h : rdItem s i = some (b, n)) : b < 256 ∧ i < n ∧ n ≤ s.size := by
  unfold rdItem at h
  split at h
  · exact rdEsc_bd h
  · split at h
    · simp at h
    · rename_i h1
      have hc := chr_le s i
      have hi : i < s.size := by
        by_cases hi : i < s.size
        · exact hi
        · rw [chr_out hi] at h1; simp [prnB] at h1
      simp at h; omega
theorem rdMember_bd {s : ByteArray} {i n : Nat} {y : BitVec 256} (h : rdMember s i = .inl (y, n)) : i < n ∧ n ≤ s.size := by
  unfold rdMember at h
  split at h
  · unfold rdClass at h
    split at h
    · simp at h; omega
    · simp at h
  · split at h
    · simp at h
    · rename_i lo m hm
      have b1 := rdItem_bd hm
      split at h
      · split at h
        · simp at h
        · rename_i hi e he
          have b2 := rdItem_bd he
          split at h
          · simp at h
          · simp at h; omega
      · simp at h; omega
end Go.Proofs.Ytlcmlipldkpliab
