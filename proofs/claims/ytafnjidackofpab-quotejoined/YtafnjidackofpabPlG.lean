/- Plain: characters: how many bytes one has. -/
import Derived.Test.YtafnjidackofpabPlE
import Derived.Lib.DecodeN
namespace Go.Proofs.Ytafnjidackofpab
open Go.RowKit

/-- A byte that goes on in a character. -/
def tlB (c : Int) : Bool := decide (128 ≤ c ∧ c < 192)
/-- How many bytes a character has, by its first four bytes. -/
def wdB (b c d e : Int) : Nat :=
  if (194 ≤ b ∧ b ≤ 223) ∧ tlB c = true then 2 else
  if (224 ≤ b ∧ b ≤ 239) ∧ tlB c = true ∧ tlB d = true ∧ (b ≠ 224 ∨ 160 ≤ c) ∧ (b ≠ 237 ∨ c < 160) then 3 else
  if (240 ≤ b ∧ b ≤ 244) ∧ tlB c = true ∧ tlB d = true ∧ tlB e = true ∧ (b ≠ 240 ∨ 144 ≤ c) ∧ (b ≠ 244 ∨ c < 144) then 4 else 1
/-- How many bytes the character has that begins at a place. -/
def chW (s : ByteArray) (i : Nat) : Nat := wdB (chr s i) (chr s (i + 1)) (chr s (i + 2)) (chr s (i + 3))

theorem tlB_iff {c : Int} : tlB c = true ↔ 128 ≤ c ∧ c < 192 := by unfold tlB; simp
theorem get_chr (s : ByteArray) (i : Nat) (h : i < s.size) : ((s.get! i).toNat : Int) = chr s i := by
  rw [chr_in h]
  have : s.get! i = s[i] := by simp [ByteArray.get!, getElem!_pos, h]; rfl
  rw [this]

theorem wdB_bd (b c d e : Int) : 1 ≤ wdB b c d e ∧ wdB b c d e ≤ 4 := by
  unfold wdB; repeat' split
  all_goals omega
theorem chW_bd (s : ByteArray) (i : Nat) : 1 ≤ chW s i ∧ chW s i ≤ 4 := wdB_bd _ _ _ _
theorem wdB_tail {b c d e : Int} : (1 < wdB b c d e → 128 ≤ c ∧ 128 ≤ b) ∧ (2 < wdB b c d e → 128 ≤ d) ∧ (3 < wdB b c d e → 128 ≤ e) := by
  unfold wdB
  simp only [tlB_iff]
  repeat' split
  all_goals refine ⟨fun h => ?_, fun h => ?_, fun h => ?_⟩ <;> omega
theorem chW_tail {s : ByteArray} {i k : Nat} (h1 : i < k) (h2 : k < i + chW s i) : 128 ≤ chr s k := by
  have hb := chW_bd s i
  obtain ⟨t1, t2, t3⟩ := wdB_tail (b := chr s i) (c := chr s (i + 1)) (d := chr s (i + 2)) (e := chr s (i + 3))
  unfold chW at h2 hb
  have : k = i + 1 ∨ k = i + 2 ∨ k = i + 3 := by omega
  rcases this with rfl | rfl | rfl
  · exact (t1 (by omega)).1
  · exact t2 (by omega)
  · exact t3 (by omega)
theorem chW_head {s : ByteArray} {i : Nat} (h : 1 < chW s i) : 128 ≤ chr s i := (wdB_tail.1 h).2
theorem chW_le {s : ByteArray} {i : Nat} (h : i < s.size) : i + chW s i ≤ s.size := by
  have hb := chW_bd s i
  by_cases h1 : chW s i = 1
  · omega
  · have := chr_lt (s := s) (i := i + chW s i - 1) (by have := chW_tail (s := s) (i := i) (k := i + chW s i - 1) (by omega) (by omega); omega)
    omega
theorem chW_ten {s : ByteArray} {i : Nat} (h : chr s i = 10) : chW s i = 1 := by
  have hb := chW_bd s i
  by_cases h1 : chW s i = 1
  · exact h1
  · have := chW_head (s := s) (i := i) (by omega); omega

set_option maxRecDepth 100000 in
set_option maxHeartbeats 4000000 in
theorem decN_w (n b0 b1 b2 b3 : Nat) (x1 x2 x3 : Int) (h0 : b0 < 256) (h1 : b1 < 256) (h2 : b2 < 256) (h3 : b3 < 256)
    (c1 : (1 < n ∧ x1 = b1) ∨ (¬ 1 < n ∧ x1 = -1)) (c2 : (2 < n ∧ x2 = b2) ∨ (¬ 2 < n ∧ x2 = -1)) (c3 : (3 < n ∧ x3 = b3) ∨ (¬ 3 < n ∧ x3 = -1)) :
    (Lib.decodeN n b0 b1 b2 b3).2 = wdB b0 x1 x2 x3 := by
  unfold Lib.decodeN wdB
  simp only [tlB_iff]
  repeat' split
  all_goals first | rfl | (exfalso; omega)
set_option maxRecDepth 100000 in
set_option maxHeartbeats 4000000 in
theorem decN_ten (n b0 b1 b2 b3 : Nat) : (Lib.decodeN n b0 b1 b2 b3).1 = 10 ↔ b0 = 10 := by
  unfold Lib.decodeN
  repeat' split
  all_goals (dsimp only; omega)
theorem near_chr (s : ByteArray) (i k : Nat) : (k < s.size - i ∧ chr s (i + k) = ((s.get! (i + k)).toNat : Int)) ∨ (¬ k < s.size - i ∧ chr s (i + k) = -1) := by
  by_cases q : i + k < s.size
  · exact .inl ⟨by omega, (get_chr s _ q).symm⟩
  · exact .inr ⟨by omega, chr_out q⟩
theorem dec_w (s : ByteArray) (i : Nat) (h : i < s.size) : (Utf8.decode s i).2 = chW s i := by
  rw [Lib.decode_at, decN_w _ _ _ _ _ _ _ _ (s.get! i).toNat_lt (s.get! (i + 1)).toNat_lt (s.get! (i + 2)).toNat_lt (s.get! (i + 3)).toNat_lt (near_chr s i 1) (near_chr s i 2) (near_chr s i 3), get_chr s i h]
  rfl
theorem dec_ten (s : ByteArray) (i : Nat) (h : i < s.size) : (Utf8.decode s i).1 = 10 ↔ chr s i = 10 := by
  rw [Lib.decode_at, decN_ten, ← get_chr s i h]
  omega
end Go.Proofs.Ytafnjidackofpab
