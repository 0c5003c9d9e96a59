/- Plain: a text behind a place; what a range tells of it. -/
import Derived.Test.YtiillgahnbimjabDoorPlC
namespace Go.Proofs.YtiillgahnbimjabDoor
open Go.RowKit

theorem chr_tail (s : ByteArray) (p k : Nat) : chr (s.extract p s.size) k = chr s (p + k) := by
  by_cases q : p + k < s.size
  · exact chr_ext s p s.size k (Nat.le_refl _) q
  · rw [chr_out q, chr_out (by rw [ext_size _ _ _ (Nat.le_refl _)]; omega)]
theorem dec4_tail (s : ByteArray) (p : Nat) : dec4 (s.extract p s.size) 0 = dec4 s p := by
  unfold dec4
  rw [chr_tail, chr_tail, chr_tail, chr_tail]
  rfl
theorem dec_tail (s : ByteArray) (p : Nat) (h : p < s.size) : ((Utf8.decode (s.extract p s.size) 0).1 : Int) = ((Utf8.decode s p).1 : Int) := by
  rw [(dec_dec4 s p h).1, (dec_dec4 (s.extract p s.size) 0 (by rw [ext_size _ _ _ (Nat.le_refl _)]; omega)).1, dec4_tail]
theorem ext_pos (s : ByteArray) (p : Nat) (h : p < s.size) : 0 < (s.extract p s.size).size := by rw [ext_size _ _ _ (Nat.le_refl _)]; omega
theorem ext_zero (s : ByteArray) (p : Nat) (h : ¬ p < s.size) : ¬ 0 < (s.extract p s.size).size := by rw [ext_size _ _ _ (Nat.le_refl _)]; omega
theorem dcd_none_iff {s : ByteArray} {p : Nat} : (dcd s p).isSome = false ↔ dcd s p = none := by cases dcd s p <;> simp
end Go.Proofs.YtiillgahnbimjabDoor
