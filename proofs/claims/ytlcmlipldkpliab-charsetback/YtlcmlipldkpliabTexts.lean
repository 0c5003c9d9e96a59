/- DERIVED. Plain: the set of a text's bytes. -/
import Derived.Test.YtlcmlipldkpliabSlots
namespace Go.Proofs.Ytlcmlipldkpliab
open Go.RowKit
/-- The set of a list of bytes. -/
def ofL (l : List UInt8) : BitVec 256 := l.foldl (fun x c => x ||| bt c.toNat) 0#256
theorem take_snoc (s : ByteArray) (k : Nat) (h : k < s.size) : s.data.toList.take (k + 1) = s.data.toList.take k ++ [s[k]] := by
  rw [List.take_succ_eq_append_getElem (by simpa using h)]; rfl
theorem ofL_take (s : ByteArray) (k : Nat) (h : k < s.size) : ofL (s.data.toList.take (k + 1)) = ofL (s.data.toList.take k) ||| bt s[k].toNat := by
  rw [take_snoc s k h]; unfold ofL; rw [List.foldl_append]; rfl
end Go.Proofs.Ytlcmlipldkpliab
