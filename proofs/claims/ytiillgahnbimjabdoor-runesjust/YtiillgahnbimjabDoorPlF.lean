/- Plain: the cells of shapes; rows of rows. -/
import Derived.Test.YtiillgahnbimjabDoorPlE
import Derived.Deep.AppendLies
namespace Go.Proofs.YtiillgahnbimjabDoor
open Go.RowKit

/-- The cells of a shape. -/
def spc (s : Shape) : List Value := s.flatMap fun p => [.int .i64 p.1, .int .i64 p.2]
theorem spc_len (s : Shape) : (spc s).length = s.length * 2 := by
  unfold spc
  induction s with
  | nil => rfl
  | cons a s ih => rw [List.flatMap_cons, List.length_append, ih, List.length_cons]; simp; omega
theorem spc_append (s t : Shape) : spc (s ++ t) = spc s ++ spc t := by unfold spc; rw [List.flatMap_append]
theorem spc_one (a b : Int) : spc [(a, b)] = [.int .i64 a, .int .i64 b] := rfl
/-- A byte of a code point's text. -/
theorem enc_chr {r : Int} (h : cp r) (k : Nat) (hk : k < szI r) : (enL r)[k]? = some (chr (Utf8.encode r) k) ∧ k < (Utf8.encode r).size := by
  have hl := enL_len h
  have h1 : k < (enL r).length := by omega
  rw [encode_eq h]
  refine ⟨?_, by rw [asText_size]; exact h1⟩
  rw [chr_asText (enL_by r), List.getElem?_eq_getElem h1]; rfl
theorem enc_size {r : Int} (h : cp r) : (Utf8.encode r).size = szI r := by rw [encode_eq h, asText_size, enL_len h]
theorem shp_get {lo hi : Int} (h : Blk lo hi) (k : Nat) (hk : k < szI lo) : (shp (lo, hi))[k]? = some (chr (Utf8.encode lo) k, chr (Utf8.encode hi) k) := by
  obtain ⟨h1, h2, h3, _⟩ := h.cpl
  unfold shp
  rw [List.getElem?_zip_eq_some]
  exact ⟨(enc_chr h1 k hk).1, (enc_chr h2 k (by omega)).1⟩
theorem shp_take {lo hi : Int} (h : Blk lo hi) (k : Nat) (hk : k < szI lo) : (shp (lo, hi)).take (k + 1) = (shp (lo, hi)).take k ++ [(chr (Utf8.encode lo) k, chr (Utf8.encode hi) k)] := by
  rw [List.take_add_one, shp_get h k hk]; rfl
end Go.Proofs.YtiillgahnbimjabDoor
