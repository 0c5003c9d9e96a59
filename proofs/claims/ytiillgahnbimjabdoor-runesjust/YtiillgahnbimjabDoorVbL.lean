/- DERIVED. Lists of numbers that come in. -/
import Derived.Test.YtiillgahnbimjabDoorVb
import Derived.Test.YtiillgahnbimjabDoorLnA
import Derived.ChangeSlices
namespace Go.Proofs.YtiillgahnbimjabDoor
open Go.ChangeShapes Go.WideShapes Go.ChangeAt Go.RowKit

theorem Tryd.cells3 : Tryd.prog.cellsOf 3 = 1 := by kernel_rfl
theorem Tryd.bytes3 : Tryd.prog.bytesOf 3 = 8 := by kernel_rfl
theorem open_list {H : Type} {enc : TypeId × Value → H} {W : World} {b0 : Nat} {r : Reach} {held : Bool} {v : Value} {d : DataW H} {p : List MemPlace} (hv : Value.okWide Tryd.prog W r b0 22 v) (h : DataW.Trod enc Tryd.prog W 0 (fun _ => true) held 22 v d p) :
    ∃ A c l, v = .slice A l.length c ∧ InI W A c l ∧ (l = [] ∨ ∃ es sp, d = .slice es sp ∧ es.length = l.length) := by
  obtain ⟨fuel, hf⟩ := h
  obtain ⟨a0, len0, cap0, rfl⟩ := okWide_slice Tryd.underlying22 hv
  rcases Go.ChangeShapes.open_ints Tryd.underlying22 Tryd.underlying3 Tryd.cells3 hf with ⟨hc, hx⟩ | ⟨a, len, cap, zs, hc, _, hl, hm, hz, hx, hall, _⟩
  · have hc : [Value.slice a0 len0 cap0] = [.slice none 0 0] := hc
    cases hc
    exact ⟨none, 0, [], rfl, .inl ⟨rfl, rfl, rfl⟩, .inl rfl⟩
  · have hc : [Value.slice a0 len0 cap0] = [.slice (some a) len cap] := hc
    cases hc
    simp only [if_true] at hz
    have hlen : (zs.take len0).length = len0 := by rw [List.length_take]; omega
    refine ⟨some a, cap0, zs.take len0, by rw [hlen], .inr ⟨a, rfl, fun j u hj => ?_⟩, .inr ⟨_, _, congrArg Prod.fst hx, by simp [lits]⟩⟩
    rw [List.getElem?_map] at hj
    have hj2 : j < len0 := by
      by_cases q : j < len0
      · exact q
      · rw [List.getElem?_eq_none (by omega)] at hj; cases hj
    have hz2 : j < zs.length := by omega
    rw [List.getElem?_take, if_pos hj2, List.getElem?_eq_getElem hz2] at hj
    have h1 := hall j hz2
    rw [List.getD_eq_getElem?_getD, List.getElem?_eq_getElem hz2] at h1
    cases hj
    exact h1
end Go.Proofs.YtiillgahnbimjabDoor
