/- DERIVED. A pattern that comes in is no longer than its room. -/
import Derived.Test.YtfomodpjdaclgabOpn
namespace Go.Proofs.Ytfomodpjdaclgab
open Go.ChangeShapes Go.WideShapes Go.ChangeAt Go.RowKit

theorem pat_cap {H : Type} {enc : TypeId × Value → H} {W : World} {held : Bool} {A : Option Addr} {n c : Nat} {d : DataW H} {p : List MemPlace} (h : DataW.Trod enc Try.prog W 0 (fun _ => true) held 23 (.slice A n c) d p) : n ≤ c := by
  obtain ⟨fuel, hf⟩ := h
  rcases Go.Deep.open_slice Try.underlying23 hf with ⟨hc, _⟩ | ⟨a, len, cap, m, _, D, Pl, hc, _, hl, _⟩
  · have hc : [Value.slice A n c] = [.slice none 0 0] := hc
    cases hc
    exact Nat.le_refl _
  · have hc : [Value.slice A n c] = [.slice (some a) len cap] := hc
    cases hc
    exact hl
end Go.Proofs.Ytfomodpjdaclgab
