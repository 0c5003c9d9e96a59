/- DERIVED. A change that comes in, opened: a pattern, a number, a pattern. -/
import Derived.Test.YtfomodpjdaclgabOpC
import Derived.Test.YtfomodpjdaclgabLnA
import Derived.Deep.Strs
namespace Go.Proofs.Ytfomodpjdaclgab
open Go.ChangeShapes Go.WideShapes Go.ChangeAt Go.RowKit

theorem Try.cells42 : Try.prog.cellsOf 42 = 3 := by kernel_rfl
theorem Try.cells23 : Try.prog.cellsOf 23 = 1 := by kernel_rfl
theorem pat_slice {H : Type} {enc : TypeId × Value → H} {W : World} {held : Bool} {n : Nat} {v : Value} {x : DataW H × List MemPlace} (h : DataW.trod enc Try.prog W 0 (fun _ => true) held n 23 [v] = some x) : ∃ a l c, v = .slice a l c := by
  rcases Go.Deep.open_slice Try.underlying23 h with ⟨hc, _⟩ | ⟨a, len, cap, m, _, D, Pl, hc, _⟩
  · cases hc; exact ⟨_, _, _, rfl⟩
  · cases hc; exact ⟨_, _, _, rfl⟩
/-- A pattern that came in, with its sizes. -/
structure PatIn (W : World) (A : Option Addr) (c : Nat) (L : List Nd) : Prop where
  i : InP W A c L
  cap : L.length ≤ c
  len : L.length * 64 ≤ 140737488351232
  tx : ∀ n ∈ L, n.tx.size ≤ 140737488351232
theorem open_patIn {H : Type} {enc : TypeId × Value → H} {W : World} {held : Bool} {v : Value} {n : Nat} {x : DataW H × List MemPlace} (h : DataW.trod enc Try.prog W 0 (fun _ => true) held n 23 [v] = some x) (hs : ∀ m ∈ x.1.weights Try.prog 23, m ≤ reachBytes) : ∃ A c L, v = .slice A L.length c ∧ PatIn W A c L := by
  obtain ⟨a, l, c0, rfl⟩ := pat_slice h
  have ht : DataW.Trod enc Try.prog W 0 (fun _ => true) held 23 (.slice a l c0) x.1 x.2 := ⟨n, h⟩
  obtain ⟨A, c, L, e, r, nl, s⟩ := open_pat ht ⟨_, _, _, rfl⟩
  cases e
  obtain ⟨s0, s1⟩ := s hs
  exact ⟨_, _, L, rfl, ⟨⟨r, nl⟩, pat_cap ht, s0, s1⟩⟩
theorem open_chg {H : Type} {enc : TypeId × Value → H} {W : World} {held : Bool} {v : Value} {d : DataW H} {p : List MemPlace} (h : DataW.Trod enc Try.prog W 0 (fun _ => true) held 42 v d p) (hv : ∃ cs, v = .agg cs ∧ cs.size = Try.prog.cellsOf 42) (hs : ∀ n ∈ d.weights Try.prog 42, n ≤ reachBytes) :
    ∃ A c L at' A2 c2 M, v = .agg #[.slice A L.length c, .int .i64 at', .slice A2 M.length c2] ∧ PatIn W A c L ∧ PatIn W A2 c2 M := by
  obtain ⟨cs, rfl, hsz⟩ := hv
  rw [Try.cells42] at hsz
  obtain ⟨l⟩ := cs
  match l, hsz with
  | [a, b, c], _ =>
    obtain ⟨fuel, hf⟩ := h
    have hf2 : DataW.trod enc Try.prog W 0 (fun _ => true) held fuel 42 [a, b, c] = some (d, p) := hf
    obtain ⟨y0, y1, y2, k, hx, _, h0, h1, h2⟩ := Go.Deep.trod_struct3 Try.underlying42 hf2
    simp only [Try.cells23, Try.cells3, List.drop_zero, List.take_succ_cons, List.take_zero, List.drop_succ_cons] at h0 h1 h2
    have hd : d = .agg [y0.1, y1.1, y2.1] := congrArg Prod.fst hx
    rw [hd] at hs
    simp only [DataW.weights, Try.underlying42] at hs
    simp only [DataW.weightsEach, List.map_cons, List.map_nil, List.mem_append] at hs
    obtain ⟨A, c1, L, e0, i0⟩ := open_patIn h0 (fun m hm => hs m (.inl hm))
    obtain ⟨N, e1, _, _⟩ := DataW.trod_int Try.underlying3 h1
    obtain ⟨A2, c2, M, e2, i2⟩ := open_patIn h2 (fun m hm => hs m (.inr (.inr (.inl hm))))
    cases e1
    subst e0 e2
    exact ⟨A, c1, L, N, A2, c2, M, rfl, i0, i2⟩
end Go.Proofs.Ytfomodpjdaclgab
