/- DERIVED. A list of patterns and a node that come in, opened. -/
import Derived.Test.YtfomodpjdaclgaaOpS
import Derived.Test.YtfomodpjdaclgaaJnP
namespace Go.Proofs.Ytfomodpjdaclgaa
open Go.ChangeShapes Go.WideShapes Go.ChangeAt Go.RowKit

theorem Try.bytes23 : Try.prog.bytesOf 23 = 24 := by kernel_rfl
theorem open_node {H : Type} {enc : TypeId × Value → H} {W : World} {held : Bool} {v : Value} {d : DataW H} {p : List MemPlace} (h : DataW.Trod enc Try.prog W 0 (fun _ => true) held 43 v d p) (hv : ∃ cs, v = .agg cs ∧ cs.size = Try.prog.cellsOf 43) (hs : ∀ n ∈ d.weights Try.prog 43, n ≤ reachBytes) : ∃ n : Nd, v = ndG n ∧ n.tx.size ≤ 140737488351232 := by
  have hr : reachBytes = 140737488351232 := by decide
  obtain ⟨cs, rfl, _⟩ := hv
  obtain ⟨l⟩ := cs
  obtain ⟨fuel, hf⟩ := h
  have hf2 : DataW.trod enc Try.prog W 0 (fun _ => true) held fuel 43 l = some (d, p) := hf
  obtain ⟨nd, rfl, hw⟩ := node_in hf2
  have := hs _ hw
  rw [hr] at this
  exact ⟨nd, rfl, this⟩
theorem open_pats {H : Type} {enc : TypeId × Value → H} {W : World} {held : Bool} {v : Value} {d : DataW H} {p : List MemPlace} (h : DataW.Trod enc Try.prog W 0 (fun _ => true) held 44 v d p) (hv : ∃ a l c, v = .slice a l c) (hs : ∀ n ∈ d.weights Try.prog 44, n ≤ reachBytes) :
    ∃ A c ps, v = .slice A (List.length (α := Ls) ps) c ∧ RdL W A ps ∧ ps.length * 24 ≤ 140737488351232 ∧ ∀ p ∈ ps, PatIn W p.1 p.2.1 p.2.2 := by
  have hr : reachBytes = 140737488351232 := by decide
  obtain ⟨fuel, hf⟩ := h
  obtain ⟨a0, len0, cap0, rfl⟩ := hv
  rcases Go.Deep.open_slice1 Try.underlying44 Try.cells23 hf with ⟨hc, hx⟩ | ⟨a, len, cap, m, n, V, D, Pl, hc, _, hl, hm, hmm, hx, hall⟩
  · have hc : [Value.slice a0 len0 cap0] = [.slice none 0 0] := hc
    cases hc
    exact ⟨none, 0, [], rfl, ⟨fun q => absurd rfl q, fun p hp => by cases hp⟩, by simp, fun p hp => by cases hp⟩
  · have hc : [Value.slice a0 len0 cap0] = [.slice (some a) len cap] := hc
    cases hc
    simp only [if_true] at hmm
    subst hmm
    have hd : d = .slice ((List.range len0).map D) ((List.range (m - len0)).map fun j => D (len0 + j)) := congrArg Prod.fst hx
    rw [hd] at hs
    simp only [DataW.weights, Try.underlying44] at hs
    have each : ∀ i, i < len0 → ∃ q : Ls, V i = lsV q ∧ PatIn W q.1 q.2.1 q.2.2 := by
      intro i hi
      obtain ⟨h1, h2⟩ := hall i (by omega)
      obtain ⟨A, c, L, e, hp⟩ := open_patIn h2 (fun k hk => hs k (List.mem_cons_of_mem _ (List.mem_append_left _ (weights_all _ 23 _ (D i) (List.mem_map.2 ⟨i, List.mem_range.2 hi, rfl⟩) _ hk))))
      exact ⟨(A, c, L), e, hp⟩
    obtain ⟨F, hF⟩ : ∃ F : Nat → Ls, ∀ i, i < len0 → V i = lsV (F i) ∧ PatIn W (F i).1 (F i).2.1 (F i).2.2 :=
      ⟨fun i => if h : i < len0 then Classical.choose (each i h) else (none, 0, []), fun i h => by simp only [dif_pos h]; exact Classical.choose_spec (each i h)⟩
    have hin : ∀ q ∈ (List.range len0).map F, PatIn W q.1 q.2.1 q.2.2 := fun q hq => by
      obtain ⟨i, hi, rfl⟩ := List.mem_map.1 hq
      exact (hF i (List.mem_range.1 hi)).2
    refine ⟨some a, m, (List.range len0).map F, by simp, ⟨fun hne => ?_, fun q hq => (hin q hq).i.1⟩, ?_, hin⟩
    · have h0 : 0 < len0 := by
        by_cases q : 0 < len0
        · exact q
        · have : len0 = 0 := by omega
          subst this
          exact absurd rfl hne
      obtain ⟨g, off, spot⟩ := a
      have hspot : spot = none := by simpa [Addr.add] using World.cell?_spot (hall 0 (by omega)).1
      subst hspot
      refine ⟨g, off, rfl, World.block_lt_of_cell? W _ (hall 0 (by omega)).1, fun i q hq => ?_⟩
      rw [List.getElem?_map] at hq
      have hi2 : i < len0 := by
        by_cases q : i < len0
        · exact q
        · rw [List.getElem?_eq_none (by simp; omega)] at hq; cases hq
      rw [List.getElem?_range hi2] at hq
      cases hq
      have e := (hall i (by omega)).1
      rw [Addr.add_lit, (hF i hi2).1] at e
      exact e
    · have := hs _ (List.mem_cons_self ..)
      rw [Try.bytes23, hr] at this
      simp only [List.length_map, List.length_range] at this ⊢
      omega
end Go.Proofs.Ytfomodpjdaclgaa
