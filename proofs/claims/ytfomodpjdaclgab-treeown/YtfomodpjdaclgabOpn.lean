/- DERIVED. A pattern that comes in, opened. -/
import Derived.Test.YtfomodpjdaclgabThA
import Derived.Deep.SlicePairs
import Derived.Lib.SmallJoins
import Derived.Laws.IdiomArrays
import Derived.SizedLaws
import Derived.OpenShut
import Derived.ShutString
import Derived.ChangeOld
namespace Go.Proofs.Ytfomodpjdaclgab
open Go.ChangeShapes Go.WideShapes Go.ChangeAt Go.RowKit

theorem Try.cells37 : Try.prog.cellsOf 37 = 7 := by kernel_rfl
theorem Try.cells35 : Try.prog.cellsOf 35 = 4 := by kernel_rfl
theorem Try.cells33 : Try.prog.cellsOf 33 = 1 := by kernel_rfl
theorem Try.cells9 : Try.prog.cellsOf 9 = 1 := by kernel_rfl
theorem Try.cells3 : Try.prog.cellsOf 3 = 1 := by kernel_rfl
theorem Try.bytes37 : Try.prog.bytesOf 37 = 64 := by kernel_rfl

theorem own : ownKnob Try.prog.godebug = none := by kernel_rfl
theorem laidOut : laidOutB Try.prog = true := by kernel_rfl
theorem sized_at {H : Type} {P : Program} {ts : List TypeId} {ds : List (DataW H)} (h : (DataW.weightsEach P ts ds).all (· ≤ reachBytes) = true) {j : Nat} {t : TypeId} {d : DataW H} (ht : ts[j]? = some t) (hd : ds[j]? = some d) : ∀ n ∈ d.weights P t, n ≤ reachBytes := fun n hn => by
  have := List.all_eq_true.1 h _ (DataW.weights_mem_each ht hd n hn)
  simpa using this
theorem weights_all {H : Type} (P : Program) (e : TypeId) : ∀ (l : List (DataW H)) (d : DataW H), d ∈ l → ∀ n ∈ d.weights P e, n ∈ DataW.weightsAll P e l
  | [], _, h, _, _ => by cases h
  | a :: l, d, h, n, hn => by
    simp only [DataW.weightsAll, List.mem_append]
    rcases List.mem_cons.1 h with rfl | h
    · exact .inl hn
    · exact .inr (weights_all P e l d h n hn)

theorem list7 {α : Type} {l : List α} (h : l.length = 7) : ∃ a b c d e f g, l = [a, b, c, d, e, f, g] := by
  match l, h with
  | [a, b, c, d, e, f, g], _ => exact ⟨a, b, c, d, e, f, g, rfl⟩
set_option maxRecDepth 100000 in
theorem node_in {H : Type} {enc : TypeId × Value → H} {W : World} {held : Bool} {n : Nat} {cs : List Value} {x : DataW H × List MemPlace} (h : DataW.trod enc Try.prog W 0 (fun _ => true) held n 37 cs = some x) :
    ∃ nd : Nd, cs = ndV nd ∧ nd.tx.size ∈ x.1.weights Try.prog 37 := by
  obtain ⟨y0, y1, y2, y3, k, hx, hl, h0, h1, h2, h3⟩ := Go.Joins.trod_struct4 Try.underlying37 h
  rw [Try.cells37] at hl
  obtain ⟨a, b, c, d, e, f, g, rfl⟩ := list7 hl
  simp only [Try.cells3, Try.cells9, Try.cells35, List.drop_zero, List.take_succ_cons, List.take_zero, List.drop_succ_cons] at h0 h1 h2 h3
  obtain ⟨N0, e0, _, _⟩ := DataW.trod_int Try.underlying3 h0
  obtain ⟨N1, e1, _, _⟩ := DataW.trod_int Try.underlying3 h1
  obtain ⟨s, e2, hs, _⟩ := DataW.trod_string Try.underlying9 h2
  obtain ⟨z0, z1, z2, z3, k2, _, g0, g1, g2, g3⟩ := trod_array4 Try.underlying35 Try.cells33 h3
  obtain ⟨M0, f0, _, _⟩ := DataW.trod_int Try.underlying33 g0
  obtain ⟨M1, f1, _, _⟩ := DataW.trod_int Try.underlying33 g1
  obtain ⟨M2, f2, _, _⟩ := DataW.trod_int Try.underlying33 g2
  obtain ⟨M3, f3, _, _⟩ := DataW.trod_int Try.underlying33 g3
  cases e0; cases e1; cases e2; cases f0; cases f1; cases f2; cases f3
  refine ⟨⟨N0, N1, s, M0, M1, M2, M3⟩, rfl, ?_⟩
  rw [hx, hs]
  simp only [DataW.weights, Try.underlying37]
  simp only [DataW.weightsEach, DataW.weights, List.map_cons, List.mem_append, List.mem_singleton]
  right; right; left
  show s.size = s.data.toList.length
  rw [Array.length_toList]
  rfl

/-- A pattern that comes in. -/
theorem open_pat {H : Type} {enc : TypeId × Value → H} {W : World} {held : Bool} {v : Value} {d : DataW H} {p : List MemPlace} (h : DataW.Trod enc Try.prog W 0 (fun _ => true) held 23 v d p) (hv : ∃ a l c, v = .slice a l c) :
    ∃ A c L, v = .slice A L.length c ∧ RdN W A L ∧ (A = none → c = 0 ∧ L = []) ∧ ((∀ n ∈ d.weights Try.prog 23, n ≤ reachBytes) → L.length * 64 ≤ 140737488351232 ∧ ∀ n ∈ L, n.tx.size ≤ 140737488351232) := by
  obtain ⟨fuel, hf⟩ := h
  obtain ⟨a0, len0, cap0, rfl⟩ := hv
  have hr : reachBytes = 140737488351232 := by decide
  rcases Go.Deep.open_slice Try.underlying23 hf with ⟨hc, hx⟩ | ⟨a, len, cap, m, n, D, Pl, hc, _, hl, hm, hmm, hx, hall⟩
  · have hc : [Value.slice a0 len0 cap0] = [.slice none 0 0] := hc
    cases hc
    exact ⟨none, 0, [], rfl, fun q => absurd rfl q, fun _ => ⟨rfl, rfl⟩, fun _ => ⟨by simp, fun n hn => by cases hn⟩⟩
  · have hc : [Value.slice a0 len0 cap0] = [.slice (some a) len cap] := hc
    cases hc
    simp only [if_true] at hmm
    subst hmm
    have hlm : len0 ≤ m := hl
    have each : ∀ i, i < len0 → ∃ nd : Nd, (∀ j u, (ndV nd)[j]? = some u → W.cell? (a.add (i * 7 + j)) = some u) ∧ nd.tx.size ∈ (D i).weights Try.prog 37 := by
      intro i hi
      obtain ⟨cs', h1, h2⟩ := hall i (by omega)
      rw [Try.cells37] at h1
      obtain ⟨_, hlen, hcell⟩ := World.cells?_some h1
      obtain ⟨nd, rfl, hw⟩ := node_in h2
      refine ⟨nd, fun j u hj => ?_, hw⟩
      have hj7 : j < 7 := by
        by_cases q : j < 7
        · exact q
        · rw [List.getElem?_eq_none (by show (ndV nd).length ≤ j; show 7 ≤ j; omega)] at hj; cases hj
      have e := hcell j (by rw [show (ndV nd).length = 7 from rfl] at *; omega)
      rw [Go.Deep.add_add] at e
      rw [e]
      exact hj
    obtain ⟨F, hF⟩ : ∃ F : Nat → Nd, ∀ i, i < len0 → (∀ j u, (ndV (F i))[j]? = some u → W.cell? (a.add (i * 7 + j)) = some u) ∧ (F i).tx.size ∈ (D i).weights Try.prog 37 :=
      ⟨fun i => if h : i < len0 then Classical.choose (each i h) else ⟨0, 0, ⟨#[]⟩, 0, 0, 0, 0⟩, fun i h => by simp only [dif_pos h]; exact Classical.choose_spec (each i h)⟩
    refine ⟨some a, m, (List.range len0).map F, by simp, fun hne => ?_, fun q => (by cases q), fun hw => ?_⟩
    · have h0 : 0 < len0 := by
        by_cases q : 0 < len0
        · exact q
        · have : len0 = 0 := by omega
          subst this
          exact absurd rfl hne
      obtain ⟨g, off, spot⟩ := a
      have hspot : spot = none := by simpa [Addr.add] using World.cell?_spot ((hF 0 h0).1 0 _ rfl)
      subst hspot
      refine ⟨g, off, rfl, World.block_lt_of_cell? W _ ((hF 0 h0).1 0 _ rfl), fun j nd hj => ?_⟩
      rw [List.getElem?_map] at hj
      have hj2 : j < len0 := by
        by_cases q : j < len0
        · exact q
        · rw [List.getElem?_eq_none (by simp; omega)] at hj; cases hj
      rw [List.getElem?_range hj2] at hj
      cases hj
      have key : ∀ i u, (ndV (F j))[i]? = some u → W.cell? ⟨g, off + j * 7 + i, none⟩ = some u := fun i u hu => by
        have e := (hF j hj2).1 i u hu
        rw [Addr.add_lit, ← Nat.add_assoc] at e
        exact e
      exact ⟨key 0 _ rfl, key 1 _ rfl, key 2 _ rfl, key 3 _ rfl, key 4 _ rfl, key 5 _ rfl, key 6 _ rfl⟩
    · have hd : d = .slice ((List.range len0).map D) ((List.range (m - len0)).map fun j => D (len0 + j)) := congrArg Prod.fst hx
      rw [hd] at hw
      simp only [DataW.weights, Try.underlying23] at hw
      refine ⟨?_, fun nd hnd => ?_⟩
      · have := hw _ (List.mem_cons_self ..)
        rw [Try.bytes37, hr] at this
        simp only [List.length_map, List.length_range] at this ⊢
        omega
      · obtain ⟨i, hi, rfl⟩ := List.mem_map.1 hnd
        have hi2 := List.mem_range.1 hi
        have := hw _ (List.mem_cons_of_mem _ (List.mem_append_left _ (weights_all _ 37 _ (D i) (List.mem_map.2 ⟨i, hi, rfl⟩) _ (hF i hi2).2)))
        rw [hr] at this
        exact this
end Go.Proofs.Ytfomodpjdaclgab
