/- DERIVED. The walk of TreeParts. -/
import Derived.Test.YtfomodpjdaclgabPtA
namespace Go.Proofs.Ytfomodpjdaclgab
open Go.RowKit

def prE (L : List Nd) (at' : Int) : List Nd := if fdE L at' = 0 then cutL L (pt L at'.toNat).1 (at'.toNat + 1) else []
def psE (L : List Nd) (at' : Int) : List Int := if fdE L at' = 0 then (((run L at'.toNat).take (arN (opAt L at'.toNat))).reverse).map (fun p => (p.2.1 : Int)) else []
theorem prE_len {L : List Nd} {at' : Int} : (prE L at').length ≤ 2048 := by
  unfold prE
  split
  · next h =>
    obtain ⟨hr, j, hj, hjl⟩ := fdE_ok h
    have := hr.len
    unfold cutL
    rw [List.length_take, List.length_drop]
    omega
  · simp
theorem psE_len {L : List Nd} {at' : Int} : (psE L at').length ≤ 4 := by
  unfold psE
  split
  · rw [List.length_map, List.length_reverse, List.length_take]
    have := arN_le (opAt L at'.toNat)
    omega
  · simp
theorem PrV.row {w w' : World} {L : List Nd} {at' : Int} {e : Ending} (h : PrV w w' L at' e) : ∃ v, e = .returned (.tuple #[v, .int .i64 (fdE L at')]) ∧ w'.ownsRow w.heap.size 37 7 v (prE L at').length (ndc (prE L at')) := by
  obtain ⟨v, he, h⟩ := h
  refine ⟨v, he, ?_⟩
  unfold prE
  rcases h with ⟨h0, rfl⟩ | ⟨h0, h1⟩
  · rw [if_neg h0]; exact World.ownsRow_nil _ _ _ _
  · rw [if_pos h0]; exact h1
theorem PsV.row {w w' : World} {L : List Nd} {at' : Int} {e : Ending} (h : PsV w w' L at' e) : ∃ v, e = .returned (.tuple #[v, .int .i64 (fdE L at')]) ∧ w'.ownsRow w.heap.size 3 1 v (psE L at').length ((psE L at').map fun x => .int .i64 x) := by
  obtain ⟨v, he, h⟩ := h
  refine ⟨v, he, ?_⟩
  unfold psE
  rcases h with ⟨h0, rfl⟩ | ⟨h0, h1⟩
  · rw [if_neg h0]; exact World.ownsRow_nil _ _ _ _
  · rw [if_pos h0]
    have e1 : (((run L at'.toNat).take (arN (opAt L at'.toNat))).reverse.map (fun p => (p.2.1 : Int))).map (fun x => Value.int .i64 x) = lastc ((run L at'.toNat).take (arN (opAt L at'.toNat))).reverse := by
      unfold lastc
      rw [List.map_map]
      rfl
    have hl := h1.1
    rw [e1, List.length_map]
    rw [lastc_len, Nat.mul_one] at hl
    rw [hl]
    exact h1
theorem own_rd {W : World} {B n : Nat} {v : Value} {L : List Nd} (h : W.ownsRow B 37 7 v n (ndc L)) (hn : n = L.length) : ∃ A c, v = .slice A L.length c ∧ RdN W A L := by
  subst hn
  have hc := h
  rcases h.2 with ⟨rfl, h0⟩ | ⟨g, cap, cur, rfl, _⟩
  · exact ⟨none, 0, by rw [h0], fun hl => absurd (List.eq_nil_of_length_eq_zero h0) hl⟩
  · have hc2 : W.ownsRow B 37 7 (.slice (some ⟨g, 0, none⟩) L.length cap) L.length (ndc L ++ []) := by rw [List.append_nil]; exact hc
    exact ⟨_, cap, rfl, fun _ => ⟨g, 0, rfl, (hc.lt g rfl).2, own_ndl hc2⟩⟩
theorem same_rows (v1 v2 : Value) (B1 B2 : Nat) (L : List Nd) (hl : L.length ≤ 140737488355328) (w : World) (h1 : w.ownsRow B1 37 7 v1 L.length (ndc L)) (h2 : w.ownsRow B2 37 7 v2 L.length (ndc L)) :
    Calls Try.prog 21 #[v1, v2] w fun e w' => e = .returned (.bool true) ∧ Below w.heap.size w w' := by
  obtain ⟨A1, c1, rfl, r1⟩ := own_rd h1 rfl
  obtain ⟨A2, c2, rfl, r2⟩ := own_rd h2 rfl
  have h := samePattern_any A1 A2 c1 c2 L L hl hl w r1 r2
  rw [patB_refl] at h
  exact h
end Go.Proofs.Ytfomodpjdaclgab
