/- DERIVED. Walks: right. -/
import Derived.Test.YtfomodpjdaclgabPaL
namespace Go.Proofs.Ytfomodpjdaclgab
open Go.RowKit

/-- A whole that is right, or why not. -/
def RiV (_w w' : World) (B : Nat) (L : List Nd) (v : Value) (e : Ending) : Prop := ((ck L).2 ≠ 0 ∧ e = .returned (.tuple #[.slice none 0 0, .int .i64 (ck L).2])) ∨ ((ck L).2 = 0 ∧ e = .returned (.tuple #[v, .int .i64 0]) ∧ w'.ownsRow B 37 7 v L.length (ndc L))
set_option maxRecDepth 100000 in
set_option maxHeartbeats 4000000 in
theorem right_any (L : List Nd) (v : Value) (B : Nat) (hL : L.length ≤ 140737488355328) (hT : ∀ n ∈ L, n.tx.size ≤ 140737488355328) (w : World) (h : w.ownsRow B 37 7 v L.length (ndc L)) :
    Calls Try.prog 28 #[v] w fun e w' => RiV w w' B L v e ∧ Below w.heap.size w w' := by
  obtain ⟨A, c, rfl, hr⟩ := own_rd h rfl
  have HC : Hid (∀ _ : Unit, Calls Try.prog 12 #[.slice A L.length c] w fun e w' => e = .returned (.tuple #[.int .i64 (ck L).1, .int .i64 (ck L).2]) ∧ Below w.heap.size w w') := fun _ => check_any L A c hL hT w hr
  have HO := (show Hid (w.ownsRow B 37 7 (.slice A L.length c) L.length (ndc L)) from h)
  clear h hr hT
  go_enter Try.func28, Try.ntmps28
  go_wp2_with fail
  refine (HC.out ()).mono ?_
  rintro e w2 ⟨rfl, b2⟩
  have HB := (show Hid (Below w.heap.size w w2) from b2)
  have HO2 := (show Hid (w2.ownsRow B 37 7 (.slice A L.length c) L.length (ndc L)) from own_below HO.out b2)
  clear HC b2 HO
  by_cases hc : (ck L).2 = 0
  · have t1 : ((ck L).2 != 0) = false := by rw [hc]; rfl
    have HI := (show Hid ((ck L).2 = 0) from hc)
    clear hc
    go_wp2_with fail
    go_ret2
    exact ⟨.inr ⟨HI.out, rfl, HO2.out⟩, HB.out⟩
  · have t1 : ((ck L).2 != 0) = true := by rw [bne, beq_eq_false_iff_ne.2 hc]; rfl
    have HI := (show Hid ((ck L).2 ≠ 0) from hc)
    clear hc
    go_wp2_with fail
    go_ret2
    exact ⟨.inl ⟨HI.out, rfl⟩, HB.out⟩
end Go.Proofs.Ytfomodpjdaclgab
