/- DERIVED. The walk of TreeSame. -/
import Derived.Test.YtfomodpjdaclgaaLvA
namespace Go.Proofs.Ytfomodpjdaclgaa
open Go.RowKit

theorem RdN.in' {W W' : World} {A : Option Addr} {L : List Nd} (h : RdN W A L) (hb : Below W.heap.size W W') : RdN W' A L := h.below hb (Nat.le_refl _)

set_option maxRecDepth 100000 in
set_option maxHeartbeats 4000000 in
theorem treeSame_law (A1 A2 : Option Addr) (c1 c2 : Nat) (L M : List Nd) (hl : L.length ≤ 140737488355328) (hm : M.length ≤ 140737488355328) (w : World) (h1 : RdN w A1 L) (h2 : RdN w A2 M) :
    Calls Try.prog 5 #[.slice A1 L.length c1, .slice A2 M.length c2] w fun e w' => e = .returned (.bool true) ∧ Below w.heap.size w w' := by
  have HL : Hid (∀ w, Calls Try.prog 12 #[] w fun e w' => e = .returned (.bool true) ∧ Below w.heap.size w w') := fun w => lives_any w
  have HS : Hid (∀ W, Below w.heap.size w W → Calls Try.prog 26 #[.slice A1 L.length c1, .slice A2 M.length c2] W fun e w' => e = .returned (.bool (patB L M)) ∧ Below W.heap.size W w') := fun W hW => same_any A1 A2 c1 c2 L M hl hm W (h1.in' hW) (h2.in' hW)
  have HP : Hid (∀ W, Below w.heap.size w W → Calls Try.prog 24 #[.slice A1 L.length c1, .slice A2 M.length c2] W fun e w' => e = .returned (.bool (patB L M)) ∧ Below W.heap.size W w') := fun W hW => samePattern_any A1 A2 c1 c2 L M hl hm W (h1.in' hW) (h2.in' hW)
  have HR : Hid (∀ W, Below w.heap.size w W → Calls Try.prog 26 #[.slice A1 L.length c1, .slice A1 L.length c1] W fun e w' => e = .returned (.bool true) ∧ Below W.heap.size W w') := fun W hW => by
    have h := same_any A1 A1 c1 c1 L L hl hl W (h1.in' hW) (h1.in' hW)
    rw [patB_refl] at h
    exact h
  clear h1 h2 hl hm
  generalize patB L M = b at *
  go_enter Try.func5, Try.ntmps5
  go_wp2_with fail
  refine (HL.out _).mono ?_
  rintro e w2 ⟨rfl, b2⟩
  have HB2 := (show Hid (Below w.heap.size w w2) from b2)
  clear HL b2
  go_wp2_with fail
  refine (HS.out _ HB2.out).mono ?_
  rintro e w3 ⟨rfl, b3⟩
  have HB3 := (show Hid (Below w.heap.size w w3) from HB2.out.trans (b3.mono HB2.out.size))
  clear HS b3 HB2
  go_wp2_with fail
  refine (HP.out _ HB3.out).mono ?_
  rintro e w4 ⟨rfl, b4⟩
  have HB4 := (show Hid (Below w.heap.size w w4) from HB3.out.trans (b4.mono HB3.out.size))
  clear HP b4 HB3
  cases b <;> go_wp2_with fail
  all_goals
    refine (HR.out _ HB4.out).mono ?_
    rintro e w5 ⟨rfl, b5⟩
    have HB5 := (show Hid (Below w.heap.size w w5) from HB4.out.trans (b5.mono HB4.out.size))
    clear HR b5 HB4
    go_wp2_with fail
    go_ret
    exact ⟨rfl, HB5.out⟩
end Go.Proofs.Ytfomodpjdaclgaa
