/- DERIVED. What the laid table gives the walks; what the laws' statements need of the dump. -/
import Derived.Test.YtiillgahnbimjabDoorCards
import Derived.Test.YtiillgahnbimjabDoorTie
import Derived.Test.YtiillgahnbimjabDoorSmD
import Derived.WalkKit
import Derived.ProofKit
import Derived.OpenShut
import Derived.ShutString
import Derived.ChangeOld
import Derived.ChangeSame
import Derived.SizedLaws
import Derived.FnData
import Derived.Deep.DeepHandedRow
namespace Go.Proofs.YtiillgahnbimjabDoor
open Go.ChangeShapes Go.WideShapes Go.ChangeAt Go.RowKit

theorem own : ownKnob Tryd.prog.godebug = none := by kernel_rfl
theorem laidOut : laidOutB Tryd.prog = true := by kernel_rfl
theorem gTab : Tryd.prog.globalNamed "harrow/runes.blocks" = some 0 := by kernel_rfl
theorem gTabType : (Tryd.prog.globals[0]?).map (·.type) = some 43 := by kernel_rfl
theorem Tryd.cells43 : Tryd.prog.cellsOf 43 = 10 := by kernel_rfl
theorem Tryd.cells42 : Tryd.prog.cellsOf 42 = 2 := by kernel_rfl
theorem Tryd.cells21 : Tryd.prog.cellsOf 21 = 1 := by kernel_rfl

theorem run_trod {H : Type} {enc : TypeId × Value → H} {W : World} {base fuel : Nat} {sp : Nat → Bool} {held : Bool} {c0 c1 : Value} {z : DataW H × List MemPlace}
    (h : DataW.trod enc Tryd.prog W base sp held fuel 42 [c0, c1] = some z) : ∃ a b, c0 = .int .i32 a ∧ c1 = .int .i32 b ∧ z.1 = .agg [.lit (.int .i32 a), .lit (.int .i32 b)] := by
  obtain ⟨y0, y1, n, rfl, _, h0, h1⟩ := trod_struct2 Tryd.underlying42 h
  dsimp only at h0 h1
  rw [Tryd.cells21] at h0 h1
  obtain ⟨a, e0, e0', _⟩ := DataW.trod_int Tryd.underlying21 h0
  obtain ⟨b, e1, e1', _⟩ := DataW.trod_int Tryd.underlying21 h1
  have e0 : [c0] = [Value.int .i32 a] := e0
  have e1 : [c1] = [Value.int .i32 b] := e1
  cases e0
  cases e1
  exact ⟨a, b, rfl, rfl, by rw [e0', e1']⟩

theorem vb_of_laid {W : World} (h : laidMetH Tryd.prog [("harrow/runes.blocks", Rows.laid_harrow_runes_blocks)] W) : VB W := by
  have h : laidMet Tryd.prog [("harrow/runes.blocks", Rows.laid_harrow_runes_blocks)] W := h
  obtain ⟨ps, ⟨g', t', cs, fuel, p, q, hg', ht', hvar, hd, _, _⟩, _⟩ := h
  obtain rfl := Option.some.inj (gTab.symm.trans hg')
  obtain rfl := Option.some.inj (gTabType.symm.trans ht')
  obtain ⟨xs, m, rfl, hx, hl, hn, hel⟩ := DataW.trod_array Tryd.underlying43 hd
  have hx1 := congrArg Prod.fst hx
  dsimp only at hx1
  rw [Tryd.cells43] at hl
  have hcell := World.var?_cell gTab hvar
  obtain ⟨l⟩ := cs
  match l, hl with
  | [a0, a1, a2, a3, a4, a5, a6, a7, a8, a9], _ =>
    match xs, hn with
    | [x0, x1, x2, x3, x4], _ =>
      have k0 := hel 0 (by omega)
      have k1 := hel 1 (by omega)
      have k2 := hel 2 (by omega)
      have k3 := hel 3 (by omega)
      have k4 := hel 4 (by omega)
      rw [Tryd.cells42] at k0 k1 k2 k3 k4
      obtain ⟨p0, q0, rfl, rfl, r0⟩ := run_trod (show DataW.trod _ Tryd.prog _ _ _ _ m 42 [a0, a1] = some x0 from k0)
      obtain ⟨p1, q1, rfl, rfl, r1⟩ := run_trod (show DataW.trod _ Tryd.prog _ _ _ _ m 42 [a2, a3] = some x1 from k1)
      obtain ⟨p2, q2, rfl, rfl, r2⟩ := run_trod (show DataW.trod _ Tryd.prog _ _ _ _ m 42 [a4, a5] = some x2 from k2)
      obtain ⟨p3, q3, rfl, rfl, r3⟩ := run_trod (show DataW.trod _ Tryd.prog _ _ _ _ m 42 [a6, a7] = some x3 from k3)
      obtain ⟨p4, q4, rfl, rfl, r4⟩ := run_trod (show DataW.trod _ Tryd.prog _ _ _ _ m 42 [a8, a9] = some x4 from k4)
      simp only [Rows.laid_harrow_runes_blocks, List.map_cons, List.map_nil, r0, r1, r2, r3, r4, DataW.agg.injEq, List.cons.injEq, DataW.lit.injEq, Lit.int.injEq, and_true, true_and] at hx1
      obtain ⟨⟨e0, e1⟩, ⟨e2, e3⟩, ⟨e4, e5⟩, ⟨e6, e7⟩, e8, e9⟩ := hx1
      subst e0 e1 e2 e3 e4 e5 e6 e7 e8 e9
      have c0 := hcell 0
      exact ⟨World.block_lt_of_cell? W _ c0, c0, hcell 1, hcell 2, hcell 3, hcell 4, hcell 5, hcell 6, hcell 7, hcell 8, hcell 9⟩

/-- A world with the table laid. -/
def layTab (w : World) : World :=
  { w with heap := w.heap.modify 0 fun
      | .cells _ t frozen => .cells #[.int .i32 0, .int .i32 127, .int .i32 128, .int .i32 2047, .int .i32 2048, .int .i32 55295, .int .i32 57344, .int .i32 65535, .int .i32 65536, .int .i32 1114111] t frozen
      | o => o }
end Go.Proofs.YtiillgahnbimjabDoor
