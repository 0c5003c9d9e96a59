/- DERIVED. A call as one step of a region that draws its order. -/
import Derived.Test.YtfomodpjdaclgabCoA
import Derived.Deep.RegionLaw
namespace Go.Proofs.Ytfomodpjdaclgab
open Go.RowKit

theorem enters47 (args : Array Value) (w : World) : (callFunc 29 args).run Try.prog w = .ok (.enter 29 args) w := enters_of Try.func29 (by kernel_rfl) rfl args w
theorem step_call47 {ops : Array Oper} {o : Oper} {a : Act} {w : World} {K : Act → World → Prop} {Q : Exit → Act → World → Prop} {E : Prop} (hgd : o.guard = none) (x : Operand) (ho : o.op = .call { callee := .value (.func 29), args := #[x], argTypes := #[37] }) (v : Value) (hx : a.eval x = v)
    (hc : Calls Try.prog 29 #[v] w fun e w' => ∃ r, e = .returned r ∧ K (a.put o.dst r) w') :
    if Region.wanted o (yielded ops a.tmps) = true then Oper.wp Try.prog o a w K Q else E := by
  have hw : Region.wanted o (yielded ops a.tmps) = true := by simp [Region.wanted, hgd]
  rw [if_pos hw]
  have h47 := enters47
  have he : (execOp a.eval o).run Try.prog w = .ok (.enter 29 #[v]) w := by
    unfold execOp
    simp [ho, go_sem, invoke, h47]
    rw [← hx]
    cases x <;> simp [Act.eval]
  unfold Oper.wp
  rw [he, Oper.upon_enter]
  refine hc.mono ?_
  rintro e w' ⟨r, rfl, hk⟩
  exact hk
end Go.Proofs.Ytfomodpjdaclgab
