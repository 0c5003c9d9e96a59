/- For every set and every integer the law CharsetLists returns true and leaves its arguments as they were: the program's Bytes, Each (left early and gone over again), Spans and Fold answer as the document's definitions do, and two answers of Spans share no memory. No condition but the form's own reach. -/
import Derived.Test.YtlcmlipldkpliaaOpen
import Derived.Test.YtlcmlipldkpliaaListA
import Derived.Test.YtlcmlipldkpliaaListB
import Derived.Test.YtlcmlipldkpliaaListC
import Derived.Test.YtlcmlipldkpliaaListD
import Derived.Test.YtlcmlipldkpliaaListE
namespace Go.Proofs.Ytlcmlipldkpliaa
open Go.ChangeShapes Go.WideShapes Go.ChangeAt Go.RowKit

theorem lists_any (x : BitVec 256) (m : Int) (w : World) :
    Calls Try.prog 6 #[sv x, .int .i64 m] w fun e w' => e = .returned (.bool true) ∧ Below w.heap.size w w' := by
  obtain ⟨M, hM, hmM⟩ := most_of m
  by_cases h0 : (bys x).length = 0
  · by_cases hq : M = 0
    · exact listsA_any x m w M hM hmM h0 hq
    · exact listsB_any x m w M hM hmM h0 (by omega)
  · by_cases hq : M = 0
    · exact listsC_any x m w M hM hmM (by omega) hq
    · by_cases hr : M ≤ (bys x).length
      · exact listsD_any x m w M hM hmM (by omega) (by omega) hr
      · exact listsE_any x m w M hM hmM (by omega) (by omega)

set_option maxRecDepth 100000 in
theorem charsetLists_lifted (os : Os) (started : os.Started) (H : Type) (enc : TypeId × Value → H) :
    ReturnsInHanded {} Try.checked os 6 .any (Rows.charsetListsSpec.pre6 enc Try.prog Try.f6 Rows.charsetListsRow.domain false) (Rows.charsetListsSpec.post enc Try.prog Try.f6 false true false false) := by
  refine returnsInHanded_of_change (C := Try.checked) own started (by kernel_rfl) Try.func6
    (ChangeSpec.witness6 (enc := enc) (C := Try.checked) false ⟨#[], #[.agg #[.int .u64 0, .int .u64 0, .int .u64 0, .int .u64 0], .int .i64 0], []⟩ 8 (by kernel_rfl) (by kernel_rfl) (by kernel_rfl) (by kernel_rfl)) ?_
  intro W base args ds gs before hval0 hW hcnd _
  have hval : ∀ (j : Nat) t v, Try.f6.params[j]? = some t → args[j]? = some v → Value.okWide Try.prog W .any base t v := hval0
  have hW' := hW
  obtain ⟨p, q, hA0, hV, rfl, hfz, hnd⟩ := hW
  have hA : DataW.TrodAll enc Try.prog W 0 (fun _ => true) true Try.f6.params.toList args.toList ds p := hA0
  rw [Try.params6] at hA hval
  obtain ⟨v0, v1, d0, d1, p0, p1, rfl, rfl, rfl, h0, h1⟩ := trodAll_two hA
  obtain ⟨rfl, rfl⟩ := trodVars_none hV
  have lt0 : ∀ x ∈ p0, x.block < W.heap.size := by obtain ⟨m, hm⟩ := h0; exact DataW.trod_lt m _ _ _ hm
  obtain ⟨x, rfl⟩ := open_set (hval 0 24 v0 rfl rfl) h0
  obtain ⟨m, rfl, rfl, rfl, wm⟩ := open_int Try.underlying3 (hval 1 3 v1 rfl rfl) h1
  clear hA0 hval0
  refine (lists_any x m W).mono fun e W' ⟨he, bel⟩ => ?_
  subst he
  exact ⟨_, rfl, _, _, _, [], _, [], hW', trodAll_mk1 (shut_bool Try.underlying4 _), (trodAll_cons_mk (Below.trod laidOut (by kernel_rfl) (of_decide_eq_true (by kernel_rfl)) h0 bel lt0) (trodAll_cons_mk (shut_int Try.underlying3 wm) trodAll_mk0)), rfl, bel.frame _, fun h => by cases h⟩

theorem charsetLists_holds : Rows.CharsetListsSaid :=
  OpenClaim.holds_of_wide 6 Try.f6 rfl rfl rfl rfl rfl rfl rfl ⟨rfl, rfl, rfl, rfl, rfl⟩ rfl rfl rfl rfl rfl (by kernel_rfl) Try.func6 (by kernel_rfl)
    (of_decide_eq_true (by kernel_rfl)) (by unfold Func.isWrapper; first | (rw [if_pos (by decide +kernel)]; kernel_rfl) | (rw [if_neg (by decide +kernel)]; exact ⟨rfl, rfl⟩))
    (fun os started H enc _ => charsetLists_lifted os started H enc)
#print axioms charsetLists_holds
end Go.Proofs.Ytlcmlipldkpliaa
