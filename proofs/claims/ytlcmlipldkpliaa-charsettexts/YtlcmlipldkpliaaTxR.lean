/- DERIVED. Walks: Read, by the document: its answers. -/
import Derived.Test.YtlcmlipldkpliaaRdE
import Derived.Test.YtlcmlipldkpliaaFsR
import Derived.Test.YtlcmlipldkpliaaRefs
import Derived.Test.YtlcmlipldkpliaaClassR
import Derived.Test.YtlcmlipldkpliaaTmItem
namespace Go.Proofs.Ytlcmlipldkpliaa
open Go.RowKit

theorem cls_ten (n : Nat) (h : ¬ (cls n).2 = 0) : (cls n).2 = 10 := by
  by_cases hc : 65 ≤ n ∧ n ≤ 90
  · rcases sml_err (n + 32) with he | he
    · rw [cls_yes n hc he] at h; exact absurd rfl h
    · rw [cls_no n hc he]
  · rw [cls_small n hc] at h ⊢
    rcases sml_err n with he | he
    · exact absurd he h
    · exact he
/-- What the document's reading answers. -/
def rrV : Rd (BitVec 256 × Nat) → Value
  | .inl (x, n) => .tuple #[sv x, .int .i64 n, .int .i64 0, .int .i64 0]
  | .inr (a, c) => .tuple #[sv 0#256, .int .i64 0, .int .i64 a, .int .i64 c]
/-- readItem, as it is called. -/
def ItemR : Prop := ∀ (s : ByteArray) (i : Nat), i ≤ s.size → s.size ≤ 140737488355328 → ∀ w : World, Calls Try.prog 69 #[.string s, .int .i64 i] w fun e w' => e = .returned (irV i (rdItem s i)) ∧ Below w.heap.size w w'

set_option maxRecDepth 100000 in
set_option maxHeartbeats 2000000 in
theorem readR_out (s : ByteArray) (i : Int) (h : i < 0 ∨ (s.size : Int) < i) (w : World) :
    Calls Try.prog 47 #[.string s, .int .i64 i] w fun e w' => e = .returned (rrV (rdRead s i)) ∧ Below w.heap.size w w' := by
  have HF := (show Hid (rdRead s i = .inr (0, 1)) from (by show rdRead s i = _; unfold rdRead; rw [if_pos h]))
  rcases h with h | h
  · go_enter Try.func47, Try.ntmps47
    go_wp2
    rw [HF.out]
    refine bodyPost_ret (v := rrV (.inr (0, 1))) (by simp [results, Try.results47, go_sem, rrV, wd_zero, *]) rfl ⟨rfl, ?_⟩
    exact below1 _ _
  · have h0 : ¬ i < 0 := by omega
    go_enter Try.func47, Try.ntmps47
    go_wp2
    rw [HF.out]
    refine bodyPost_ret (v := rrV (.inr (0, 1))) (by simp [results, Try.results47, go_sem, rrV, wd_zero, *]) rfl ⟨rfl, ?_⟩
    exact below1 _ _

set_option maxRecDepth 100000 in
set_option maxHeartbeats 2000000 in
theorem readR_none (s : ByteArray) (i : Nat) (hi : i ≤ s.size) (h : (chr s i != 91) = true) (w : World) :
    Calls Try.prog 47 #[.string s, .int .i64 i] w fun e w' => e = .returned (rrV (rdRead s i)) ∧ Below w.heap.size w w' := by
  have HF := (show Hid (rdRead s i = .inr (i, 6)) from (by show rdRead s i = _; unfold rdRead; rw [if_neg (by omega), if_neg (by exact bne_iff_ne.1 h)]; rfl))
  have HX : Hid (∀ w, Calls Try.prog 68 #[.string s, .int .i64 i] w fun e w' => e = .returned (.int .i64 (chr s i)) ∧ w' = w) := fun w => at_any s i w
  generalize chr s i = c at *
  go_enter Try.func47, Try.ntmps47
  go_wp2_with fail
  refine (HX.out _).mono ?_
  rintro e w1 ⟨rfl, rfl⟩
  go_wp2_with fail
  rw [HF.out]
  refine bodyPost_ret (v := rrV (.inr (i, 6))) (by simp [results, Try.results47, go_sem, rrV, wd_zero, *]) rfl ⟨rfl, ?_⟩
  exact below1 _ _
end Go.Proofs.Ytlcmlipldkpliaa
