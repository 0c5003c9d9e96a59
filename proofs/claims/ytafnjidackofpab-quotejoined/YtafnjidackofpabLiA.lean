/- DERIVED. Walks: strings.Count and strings.Cut at a byte 10. -/
import Derived.Test.YtafnjidackofpabPlK
import Derived.Test.YtafnjidackofpabRdA
import Derived.BigQuiet
import Derived.Deep.QuietTactic
import Derived.Lib.Bytealg
import Derived.Laws.Strings
import Derived.WideShapes
namespace Go.Proofs.Ytafnjidackofpab
open Go.RowKit

abbrev ten : ByteArray := ⟨#[10]⟩
set_option maxRecDepth 100000 in
set_option maxHeartbeats 1000000 in
theorem count_any (s : ByteArray) (w : World) :
    Calls Try.prog 13 #[.string s, .string ten] w fun e w' => e = .returned (.int .i64 (cnt10 s s.size : Int)) ∧ w' = w := by
  have HC := (show Hid _ from count_all s)
  go_enter Try.func13, Try.ntmps13
  go_wp2
  rw [run_callFunc_extern Try.func19 (by kernel_rfl) (by kernel_rfl) (by kernel_rfl) (e := Extern.BytealgCount.count) (by kernel_rfl), Lib.run_countString]
  simp only [Result.andThen]
  rw [Oper.upon_value]
  go_wp2
  go_ret
  exact ⟨by rw [← HC.out]; rfl, rfl⟩

def idx10 (s : ByteArray) : Int := if lnE s 0 < s.size then (lnE s 0 : Int) else -1
theorem idxB_any (s : ByteArray) (w : World) :
    Calls Try.prog 26 #[.string s, .int .u8 10] w fun e w' => e = .returned (.int .i64 (idx10 s)) ∧ w' = w := by
  refine (Try.stringslite_IndexByte s 10 w).mono ?_
  rintro e w' ⟨rfl, rfl⟩
  refine ⟨?_, rfl⟩
  unfold idx10
  rw [← idx_line]
  rfl
set_option maxRecDepth 100000 in
set_option maxHeartbeats 1000000 in
theorem index_any (s : ByteArray) (w : World) :
    Calls Try.prog 24 #[.string s, .string ten] w fun e w' => e = .returned (.int .i64 (idx10 s)) ∧ w' = w := by
  by_cases h : s = ten
  · subst h
    have HE : Hid (idx10 ten = 0) := (by show idx10 ten = 0; unfold idx10; rw [← idx_line]; rfl)
    go_enter Try.func24, Try.ntmps24
    go_wp2
    go_ret
    exact ⟨by rw [HE.out]; rfl, rfl⟩
  · have HI : Hid (∀ w, Calls Try.prog 26 #[.string s, .int .u8 10] w fun e w' => e = .returned (.int .i64 (idx10 s)) ∧ w' = w) := fun w => idxB_any s w
    have e1 : (([10] : List UInt8) == s.toList) = false := beq_eq_false_iff_ne.2 (fun q => h (Go.WideShapes.bytes_inj (by rw [← Go.ByteArray.toList_eq, ← q])))
    go_enter Try.func24, Try.ntmps24
    go_wp2_with fail
    refine (HI.out _).mono ?_
    rintro e w' ⟨rfl, rfl⟩
    go_wp2
    go_ret
    exact ⟨rfl, rfl⟩

set_option maxRecDepth 100000 in
set_option maxHeartbeats 2000000 in
theorem slCut_any (s : ByteArray) (hs : s.size ≤ 65536) (w : World) :
    Calls Try.prog 21 #[.string s, .string ten] w fun e w' => (∃ A b, e = .returned (.tuple #[.string (cutB s), .string A, .bool b])) ∧ Below w.heap.size w w' := by
  have HI : Hid (∀ w, Calls Try.prog 24 #[.string s, .string ten] w fun e w' => e = .returned (.int .i64 (idx10 s)) ∧ w' = w) := fun w => index_any s w
  by_cases h : lnE s 0 < s.size
  · have HX : Hid (idx10 s = (lnE s 0 : Int)) := (by show _ = _; unfold idx10; rw [if_pos h])
    have HC : Hid (cutB s = s.extract 0 (lnE s 0)) := rfl
    rw [HX.out] at HI
    clear HX
    generalize lnE s 0 = k at *
    have z0 : (0 : Int) ≤ (k : Int) := by omega
    have z1 : (k : Int) ≤ (s.size : Int) := by omega
    have z2 : (0 : Int) ≤ (k : Int) + 1 := by omega
    have z3 : (k : Int) + 1 ≤ (s.size : Int) := by omega
    have v1 : IntKind.i64.wrap ((k : Int) + 1) = (k : Int) + 1 := by rw [IntKind.wrap_i64]; omega
    go_enter Try.func21, Try.ntmps21
    go_wp2_with fail
    refine (HI.out _).mono ?_
    rintro e w' ⟨rfl, rfl⟩
    go_wp2_with fail
    go_region
    all_goals
      go_wp2
      go_ret3
      exact ⟨⟨_, _, by rw [HC.out]; rfl⟩, (Below.refl _ _).drew⟩
  · have HX : Hid (idx10 s = -1) := (by show _ = _; unfold idx10; rw [if_neg h])
    have HC := (show Hid _ from cutB_all h)
    rw [HX.out] at HI
    clear HX h
    go_enter Try.func21, Try.ntmps21
    go_wp2_with fail
    refine (HI.out _).mono ?_
    rintro e w' ⟨rfl, rfl⟩
    go_wp2
    go_ret3
    exact ⟨⟨_, _, by rw [HC.out]; rfl⟩, Below.refl _ _⟩
set_option maxRecDepth 100000 in
set_option maxHeartbeats 2000000 in
theorem sCut_any (s : ByteArray) (hs : s.size ≤ 65536) (w : World) :
    Calls Try.prog 14 #[.string s, .string ten] w fun e w' => (∃ A b, e = .returned (.tuple #[.string (cutB s), .string A, .bool b])) ∧ Below w.heap.size w w' := by
  have HI := (show Hid _ from (slCut_any s hs))
  go_enter Try.func14, Try.ntmps14
  go_wp2_with fail
  refine (HI.out _).mono ?_
  rintro e w' ⟨⟨A, b, rfl⟩, hb⟩
  go_wp2
  go_ret3
  exact ⟨⟨_, _, rfl⟩, hb⟩
end Go.Proofs.Ytafnjidackofpab
