/- DERIVED. Walks: Arity by the program and by the document, isDigit, isLetter. -/
import Derived.Test.YtfomodpjdaclgabPlA
import Derived.Test.YtfomodpjdaclgabRows
namespace Go.Proofs.Ytfomodpjdaclgab
open Go.RowKit

set_option maxRecDepth 100000 in
set_option maxHeartbeats 1000000 in
theorem isDigit_any (c : Int) (w : World) : Calls Try.prog 47 #[.int .u8 c] w fun e w' => e = .returned (.bool (dgB c)) ∧ w' = w := by
  by_cases h : 48 ≤ c
  · have HE : Hid (dgB c = decide (c ≤ 57)) := (by show dgB c = _; unfold dgB; rw [decide_eq_true h]; rfl)
    go_enter Try.func47, Try.ntmps47
    go_wp2
    go_ret
    exact ⟨by rw [HE.out]; rfl, rfl⟩
  · have HE : Hid (dgB c = false) := (by show dgB c = _; unfold dgB; rw [decide_eq_false h]; rfl)
    go_enter Try.func47, Try.ntmps47
    go_wp2
    go_ret
    exact ⟨by rw [HE.out]; rfl, rfl⟩

set_option maxRecDepth 100000 in
set_option maxHeartbeats 1000000 in
theorem isLetter_any (c : Int) (w : World) : Calls Try.prog 48 #[.int .u8 c] w fun e w' => e = .returned (.bool (ltB c)) ∧ w' = w := by
  have HE : Hid (ltB c = ((decide (97 ≤ c) && decide (c ≤ 122)) || (decide (65 ≤ c) && decide (c ≤ 90)))) := rfl
  by_cases h : 97 ≤ c <;> by_cases h1 : c ≤ 122 <;> by_cases h2 : 65 ≤ c <;> by_cases h3 : c ≤ 90
  all_goals
    go_enter Try.func48, Try.ntmps48
    go_wp2
    go_ret
    refine ⟨ret_bool ?_, rfl⟩
    rw [HE.out]
    simp <;> omega

set_option maxRecDepth 100000 in
set_option maxHeartbeats 2000000 in
theorem arity_any (op : Int) (w : World) : Calls Try.prog 10 #[.int .i64 op] w fun e w' => e = .returned (.int .i64 (ar op)) ∧ w' = w := by
  by_cases h1 : op < 1
  · have HE : Hid (ar op = -1) := (by show ar op = _; unfold ar; rw [if_pos (.inl h1)])
    go_enter Try.func10, Try.ntmps10
    go_wp2
    go_ret
    exact ⟨by rw [HE.out]; rfl, rfl⟩
  by_cases h2 : 23 < op
  · have HE : Hid (ar op = -1) := (by show ar op = _; unfold ar; rw [if_pos (.inr h2)])
    go_enter Try.func10, Try.ntmps10
    go_wp2
    go_ret
    exact ⟨by rw [HE.out]; rfl, rfl⟩
  by_cases h3 : op ≤ 6
  · have HE : Hid (ar op = 0) := (by show ar op = _; unfold ar; rw [if_neg (by omega), if_pos (.inl h3)])
    go_enter Try.func10, Try.ntmps10
    go_wp2
    go_ret
    exact ⟨by rw [HE.out]; rfl, rfl⟩
  by_cases h4 : op = 17
  · have HE : Hid (ar op = 0) := (by show ar op = _; unfold ar; rw [if_neg (by omega), if_pos (.inr h4)])
    have e4 : (op == 17) = true := beq_iff_eq.2 h4
    clear h4
    go_enter Try.func10, Try.ntmps10
    go_wp2
    go_ret
    exact ⟨by rw [HE.out]; rfl, rfl⟩
  have e4 : (op == 17) = false := beq_eq_false_iff_ne.2 h4
  by_cases h5 : op = 7
  · have HE : Hid (ar op = 2) := (by show ar op = _; unfold ar; rw [if_neg (by omega), if_neg (by omega), if_pos (.inl h5)])
    have e5 : (op == 7) = true := beq_iff_eq.2 h5
    clear h5 h4
    go_enter Try.func10, Try.ntmps10
    go_wp2
    go_ret
    exact ⟨by rw [HE.out]; rfl, rfl⟩
  have e5 : (op == 7) = false := beq_eq_false_iff_ne.2 h5
  by_cases h6 : op = 8
  · have HE : Hid (ar op = 2) := (by show ar op = _; unfold ar; rw [if_neg (by omega), if_neg (by omega), if_pos (.inr h6)])
    have e6 : (op == 8) = true := beq_iff_eq.2 h6
    clear h6 h5 h4
    go_enter Try.func10, Try.ntmps10
    go_wp2
    go_ret
    exact ⟨by rw [HE.out]; rfl, rfl⟩
  have e6 : (op == 8) = false := beq_eq_false_iff_ne.2 h6
  have HE : Hid (ar op = 1) := (by show ar op = _; unfold ar; rw [if_neg (by omega), if_neg (by omega), if_neg (by omega)])
  clear h6 h5 h4
  go_enter Try.func10, Try.ntmps10
  go_wp2
  go_ret
  exact ⟨by rw [HE.out]; rfl, rfl⟩

set_option maxRecDepth 100000 in
set_option maxHeartbeats 4000000 in
theorem arityR_any (op : Int) (w : World) : Calls Try.prog 34 #[.int .i64 op] w fun e w' => e = .returned (.int .i64 (ar op)) ∧ w' = w := by
  by_cases h1 : op = 1
  · subst h1
    go_enter Try.func34, Try.ntmps34
    go_wp2
    go_ret
    exact ⟨rfl, rfl⟩
  have e1 : (op == 1) = false := beq_eq_false_iff_ne.2 h1
  by_cases h2 : op = 2
  · subst h2
    go_enter Try.func34, Try.ntmps34
    go_wp2
    go_ret
    exact ⟨rfl, rfl⟩
  have e2 : (op == 2) = false := beq_eq_false_iff_ne.2 h2
  by_cases h3 : op = 3
  · subst h3
    go_enter Try.func34, Try.ntmps34
    go_wp2
    go_ret
    exact ⟨rfl, rfl⟩
  have e3 : (op == 3) = false := beq_eq_false_iff_ne.2 h3
  by_cases h4 : op = 4
  · subst h4
    go_enter Try.func34, Try.ntmps34
    go_wp2
    go_ret
    exact ⟨rfl, rfl⟩
  have e4 : (op == 4) = false := beq_eq_false_iff_ne.2 h4
  by_cases h5 : op = 5
  · subst h5
    go_enter Try.func34, Try.ntmps34
    go_wp2
    go_ret
    exact ⟨rfl, rfl⟩
  have e5 : (op == 5) = false := beq_eq_false_iff_ne.2 h5
  by_cases h6 : op = 6
  · subst h6
    go_enter Try.func34, Try.ntmps34
    go_wp2
    go_ret
    exact ⟨rfl, rfl⟩
  have e6 : (op == 6) = false := beq_eq_false_iff_ne.2 h6
  by_cases h17 : op = 17
  · subst h17
    go_enter Try.func34, Try.ntmps34
    go_wp2
    go_ret
    exact ⟨rfl, rfl⟩
  have e17 : (op == 17) = false := beq_eq_false_iff_ne.2 h17
  by_cases h7 : op = 7
  · subst h7
    go_enter Try.func34, Try.ntmps34
    go_wp2
    go_ret
    exact ⟨rfl, rfl⟩
  have e7 : (op == 7) = false := beq_eq_false_iff_ne.2 h7
  by_cases h8 : op = 8
  · subst h8
    go_enter Try.func34, Try.ntmps34
    go_wp2
    go_ret
    exact ⟨rfl, rfl⟩
  have e8 : (op == 8) = false := beq_eq_false_iff_ne.2 h8
  by_cases h9 : op = 9
  · subst h9
    go_enter Try.func34, Try.ntmps34
    go_wp2
    go_ret
    exact ⟨rfl, rfl⟩
  have e9 : (op == 9) = false := beq_eq_false_iff_ne.2 h9
  by_cases h10 : op = 10
  · subst h10
    go_enter Try.func34, Try.ntmps34
    go_wp2
    go_ret
    exact ⟨rfl, rfl⟩
  have e10 : (op == 10) = false := beq_eq_false_iff_ne.2 h10
  by_cases h11 : op = 11
  · subst h11
    go_enter Try.func34, Try.ntmps34
    go_wp2
    go_ret
    exact ⟨rfl, rfl⟩
  have e11 : (op == 11) = false := beq_eq_false_iff_ne.2 h11
  by_cases h12 : op = 12
  · subst h12
    go_enter Try.func34, Try.ntmps34
    go_wp2
    go_ret
    exact ⟨rfl, rfl⟩
  have e12 : (op == 12) = false := beq_eq_false_iff_ne.2 h12
  by_cases h13 : op = 13
  · subst h13
    go_enter Try.func34, Try.ntmps34
    go_wp2
    go_ret
    exact ⟨rfl, rfl⟩
  have e13 : (op == 13) = false := beq_eq_false_iff_ne.2 h13
  by_cases h14 : op = 14
  · subst h14
    go_enter Try.func34, Try.ntmps34
    go_wp2
    go_ret
    exact ⟨rfl, rfl⟩
  have e14 : (op == 14) = false := beq_eq_false_iff_ne.2 h14
  by_cases h15 : op = 15
  · subst h15
    go_enter Try.func34, Try.ntmps34
    go_wp2
    go_ret
    exact ⟨rfl, rfl⟩
  have e15 : (op == 15) = false := beq_eq_false_iff_ne.2 h15
  by_cases h16 : op = 16
  · subst h16
    go_enter Try.func34, Try.ntmps34
    go_wp2
    go_ret
    exact ⟨rfl, rfl⟩
  have e16 : (op == 16) = false := beq_eq_false_iff_ne.2 h16
  by_cases h18 : op = 18
  · subst h18
    go_enter Try.func34, Try.ntmps34
    go_wp2
    go_ret
    exact ⟨rfl, rfl⟩
  have e18 : (op == 18) = false := beq_eq_false_iff_ne.2 h18
  by_cases h19 : op = 19
  · subst h19
    go_enter Try.func34, Try.ntmps34
    go_wp2
    go_ret
    exact ⟨rfl, rfl⟩
  have e19 : (op == 19) = false := beq_eq_false_iff_ne.2 h19
  by_cases h20 : op = 20
  · subst h20
    go_enter Try.func34, Try.ntmps34
    go_wp2
    go_ret
    exact ⟨rfl, rfl⟩
  have e20 : (op == 20) = false := beq_eq_false_iff_ne.2 h20
  by_cases h21 : op = 21
  · subst h21
    go_enter Try.func34, Try.ntmps34
    go_wp2
    go_ret
    exact ⟨rfl, rfl⟩
  have e21 : (op == 21) = false := beq_eq_false_iff_ne.2 h21
  by_cases h22 : op = 22
  · subst h22
    go_enter Try.func34, Try.ntmps34
    go_wp2
    go_ret
    exact ⟨rfl, rfl⟩
  have e22 : (op == 22) = false := beq_eq_false_iff_ne.2 h22
  by_cases h23 : op = 23
  · subst h23
    go_enter Try.func34, Try.ntmps34
    go_wp2
    go_ret
    exact ⟨rfl, rfl⟩
  have e23 : (op == 23) = false := beq_eq_false_iff_ne.2 h23
  have HE : Hid (ar op = -1) := (by show ar op = _; unfold ar; rw [if_pos (by omega)])
  clear h1 h2 h3 h4 h5 h6 h17 h7 h8 h9 h10 h11 h12 h13 h14 h15 h16 h18 h19 h20 h21 h22 h23
  go_enter Try.func34, Try.ntmps34
  go_wp2
  go_ret
  exact ⟨by rw [HE.out]; rfl, rfl⟩
end Go.Proofs.Ytfomodpjdaclgab
