/- DERIVED. Walks, laid together: TxH, TxI, TxJ, TxK. -/
import Derived.Test.YtlcmlipldkpliaaTmRead
namespace Go.Proofs.Ytlcmlipldkpliaa
open Go.RowKit

set_option maxRecDepth 100000 in
set_option maxHeartbeats 1000000 in
theorem at_any (s : ByteArray) (i : Nat) (w : World) :
    Calls Try.prog 68 #[.string s, .int .i64 i] w fun e w' => e = .returned (.int .i64 (chr s i)) ∧ w' = w := by
  by_cases h : i < s.size
  · have HE := (show Hid _ from chr_in h)
    have h0 : (0 : Int) ≤ (i : Int) := by omega
    have h1 : (i : Int) < (s.size : Int) := by omega
    have hb : (s[i].toNat : Int) ≤ 255 := by have := s[i].toNat_lt; omega
    have hw8 : IntKind.i64.wrap (s[i].toNat : Int) = (s[i].toNat : Int) := by rw [IntKind.wrap_i64]; omega
    go_enter Try.func68, Try.ntmps68
    go_wp2
    go_ret
    exact ⟨by rw [HE.out]; rfl, rfl⟩
  · have HE := (show Hid _ from chr_out h)
    have h0 : (0 : Int) ≤ (i : Int) := by omega
    have h1 : ¬ (i : Int) < (s.size : Int) := by omega
    go_enter Try.func68, Try.ntmps68
    go_wp2
    go_ret
    exact ⟨by rw [HE.out]; rfl, rfl⟩

set_option maxRecDepth 100000 in
set_option maxHeartbeats 1000000 in
theorem special_any (b : Int) (w : World) :
    Calls Try.prog 80 #[.int .i64 b] w fun e w' => e = .returned (.bool (signB b)) ∧ w' = w := by
  cases e92 : (b == 92)
  ·
    cases e93 : (b == 93)
    ·
      cases e91 : (b == 91)
      ·
        cases e94 : (b == 94)
        ·
          cases e45 : (b == 45)
          ·
            cases e37 : (b == 37)
            ·
              have HE : Hid (signB b = false) := (by show signB b = _; simp [signB, e92, e93, e91, e94, e45, e37])
              go_enter Try.func80, Try.ntmps80
              go_wp2
              go_ret
              exact ⟨ret_bool HE.out.symm, rfl⟩
            ·
              have HE : Hid (signB b = true) := (by show signB b = _; simp [signB, e92, e93, e91, e94, e45, e37])
              go_enter Try.func80, Try.ntmps80
              go_wp2
              go_ret
              exact ⟨ret_bool HE.out.symm, rfl⟩
          ·
            have HE : Hid (signB b = true) := (by show signB b = _; simp [signB, e92, e93, e91, e94, e45])
            go_enter Try.func80, Try.ntmps80
            go_wp2
            go_ret
            exact ⟨ret_bool HE.out.symm, rfl⟩
        ·
          have HE : Hid (signB b = true) := (by show signB b = _; simp [signB, e92, e93, e91, e94])
          go_enter Try.func80, Try.ntmps80
          go_wp2
          go_ret
          exact ⟨ret_bool HE.out.symm, rfl⟩
      ·
        have HE : Hid (signB b = true) := (by show signB b = _; simp [signB, e92, e93, e91])
        go_enter Try.func80, Try.ntmps80
        go_wp2
        go_ret
        exact ⟨ret_bool HE.out.symm, rfl⟩
    ·
      have HE : Hid (signB b = true) := (by show signB b = _; simp [signB, e92, e93])
      go_enter Try.func80, Try.ntmps80
      go_wp2
      go_ret
      exact ⟨ret_bool HE.out.symm, rfl⟩
  ·
    have HE : Hid (signB b = true) := (by show signB b = _; simp [signB, e92])
    go_enter Try.func80, Try.ntmps80
    go_wp2
    go_ret
    exact ⟨ret_bool HE.out.symm, rfl⟩

set_option maxRecDepth 100000 in
set_option maxHeartbeats 1000000 in
theorem hexDigit_any (c : UInt8) (w : World) :
    Calls Try.prog 81 #[.int .u8 (c.toNat : Int)] w fun e w' => e = .returned (.int .i64 (hexV (c.toNat : Int))) ∧ w' = w := by
  have hc : (0 : Int) ≤ (c.toNat : Int) ∧ (c.toNat : Int) ≤ 255 := by have := c.toNat_lt; omega
  generalize (c.toNat : Int) = n at *
  obtain ⟨n0, n1⟩ := hc
  by_cases h1 : 48 ≤ n
  · by_cases h2 : n ≤ 57
    · have HE : Hid (hexV n = n - 48) := (by show hexV n = _; unfold hexV; rw [if_pos ⟨h1, h2⟩])
      have q1 : IntKind.u8.wrap (n - 48) = n - 48 := by rw [IntKind.wrap_u8]; omega
      have q2 : IntKind.i64.wrap (n - 48) = n - 48 := by rw [IntKind.wrap_i64]; omega
      go_enter Try.func81, Try.ntmps81
      go_wp2
      go_ret
      exact ⟨by rw [HE.out]; rfl, rfl⟩
    · by_cases h3 : 97 ≤ n
      · by_cases h4 : n ≤ 102
        · have HE : Hid (hexV n = n - 87) := (by show hexV n = _; unfold hexV; rw [if_neg (by omega), if_pos ⟨h3, h4⟩])
          have q1 : IntKind.u8.wrap (n - 97) = n - 97 := by rw [IntKind.wrap_u8]; omega
          have q2 : IntKind.i64.wrap (n - 97) = n - 97 := by rw [IntKind.wrap_i64]; omega
          have q3 : IntKind.i64.wrap (n - 97 + 10) = n - 97 + 10 := by rw [IntKind.wrap_i64]; omega
          go_enter Try.func81, Try.ntmps81
          go_wp2
          go_ret
          exact ⟨by rw [HE.out]; exact ret_int (by omega), rfl⟩
        · have HE : Hid (hexV n = -1) := (by show hexV n = _; unfold hexV; rw [if_neg (by omega), if_neg (by omega)])
          go_enter Try.func81, Try.ntmps81
          go_wp2
          go_ret
          exact ⟨by rw [HE.out]; rfl, rfl⟩
      · have HE : Hid (hexV n = -1) := (by show hexV n = _; unfold hexV; rw [if_neg (by omega), if_neg (by omega)])
        go_enter Try.func81, Try.ntmps81
        go_wp2
        go_ret
        exact ⟨by rw [HE.out]; rfl, rfl⟩
  · have h3 : ¬ 97 ≤ n := by omega
    have HE : Hid (hexV n = -1) := (by show hexV n = _; unfold hexV; rw [if_neg (by omega), if_neg (by omega)])
    go_enter Try.func81, Try.ntmps81
    go_wp2
    go_ret
    exact ⟨by rw [HE.out]; rfl, rfl⟩

end Go.Proofs.Ytlcmlipldkpliaa

namespace Go.Proofs.Ytlcmlipldkpliaa
open Go.RowKit

theorem idx_str (s : ByteArray) (i : Nat) (h : i < s.size) (w : World) : (Instr.index 9 (.string s) (.int .i64 (i : Int))).run Try.prog w = .ok (.int .u8 (s[i].toNat : Int)) w := by
  have h0 : (0 : Int) ≤ (i : Int) := by omega
  have h1 : (i : Int) < (s.size : Int) := by omega
  rw [run_index_string _ _ _ _ _ Try.underlying9]
  simp [h0, h1]
/-- What the document's reading of one item answers. -/
def irV (i : Nat) : Option (Nat × Nat) → Value
  | none => .tuple #[.int .i64 (-1), .int .i64 i]
  | some (b, n) => .tuple #[.int .i64 b, .int .i64 n]
theorem ret_ir {b n i : Nat} {b' n' : Int} (hb : b' = b) (hn : n' = n) : Ending.returned (.tuple #[.int .i64 b', .int .i64 n']) = .returned (irV i (some (b, n))) := by rw [hb, hn]; rfl
end Go.Proofs.Ytlcmlipldkpliaa

namespace Go.Proofs.Ytlcmlipldkpliaa
open Go.RowKit

set_option maxRecDepth 100000 in
set_option maxHeartbeats 1000000 in
theorem itemR_plain (s : ByteArray) (i : Nat) (hi : i ≤ s.size) (hs : s.size ≤ 140737488355328) (h92 : (chr s i != 92) = true) (w : World) :
    Calls Try.prog 69 #[.string s, .int .i64 i] w fun e w' => e = .returned (irV i (rdItem s i)) ∧ Below w.heap.size w w' := by
  have hn92 : ¬ chr s i = 92 := bne_iff_ne.1 h92
  have hb := chr_le s i
  have HE : Hid (rdItem s i = if chr s i = 93 ∨ chr s i = 45 ∨ chr s i = 37 ∨ prnB (chr s i) = false then none else some ((chr s i).toNat, i + 1)) := (by show rdItem s i = _; unfold rdItem; rw [if_neg hn92])
  have HX : Hid (∀ w, Calls Try.prog 68 #[.string s, .int .i64 i] w fun e w' => e = .returned (.int .i64 (chr s i)) ∧ w' = w) := fun w => at_any s i w
  generalize chr s i = c at *
  obtain ⟨b0, b1⟩ := hb
  by_cases hg : c = 93 ∨ c = 45 ∨ c = 37 ∨ prnB c = false
  · have HF := (show Hid (rdItem s i = none) from (by show rdItem s i = _; rw [HE.out, if_pos hg]))
    by_cases k1 : c < 32
    · clear HE hg hn92
      go_enter Try.func69, Try.ntmps69
      go_wp2_with fail
      refine (HX.out _).mono ?_
      rintro e w' ⟨rfl, rfl⟩
      go_wp2
      go_ret2
      exact ⟨by rw [HF.out]; rfl, Below.refl _ _⟩
    by_cases k2 : 126 < c
    · clear HE hg hn92
      go_enter Try.func69, Try.ntmps69
      go_wp2_with fail
      refine (HX.out _).mono ?_
      rintro e w' ⟨rfl, rfl⟩
      go_wp2
      go_ret2
      exact ⟨by rw [HF.out]; rfl, Below.refl _ _⟩
    have hp : prnB c = true := by simp [prnB]; omega
    rw [hp] at hg
    cases e93 : (c == 93)
    · cases e45 : (c == 45)
      · have e37 : (c == 37) = true := by simp at hg e93 e45 ⊢; omega
        clear HE hg hn92 hp
        go_enter Try.func69, Try.ntmps69
        go_wp2_with fail
        refine (HX.out _).mono ?_
        rintro e w' ⟨rfl, rfl⟩
        go_wp2
        go_ret2
        exact ⟨by rw [HF.out]; rfl, Below.refl _ _⟩
      · clear HE hg hn92 hp
        go_enter Try.func69, Try.ntmps69
        go_wp2_with fail
        refine (HX.out _).mono ?_
        rintro e w' ⟨rfl, rfl⟩
        go_wp2
        go_ret2
        exact ⟨by rw [HF.out]; rfl, Below.refl _ _⟩
    · clear HE hg hn92 hp
      go_enter Try.func69, Try.ntmps69
      go_wp2_with fail
      refine (HX.out _).mono ?_
      rintro e w' ⟨rfl, rfl⟩
      go_wp2
      go_ret2
      exact ⟨by rw [HF.out]; rfl, Below.refl _ _⟩
  · have HF := (show Hid (rdItem s i = some (c.toNat, i + 1)) from (by show rdItem s i = _; rw [HE.out, if_neg hg]))
    have hp : prnB c = true := by cases h : prnB c with
      | true => rfl
      | false => exact absurd (.inr (.inr (.inr h))) hg
    have hp2 : 32 ≤ c ∧ c ≤ 126 := by simpa [prnB] using hp
    obtain ⟨k1, k2⟩ := hp2
    have k1' : ¬ c < 32 := by omega
    have k2' : ¬ 126 < c := by omega
    have e93 : (c == 93) = false := by simp; intro h; exact hg (.inl h)
    have e45 : (c == 45) = false := by simp; intro h; exact hg (.inr (.inl h))
    have e37 : (c == 37) = false := by simp; intro h; exact hg (.inr (.inr (.inl h)))
    clear HE hg hn92 hp
    go_enter Try.func69, Try.ntmps69
    go_wp2_with fail
    refine (HX.out _).mono ?_
    rintro e w' ⟨rfl, rfl⟩
    go_wp2
    go_ret2
    exact ⟨by rw [HF.out]; exact ret_ir (by omega) (by omega), Below.refl _ _⟩
end Go.Proofs.Ytlcmlipldkpliaa

namespace Go.Proofs.Ytlcmlipldkpliaa
open Go.RowKit

set_option maxRecDepth 100000 in
set_option maxHeartbeats 8000000 in
theorem itemR_esc (s : ByteArray) (i : Nat) (hi : i < s.size) (hs : s.size ≤ 140737488355328) (h92 : chr s i = 92) (w : World) :
    Calls Try.prog 69 #[.string s, .int .i64 i] w fun e w' => e = .returned (irV i (rdItem s i)) ∧ Below w.heap.size w w' := by
  have HX : Hid (∀ w, Calls Try.prog 68 #[.string s, .int .i64 i] w fun e w' => e = .returned (.int .i64 92) ∧ w' = w) := fun w => by have h := at_any s i w; rw [h92] at h; exact h
  have HY : Hid (∀ w, Calls Try.prog 68 #[.string s, .int .i64 ((i : Int) + 1)] w fun e w' => e = .returned (.int .i64 (chr s (i + 1))) ∧ w' = w) := fun w => at_any s (i + 1) w
  have hb := chr_le s (i + 1)
  have HE : Hid (rdItem s i = if chr s (i + 1) = 110 then some (10, i + 2) else if chr s (i + 1) = 114 then some (13, i + 2) else if chr s (i + 1) = 116 then some (9, i + 2) else if chr s (i + 1) = 120 then rdHex s i else if signB (chr s (i + 1)) then some ((chr s (i + 1)).toNat, i + 2) else none) := (by show rdItem s i = _; unfold rdItem; rw [if_pos h92]; rfl)
  clear h92
  generalize chr s (i + 1) = d at *
  obtain ⟨b0, b1⟩ := hb
  by_cases h110 : d = 110
  · have HF := (show Hid (rdItem s i = some (10, i + 2)) from (by show rdItem s i = _; rw [HE.out, if_pos h110]))
    have e110 : (d == 110) = true := beq_iff_eq.2 h110
    clear HE h110
    go_enter Try.func69, Try.ntmps69
    go_wp2_with fail
    refine (HX.out _).mono ?_
    rintro e w' ⟨rfl, rfl⟩
    go_wp2_with fail
    refine (HY.out _).mono ?_
    rintro e w' ⟨rfl, rfl⟩
    go_wp2
    go_ret2
    exact ⟨by rw [HF.out]; exact ret_ir rfl (by omega), Below.refl _ _⟩
  by_cases h114 : d = 114
  · have HF := (show Hid (rdItem s i = some (13, i + 2)) from (by show rdItem s i = _; rw [HE.out, if_neg h110, if_pos h114]))
    have e110 : (d == 110) = false := beq_eq_false_iff_ne.2 h110
    have e114 : (d == 114) = true := beq_iff_eq.2 h114
    clear HE h110 h114
    go_enter Try.func69, Try.ntmps69
    go_wp2_with fail
    refine (HX.out _).mono ?_
    rintro e w' ⟨rfl, rfl⟩
    go_wp2_with fail
    refine (HY.out _).mono ?_
    rintro e w' ⟨rfl, rfl⟩
    go_wp2
    go_ret2
    exact ⟨by rw [HF.out]; exact ret_ir rfl (by omega), Below.refl _ _⟩
  by_cases h116 : d = 116
  · have HF := (show Hid (rdItem s i = some (9, i + 2)) from (by show rdItem s i = _; rw [HE.out, if_neg h110, if_neg h114, if_pos h116]))
    have e110 : (d == 110) = false := beq_eq_false_iff_ne.2 h110
    have e114 : (d == 114) = false := beq_eq_false_iff_ne.2 h114
    have e116 : (d == 116) = true := beq_iff_eq.2 h116
    clear HE h110 h114 h116
    go_enter Try.func69, Try.ntmps69
    go_wp2_with fail
    refine (HX.out _).mono ?_
    rintro e w' ⟨rfl, rfl⟩
    go_wp2_with fail
    refine (HY.out _).mono ?_
    rintro e w' ⟨rfl, rfl⟩
    go_wp2
    go_ret2
    exact ⟨by rw [HF.out]; exact ret_ir rfl (by omega), Below.refl _ _⟩
  have e110 : (d == 110) = false := beq_eq_false_iff_ne.2 h110
  have e114 : (d == 114) = false := beq_eq_false_iff_ne.2 h114
  have e116 : (d == 116) = false := beq_eq_false_iff_ne.2 h116
  by_cases hd0 : d < 0
  · have e120 : (d == 120) = false := beq_eq_false_iff_ne.2 (by omega)
    have HF := (show Hid (rdItem s i = none) from (by show rdItem s i = _; rw [HE.out, if_neg h110, if_neg h114, if_neg h116, if_neg (by omega), if_neg (by simp [signB]; omega)]))
    have hd1 : ¬ 0 ≤ d := by omega
    clear HE h110 h114 h116
    go_enter Try.func69, Try.ntmps69
    go_wp2_with fail
    refine (HX.out _).mono ?_
    rintro e w' ⟨rfl, rfl⟩
    go_wp2_with fail
    refine (HY.out _).mono ?_
    rintro e w' ⟨rfl, rfl⟩
    go_wp2
    go_ret2
    exact ⟨by rw [HF.out]; rfl, Below.refl _ _⟩
  have hd1 : 0 ≤ d := by omega
  cases hsg : signB d
  · by_cases h120 : d = 120
    · have HF := (show Hid (rdItem s i = rdHex s i) from (by show rdItem s i = _; rw [HE.out, if_neg h110, if_neg h114, if_neg h116, if_pos h120]))
      have e120 : (d == 120) = true := beq_iff_eq.2 h120
      clear HE h110 h114 h116 h120
      by_cases h : i + 3 < s.size
      · have h2 : i + 2 < s.size := by omega
        have hb1 := hexV_bd (s[i + 2].toNat : Int)
        have hb2 := hexV_bd (s[i + 3].toNat : Int)
        have HE : Hid (rdHex s i = if 0 ≤ hexV (s[i + 2].toNat : Int) ∧ 0 ≤ hexV (s[i + 3].toNat : Int) then some ((16 * hexV (s[i + 2].toNat : Int) + hexV (s[i + 3].toNat : Int)).toNat, i + 4) else none) := (by show rdHex s i = _; unfold rdHex; rw [chr_in h2, chr_in h])
        have HI : Hid (∀ w, Calls Try.prog 81 #[.int .u8 (s[i + 2].toNat : Int)] w fun e w' => e = .returned (.int .i64 (hexV (s[i + 2].toNat : Int))) ∧ w' = w) := fun w => hexDigit_any _ w
        have HJ : Hid (∀ w, Calls Try.prog 81 #[.int .u8 (s[i + 3].toNat : Int)] w fun e w' => e = .returned (.int .i64 (hexV (s[i + 3].toNat : Int))) ∧ w' = w) := fun w => hexDigit_any _ w
        have hi0 : (0 : Int) ≤ (i : Int) := by omega
        have hi3 : (i : Int) + 3 < (s.size : Int) := by omega
        have hi2 : (i : Int) + 2 < (s.size : Int) := by omega
        generalize hexV (s[i + 2].toNat : Int) = x at *
        generalize hexV (s[i + 3].toNat : Int) = y at *
        by_cases hx : 0 ≤ x
        · by_cases hy : 0 ≤ y
          · have HG := (show Hid (rdItem s i = some ((16 * x + y).toNat, i + 4)) from (by show rdItem s i = _; rw [HF.out, HE.out, if_pos ⟨hx, hy⟩]))
            clear HE HF
            go_enter Try.func69, Try.ntmps69
            go_wp2_with fail
            refine (HX.out _).mono ?_
            rintro e w' ⟨rfl, rfl⟩
            go_wp2_with fail
            refine (HY.out _).mono ?_
            rintro e w' ⟨rfl, rfl⟩
            go_wp2_with fail
            refine (special_any _ _).mono ?_
            rintro e w' ⟨rfl, rfl⟩
            go_wp2_with fail
            refine (HI.out _).mono ?_
            rintro e w' ⟨rfl, rfl⟩
            go_wp2_with fail
            refine (HJ.out _).mono ?_
            rintro e w' ⟨rfl, rfl⟩
            go_wp2_with fail
            have q1 : IntKind.i64.wrap (x * 16) = x * 16 := by rw [IntKind.wrap_i64]; omega
            have q2 : IntKind.i64.wrap (x * 16 + y) = x * 16 + y := by rw [IntKind.wrap_i64]; omega
            have x2 := idx_str s (i + 2) h2
            have x3 := idx_str s (i + 3) h
            rw [show ((i + 2 : Nat) : Int) = (i : Int) + 2 from by omega] at x2
            rw [show ((i + 3 : Nat) : Int) = (i : Int) + 3 from by omega] at x3
            have z2 : (0 : Int) ≤ (i : Int) + 2 := by omega
            have z3 : (0 : Int) ≤ (i : Int) + 3 := by omega
            have v2 : IntKind.i64.wrap ((i : Int) + 2) = (i : Int) + 2 := by rw [IntKind.wrap_i64]; omega
            have v3 : IntKind.i64.wrap ((i : Int) + 3) = (i : Int) + 3 := by rw [IntKind.wrap_i64]; omega
            have v4 : IntKind.i64.wrap ((i : Int) + 4) = (i : Int) + 4 := by rw [IntKind.wrap_i64]; omega
            go_region_held3 (fun _ => True) (trivial) (first | (go_at_call 81; with_reducible refine (HI.out _).mono ?_; rintro e w' ⟨rfl, rfl⟩) | (go_at_call 81; with_reducible refine (HJ.out _).mono ?_; rintro e w' ⟨rfl, rfl⟩))
            all_goals
              go_wp2
              go_ret2
              exact ⟨by rw [HG.out]; exact ret_ir (by omega) (by omega), (Below.refl _ _).drew⟩
          · have HG := (show Hid (rdItem s i = none) from (by show rdItem s i = _; rw [HF.out, HE.out, if_neg (fun q => hy q.2)]))
            clear HE HF
            go_enter Try.func69, Try.ntmps69
            go_wp2_with fail
            refine (HX.out _).mono ?_
            rintro e w' ⟨rfl, rfl⟩
            go_wp2_with fail
            refine (HY.out _).mono ?_
            rintro e w' ⟨rfl, rfl⟩
            go_wp2_with fail
            refine (special_any _ _).mono ?_
            rintro e w' ⟨rfl, rfl⟩
            go_wp2_with fail
            refine (HI.out _).mono ?_
            rintro e w' ⟨rfl, rfl⟩
            go_wp2_with fail
            refine (HJ.out _).mono ?_
            rintro e w' ⟨rfl, rfl⟩
            go_wp2
            go_ret2
            exact ⟨by rw [HG.out]; rfl, Below.refl _ _⟩
        · have HG := (show Hid (rdItem s i = none) from (by show rdItem s i = _; rw [HF.out, HE.out, if_neg (fun q => hx q.1)]))
          clear HE HF
          go_enter Try.func69, Try.ntmps69
          go_wp2_with fail
          refine (HX.out _).mono ?_
          rintro e w' ⟨rfl, rfl⟩
          go_wp2_with fail
          refine (HY.out _).mono ?_
          rintro e w' ⟨rfl, rfl⟩
          go_wp2_with fail
          refine (special_any _ _).mono ?_
          rintro e w' ⟨rfl, rfl⟩
          go_wp2_with fail
          refine (HI.out _).mono ?_
          rintro e w' ⟨rfl, rfl⟩
          go_wp2
          go_ret2
          exact ⟨by rw [HG.out]; rfl, Below.refl _ _⟩
      · have HG := (show Hid (rdItem s i = none) from (by
          show rdItem s i = _
          rw [HF.out]
          unfold rdHex
          rw [chr_out h, if_neg (by rintro ⟨_, q⟩; simp [hexV] at q)]))
        have hi3 : ¬ (i : Int) + 3 < (s.size : Int) := by omega
        clear HF
        go_enter Try.func69, Try.ntmps69
        go_wp2_with fail
        refine (HX.out _).mono ?_
        rintro e w' ⟨rfl, rfl⟩
        go_wp2_with fail
        refine (HY.out _).mono ?_
        rintro e w' ⟨rfl, rfl⟩
        go_wp2_with fail
        refine (special_any _ _).mono ?_
        rintro e w' ⟨rfl, rfl⟩
        go_wp2
        go_ret2
        exact ⟨by rw [HG.out]; rfl, Below.refl _ _⟩
    · have e120 : (d == 120) = false := beq_eq_false_iff_ne.2 h120
      have HF := (show Hid (rdItem s i = none) from (by show rdItem s i = _; rw [HE.out, if_neg h110, if_neg h114, if_neg h116, if_neg h120, if_neg (by rw [hsg]; simp)]))
      clear HE h110 h114 h116 h120
      go_enter Try.func69, Try.ntmps69
      go_wp2_with fail
      refine (HX.out _).mono ?_
      rintro e w' ⟨rfl, rfl⟩
      go_wp2_with fail
      refine (HY.out _).mono ?_
      rintro e w' ⟨rfl, rfl⟩
      go_wp2_with fail
      refine (special_any _ _).mono ?_
      rintro e w' ⟨rfl, rfl⟩
      go_wp2
      go_ret2
      exact ⟨by rw [HF.out]; rfl, Below.refl _ _⟩
  · have h120 : ¬ d = 120 := fun h => by subst h; simp [signB] at hsg
    have HF := (show Hid (rdItem s i = some (d.toNat, i + 2)) from (by show rdItem s i = _; rw [HE.out, if_neg h110, if_neg h114, if_neg h116, if_neg h120, if_pos hsg]))
    clear HE h110 h114 h116 h120
    go_enter Try.func69, Try.ntmps69
    go_wp2_with fail
    refine (HX.out _).mono ?_
    rintro e w' ⟨rfl, rfl⟩
    go_wp2_with fail
    refine (HY.out _).mono ?_
    rintro e w' ⟨rfl, rfl⟩
    go_wp2_with fail
    refine (special_any _ _).mono ?_
    rintro e w' ⟨rfl, rfl⟩
    go_wp2
    go_ret2
    exact ⟨by rw [HF.out]; exact ret_ir (by omega) (by omega), Below.refl _ _⟩

theorem itemR_any (s : ByteArray) (i : Nat) (hi : i ≤ s.size) (hs : s.size ≤ 140737488355328) (w : World) :
    Calls Try.prog 69 #[.string s, .int .i64 i] w fun e w' => e = .returned (irV i (rdItem s i)) ∧ Below w.heap.size w w' := by
  by_cases h : chr s i = 92
  · exact itemR_esc s i (chr_lt (by rw [h]; omega)) hs h w
  · exact itemR_plain s i hi hs (bne_iff_ne.2 h) w
end Go.Proofs.Ytlcmlipldkpliaa
