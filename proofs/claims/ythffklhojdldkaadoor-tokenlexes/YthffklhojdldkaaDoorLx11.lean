/- DERIVED. Plain mathematics and walks, laid together (11). -/
import Derived.Test.YthffklhojdldkaaDoorLx10
namespace Go.Proofs.YthffklhojdldkaaDoor
open Go.RowKit
set_option maxRecDepth 100000 in
set_option maxHeartbeats 1000000 in
theorem itemR_plain (s : ByteArray) (i : Nat) (hi : i ≤ s.size) (hs : s.size ≤ 140737488355328) (h92 : (chr s i != 92) = true) (w : World) :
    Calls Tryd.prog 59 #[.string s, .int .i64 i] w fun e w' => e = .returned (irV i (rdItem s i)) ∧ Below w.heap.size w w' := by
  have hn92 : ¬ chr s i = 92 := bne_iff_ne.1 h92
  have hb := chr_le s i
  have HE : Hid (rdItem s i = if chr s i = 93 ∨ chr s i = 45 ∨ chr s i = 37 ∨ prnB (chr s i) = false then none else some ((chr s i).toNat, i + 1)) := (by show rdItem s i = _; unfold rdItem; rw [if_neg hn92])
  have HX : Hid (∀ w, Calls Tryd.prog 29 #[.string s, .int .i64 i] w fun e w' => e = .returned (.int .i64 (chr s i)) ∧ w' = w) := fun w => at_any s i w
  generalize chr s i = c at *
  obtain ⟨b0, b1⟩ := hb
  by_cases hg : c = 93 ∨ c = 45 ∨ c = 37 ∨ prnB c = false
  · have HF := (show Hid (rdItem s i = none) from (by show rdItem s i = _; rw [HE.out, if_pos hg]))
    by_cases k1 : c < 32
    · clear HE hg hn92
      go_enter Tryd.func59, Tryd.ntmps59
      go_wp2_with fail
      refine (HX.out _).mono ?_
      rintro e w' ⟨rfl, rfl⟩
      go_wp2
      go_ret2
      exact ⟨by rw [HF.out]; rfl, Below.refl _ _⟩
    by_cases k2 : 126 < c
    · clear HE hg hn92
      go_enter Tryd.func59, Tryd.ntmps59
      go_wp2_with fail
      refine (HX.out _).mono ?_
      rintro e w' ⟨rfl, rfl⟩
      go_wp2
      go_ret2
      exact ⟨by rw [HF.out]; rfl, Below.refl _ _⟩
    have hp : prnB c = true := by simp [prnB]; omega
    rw [hp] at hg
    cases e93 : (c == 93)
    · cases e45 : (c == 45)
      · have e37 : (c == 37) = true := by simp at hg e93 e45 ⊢; omega
        clear HE hg hn92 hp
        go_enter Tryd.func59, Tryd.ntmps59
        go_wp2_with fail
        refine (HX.out _).mono ?_
        rintro e w' ⟨rfl, rfl⟩
        go_wp2
        go_ret2
        exact ⟨by rw [HF.out]; rfl, Below.refl _ _⟩
      · clear HE hg hn92 hp
        go_enter Tryd.func59, Tryd.ntmps59
        go_wp2_with fail
        refine (HX.out _).mono ?_
        rintro e w' ⟨rfl, rfl⟩
        go_wp2
        go_ret2
        exact ⟨by rw [HF.out]; rfl, Below.refl _ _⟩
    · clear HE hg hn92 hp
      go_enter Tryd.func59, Tryd.ntmps59
      go_wp2_with fail
      refine (HX.out _).mono ?_
      rintro e w' ⟨rfl, rfl⟩
      go_wp2
      go_ret2
      exact ⟨by rw [HF.out]; rfl, Below.refl _ _⟩
  · have HF := (show Hid (rdItem s i = some (c.toNat, i + 1)) from (by show rdItem s i = _; rw [HE.out, if_neg hg]))
    have hp : prnB c = true := by cases h : prnB c with
      | true => rfl
      | false => exact absurd (.inr (.inr (.inr h))) hg
    have hp2 : 32 ≤ c ∧ c ≤ 126 := by simpa [prnB] using hp
    obtain ⟨k1, k2⟩ := hp2
    have k1' : ¬ c < 32 := by omega
    have k2' : ¬ 126 < c := by omega
    have e93 : (c == 93) = false := by simp; intro h; exact hg (.inl h)
    have e45 : (c == 45) = false := by simp; intro h; exact hg (.inr (.inl h))
    have e37 : (c == 37) = false := by simp; intro h; exact hg (.inr (.inr (.inl h)))
    clear HE hg hn92 hp
    go_enter Tryd.func59, Tryd.ntmps59
    go_wp2_with fail
    refine (HX.out _).mono ?_
    rintro e w' ⟨rfl, rfl⟩
    go_wp2
    go_ret2
    exact ⟨by rw [HF.out]; exact ret_ir (by omega) (by omega), Below.refl _ _⟩
end Go.Proofs.YthffklhojdldkaaDoor

namespace Go.Proofs.YthffklhojdldkaaDoor
open Go.RowKit
set_option maxRecDepth 100000 in
set_option maxHeartbeats 8000000 in
theorem itemR_esc (s : ByteArray) (i : Nat) (hi : i < s.size) (hs : s.size ≤ 140737488355328) (h92 : chr s i = 92) (w : World) :
    Calls Tryd.prog 59 #[.string s, .int .i64 i] w fun e w' => e = .returned (irV i (rdItem s i)) ∧ Below w.heap.size w w' := by
  have HX : Hid (∀ w, Calls Tryd.prog 29 #[.string s, .int .i64 i] w fun e w' => e = .returned (.int .i64 92) ∧ w' = w) := fun w => by have h := at_any s i w; rw [h92] at h; exact h
  have HY : Hid (∀ w, Calls Tryd.prog 29 #[.string s, .int .i64 ((i : Int) + 1)] w fun e w' => e = .returned (.int .i64 (chr s (i + 1))) ∧ w' = w) := fun w => at_any s (i + 1) w
  have hb := chr_le s (i + 1)
  have HE : Hid (rdItem s i = if chr s (i + 1) = 110 then some (10, i + 2) else if chr s (i + 1) = 114 then some (13, i + 2) else if chr s (i + 1) = 116 then some (9, i + 2) else if chr s (i + 1) = 120 then rdHex s i else if signB (chr s (i + 1)) then some ((chr s (i + 1)).toNat, i + 2) else none) := (by show rdItem s i = _; unfold rdItem; rw [if_pos h92]; rfl)
  clear h92
  generalize chr s (i + 1) = d at *
  obtain ⟨b0, b1⟩ := hb
  by_cases h110 : d = 110
  · have HF := (show Hid (rdItem s i = some (10, i + 2)) from (by show rdItem s i = _; rw [HE.out, if_pos h110]))
    have e110 : (d == 110) = true := beq_iff_eq.2 h110
    clear HE h110
    go_enter Tryd.func59, Tryd.ntmps59
    go_wp2_with fail
    refine (HX.out _).mono ?_
    rintro e w' ⟨rfl, rfl⟩
    go_wp2_with fail
    refine (HY.out _).mono ?_
    rintro e w' ⟨rfl, rfl⟩
    go_wp2
    go_ret2
    exact ⟨by rw [HF.out]; exact ret_ir rfl (by omega), Below.refl _ _⟩
  by_cases h114 : d = 114
  · have HF := (show Hid (rdItem s i = some (13, i + 2)) from (by show rdItem s i = _; rw [HE.out, if_neg h110, if_pos h114]))
    have e110 : (d == 110) = false := beq_eq_false_iff_ne.2 h110
    have e114 : (d == 114) = true := beq_iff_eq.2 h114
    clear HE h110 h114
    go_enter Tryd.func59, Tryd.ntmps59
    go_wp2_with fail
    refine (HX.out _).mono ?_
    rintro e w' ⟨rfl, rfl⟩
    go_wp2_with fail
    refine (HY.out _).mono ?_
    rintro e w' ⟨rfl, rfl⟩
    go_wp2
    go_ret2
    exact ⟨by rw [HF.out]; exact ret_ir rfl (by omega), Below.refl _ _⟩
  by_cases h116 : d = 116
  · have HF := (show Hid (rdItem s i = some (9, i + 2)) from (by show rdItem s i = _; rw [HE.out, if_neg h110, if_neg h114, if_pos h116]))
    have e110 : (d == 110) = false := beq_eq_false_iff_ne.2 h110
    have e114 : (d == 114) = false := beq_eq_false_iff_ne.2 h114
    have e116 : (d == 116) = true := beq_iff_eq.2 h116
    clear HE h110 h114 h116
    go_enter Tryd.func59, Tryd.ntmps59
    go_wp2_with fail
    refine (HX.out _).mono ?_
    rintro e w' ⟨rfl, rfl⟩
    go_wp2_with fail
    refine (HY.out _).mono ?_
    rintro e w' ⟨rfl, rfl⟩
    go_wp2
    go_ret2
    exact ⟨by rw [HF.out]; exact ret_ir rfl (by omega), Below.refl _ _⟩
  have e110 : (d == 110) = false := beq_eq_false_iff_ne.2 h110
  have e114 : (d == 114) = false := beq_eq_false_iff_ne.2 h114
  have e116 : (d == 116) = false := beq_eq_false_iff_ne.2 h116
  by_cases hd0 : d < 0
  · have e120 : (d == 120) = false := beq_eq_false_iff_ne.2 (by omega)
    have HF := (show Hid (rdItem s i = none) from (by show rdItem s i = _; rw [HE.out, if_neg h110, if_neg h114, if_neg h116, if_neg (by omega), if_neg (by simp [signB]; omega)]))
    have hd1 : ¬ 0 ≤ d := by omega
    clear HE h110 h114 h116
    go_enter Tryd.func59, Tryd.ntmps59
    go_wp2_with fail
    refine (HX.out _).mono ?_
    rintro e w' ⟨rfl, rfl⟩
    go_wp2_with fail
    refine (HY.out _).mono ?_
    rintro e w' ⟨rfl, rfl⟩
    go_wp2
    go_ret2
    exact ⟨by rw [HF.out]; rfl, Below.refl _ _⟩
  have hd1 : 0 ≤ d := by omega
  cases hsg : signB d
  · by_cases h120 : d = 120
    · have HF := (show Hid (rdItem s i = rdHex s i) from (by show rdItem s i = _; rw [HE.out, if_neg h110, if_neg h114, if_neg h116, if_pos h120]))
      have e120 : (d == 120) = true := beq_iff_eq.2 h120
      clear HE h110 h114 h116 h120
      by_cases h : i + 3 < s.size
      · have h2 : i + 2 < s.size := by omega
        have hb1 := hexV_bd (s[i + 2].toNat : Int)
        have hb2 := hexV_bd (s[i + 3].toNat : Int)
        have HE : Hid (rdHex s i = if 0 ≤ hexV (s[i + 2].toNat : Int) ∧ 0 ≤ hexV (s[i + 3].toNat : Int) then some ((16 * hexV (s[i + 2].toNat : Int) + hexV (s[i + 3].toNat : Int)).toNat, i + 4) else none) := (by show rdHex s i = _; unfold rdHex; rw [chr_in h2, chr_in h])
        have HI : Hid (∀ w, Calls Tryd.prog 74 #[.int .u8 (s[i + 2].toNat : Int)] w fun e w' => e = .returned (.int .i64 (hexV (s[i + 2].toNat : Int))) ∧ w' = w) := fun w => hexDigit_any _ w
        have HJ : Hid (∀ w, Calls Tryd.prog 74 #[.int .u8 (s[i + 3].toNat : Int)] w fun e w' => e = .returned (.int .i64 (hexV (s[i + 3].toNat : Int))) ∧ w' = w) := fun w => hexDigit_any _ w
        have hi0 : (0 : Int) ≤ (i : Int) := by omega
        have hi3 : (i : Int) + 3 < (s.size : Int) := by omega
        have hi2 : (i : Int) + 2 < (s.size : Int) := by omega
        generalize hexV (s[i + 2].toNat : Int) = x at *
        generalize hexV (s[i + 3].toNat : Int) = y at *
        by_cases hx : 0 ≤ x
        · by_cases hy : 0 ≤ y
          · have HG := (show Hid (rdItem s i = some ((16 * x + y).toNat, i + 4)) from (by show rdItem s i = _; rw [HF.out, HE.out, if_pos ⟨hx, hy⟩]))
            clear HE HF
            go_enter Tryd.func59, Tryd.ntmps59
            go_wp2_with fail
            refine (HX.out _).mono ?_
            rintro e w' ⟨rfl, rfl⟩
            go_wp2_with fail
            refine (HY.out _).mono ?_
            rintro e w' ⟨rfl, rfl⟩
            go_wp2_with fail
            refine (special_any _ _).mono ?_
            rintro e w' ⟨rfl, rfl⟩
            go_wp2_with fail
            refine (HI.out _).mono ?_
            rintro e w' ⟨rfl, rfl⟩
            go_wp2_with fail
            refine (HJ.out _).mono ?_
            rintro e w' ⟨rfl, rfl⟩
            go_wp2_with fail
            have q1 : IntKind.i64.wrap (x * 16) = x * 16 := by rw [IntKind.wrap_i64]; omega
            have q2 : IntKind.i64.wrap (x * 16 + y) = x * 16 + y := by rw [IntKind.wrap_i64]; omega
            have x2 := idx_str s (i + 2) h2
            have x3 := idx_str s (i + 3) h
            rw [show ((i + 2 : Nat) : Int) = (i : Int) + 2 from by omega] at x2
            rw [show ((i + 3 : Nat) : Int) = (i : Int) + 3 from by omega] at x3
            have z2 : (0 : Int) ≤ (i : Int) + 2 := by omega
            have z3 : (0 : Int) ≤ (i : Int) + 3 := by omega
            have v2 : IntKind.i64.wrap ((i : Int) + 2) = (i : Int) + 2 := by rw [IntKind.wrap_i64]; omega
            have v3 : IntKind.i64.wrap ((i : Int) + 3) = (i : Int) + 3 := by rw [IntKind.wrap_i64]; omega
            have v4 : IntKind.i64.wrap ((i : Int) + 4) = (i : Int) + 4 := by rw [IntKind.wrap_i64]; omega
            go_region_held3 (fun _ => True) (trivial) (first | (go_at_call 74; with_reducible refine (HI.out _).mono ?_; rintro e w' ⟨rfl, rfl⟩) | (go_at_call 74; with_reducible refine (HJ.out _).mono ?_; rintro e w' ⟨rfl, rfl⟩))
            all_goals
              go_wp2
              go_ret2
              exact ⟨by rw [HG.out]; exact ret_ir (by omega) (by omega), (Below.refl _ _).drew⟩
          · have HG := (show Hid (rdItem s i = none) from (by show rdItem s i = _; rw [HF.out, HE.out, if_neg (fun q => hy q.2)]))
            clear HE HF
            go_enter Tryd.func59, Tryd.ntmps59
            go_wp2_with fail
            refine (HX.out _).mono ?_
            rintro e w' ⟨rfl, rfl⟩
            go_wp2_with fail
            refine (HY.out _).mono ?_
            rintro e w' ⟨rfl, rfl⟩
            go_wp2_with fail
            refine (special_any _ _).mono ?_
            rintro e w' ⟨rfl, rfl⟩
            go_wp2_with fail
            refine (HI.out _).mono ?_
            rintro e w' ⟨rfl, rfl⟩
            go_wp2_with fail
            refine (HJ.out _).mono ?_
            rintro e w' ⟨rfl, rfl⟩
            go_wp2
            go_ret2
            exact ⟨by rw [HG.out]; rfl, Below.refl _ _⟩
        · have HG := (show Hid (rdItem s i = none) from (by show rdItem s i = _; rw [HF.out, HE.out, if_neg (fun q => hx q.1)]))
          clear HE HF
          go_enter Tryd.func59, Tryd.ntmps59
          go_wp2_with fail
          refine (HX.out _).mono ?_
          rintro e w' ⟨rfl, rfl⟩
          go_wp2_with fail
          refine (HY.out _).mono ?_
          rintro e w' ⟨rfl, rfl⟩
          go_wp2_with fail
          refine (special_any _ _).mono ?_
          rintro e w' ⟨rfl, rfl⟩
          go_wp2_with fail
          refine (HI.out _).mono ?_
          rintro e w' ⟨rfl, rfl⟩
          go_wp2
          go_ret2
          exact ⟨by rw [HG.out]; rfl, Below.refl _ _⟩
      · have HG := (show Hid (rdItem s i = none) from (by
          show rdItem s i = _
          rw [HF.out]
          unfold rdHex
          rw [chr_out h, if_neg (by rintro ⟨_, q⟩; simp [hexV] at q)]))
        have hi3 : ¬ (i : Int) + 3 < (s.size : Int) := by omega
        clear HF
        go_enter Tryd.func59, Tryd.ntmps59
        go_wp2_with fail
        refine (HX.out _).mono ?_
        rintro e w' ⟨rfl, rfl⟩
        go_wp2_with fail
        refine (HY.out _).mono ?_
        rintro e w' ⟨rfl, rfl⟩
        go_wp2_with fail
        refine (special_any _ _).mono ?_
        rintro e w' ⟨rfl, rfl⟩
        go_wp2
        go_ret2
        exact ⟨by rw [HG.out]; rfl, Below.refl _ _⟩
    · have e120 : (d == 120) = false := beq_eq_false_iff_ne.2 h120
      have HF := (show Hid (rdItem s i = none) from (by show rdItem s i = _; rw [HE.out, if_neg h110, if_neg h114, if_neg h116, if_neg h120, if_neg (by rw [hsg]; simp)]))
      clear HE h110 h114 h116 h120
      go_enter Tryd.func59, Tryd.ntmps59
      go_wp2_with fail
      refine (HX.out _).mono ?_
      rintro e w' ⟨rfl, rfl⟩
      go_wp2_with fail
      refine (HY.out _).mono ?_
      rintro e w' ⟨rfl, rfl⟩
      go_wp2_with fail
      refine (special_any _ _).mono ?_
      rintro e w' ⟨rfl, rfl⟩
      go_wp2
      go_ret2
      exact ⟨by rw [HF.out]; rfl, Below.refl _ _⟩
  · have h120 : ¬ d = 120 := fun h => by subst h; simp [signB] at hsg
    have HF := (show Hid (rdItem s i = some (d.toNat, i + 2)) from (by show rdItem s i = _; rw [HE.out, if_neg h110, if_neg h114, if_neg h116, if_neg h120, if_pos hsg]))
    clear HE h110 h114 h116 h120
    go_enter Tryd.func59, Tryd.ntmps59
    go_wp2_with fail
    refine (HX.out _).mono ?_
    rintro e w' ⟨rfl, rfl⟩
    go_wp2_with fail
    refine (HY.out _).mono ?_
    rintro e w' ⟨rfl, rfl⟩
    go_wp2_with fail
    refine (special_any _ _).mono ?_
    rintro e w' ⟨rfl, rfl⟩
    go_wp2
    go_ret2
    exact ⟨by rw [HF.out]; exact ret_ir (by omega) (by omega), Below.refl _ _⟩

theorem itemR_any (s : ByteArray) (i : Nat) (hi : i ≤ s.size) (hs : s.size ≤ 140737488355328) (w : World) :
    Calls Tryd.prog 59 #[.string s, .int .i64 i] w fun e w' => e = .returned (irV i (rdItem s i)) ∧ Below w.heap.size w w' := by
  by_cases h : chr s i = 92
  · exact itemR_esc s i (chr_lt (by rw [h]; omega)) hs h w
  · exact itemR_plain s i hi hs (bne_iff_ne.2 h) w
end Go.Proofs.YthffklhojdldkaaDoor

namespace Go.Proofs.YthffklhojdldkaaDoor
open Go.RowKit
theorem readR_any (s : ByteArray) (i : Int) (hs : s.size ≤ 140737488355328) (w : World) :
    Calls Tryd.prog 37 #[.string s, .int .i64 i] w fun e w' => e = .returned (rrV (rdRead s i)) ∧ Below w.heap.size w w' := by
  have HI : ItemR := fun s i hi hs w => itemR_any s i hi hs w
  by_cases h : i < 0 ∨ (s.size : Int) < i
  · exact readR_out s i h w
  · obtain ⟨n, rfl⟩ : ∃ n : Nat, i = n := ⟨i.toNat, by omega⟩
    have hn : n ≤ s.size := by omega
    by_cases h1 : chr s n = 91
    · have hlt : n < s.size := chr_lt (by rw [h1]; omega)
      cases h2 : (chr s (n + 1) == 94)
      · have e : rdRead s n = rdEnd (rdMembers s (s.size + 1) 0#256 (n + 1)) := by
          unfold rdRead
          rw [if_neg h, Int.toNat_natCast, if_pos h1, if_neg (beq_eq_false_iff_ne.1 h2)]
        rw [e]
        exact readR_plain HI s n hlt hs h1 h2 w
      · have hlt2 : n + 1 < s.size := chr_lt (by rw [beq_iff_eq.1 h2]; omega)
        have e : rdRead s n = rdTurn (rdMembers s (s.size + 1) 0#256 (n + 2)) := by
          unfold rdRead
          rw [if_neg h, Int.toNat_natCast, if_pos h1, if_pos (beq_iff_eq.1 h2)]
        rw [e]
        exact readR_turn HI s n hlt2 hs h1 h2 w
    · exact readR_none s n hn (bne_iff_ne.2 h1) w
end Go.Proofs.YthffklhojdldkaaDoor

namespace Go.Proofs.YthffklhojdldkaaDoor
open Go.RowKit
theorem rdMember_ne {s : ByteArray} {i a : Nat} {c : Int} (h : rdMember s i = .inr (a, c)) : c ≠ 0 := by
  unfold rdMember at h
  split at h
  · unfold rdClass at h
    split at h
    · cases h
    · cases h; decide
  · split at h
    · cases h; decide
    · split at h
      · split at h
        · cases h; decide
        · split at h
          · cases h; decide
          · cases h
      · cases h
theorem rdMembers_ne {s : ByteArray} : ∀ (f : Nat) (x : BitVec 256) (i a : Nat) (c : Int), rdMembers s f x i = .inr (a, c) → c ≠ 0 := by
  intro f
  induction f with
  | zero => intro x i a c h; rw [rdMembers] at h; cases h; decide
  | succ f ih =>
    intro x i a c h
    rw [rdMembers] at h
    split at h
    · cases h
    · split at h
      · next a2 c2 hm => cases h; exact rdMember_ne hm
      · exact ih _ _ _ _ h
theorem rdRead_ne {s : ByteArray} {i : Int} {a : Nat} {c : Int} (h : rdRead s i = .inr (a, c)) : c ≠ 0 := by
  unfold rdRead at h
  split at h
  · cases h; decide
  · split at h
    · split at h
      · cases hm : rdMembers s (s.size + 1) 0#256 (i.toNat + 2) with
        | inl p => rw [hm] at h; cases h
        | inr q => obtain ⟨a2, c2⟩ := q; rw [hm] at h; cases h; exact rdMembers_ne _ _ _ _ _ hm
      · cases hm : rdMembers s (s.size + 1) 0#256 (i.toNat + 1) with
        | inl p => rw [hm] at h; cases h
        | inr q => obtain ⟨a2, c2⟩ := q; rw [hm] at h; cases h; exact rdMembers_ne _ _ _ _ _ hm
    · cases h; decide
def clT (s : ByteArray) (b : Nat) : Rd (BitVec 256 × Nat) → Sum Tk (Nat × Int)
  | .inl p => .inl ⟨3, 0, b, p.2, ⟨#[]⟩, wd p.1 0, wd p.1 1, wd p.1 2, wd p.1 3⟩
  | .inr q => if q.2 = 6 ∧ q.1 = s.size then .inr (b, 52) else .inr q
def oneR (sg : Nat → Sum Tk (Nat × Int)) (s : ByteArray) (b : Nat) : Sum Tk (Nat × Int) :=
  if hdB (chr s b) = true then (if 32 < spN nmB s b - b then .inr (b, 2) else .inl ⟨1, 0, b, spN nmB s b, s.extract b (spN nmB s b), 0, 0, 0, 0⟩)
  else if dgB (chr s b) = true then (match numR s b 999999 with
    | .inr e => .inr (b, e)
    | .inl n => .inl ⟨4, n, b, spN dgB s b, ⟨#[]⟩, 0, 0, 0, 0⟩)
  else if chr s b = 39 ∨ chr s b = 34 then litR s b
  else if chr s b = 91 then clT s b (rdRead s b)
  else if chr s b = 37 then pctR s b
  else if chr s b = 94 then cntR s b
  else if chr s b = 123 ∧ chr s (b + 1) = 58 then grpR s b
  else sg b

set_option maxRecDepth 100000 in
set_option maxHeartbeats 16000000 in
theorem one_of (sg : Nat → Sum Tk (Nat × Int)) (s : ByteArray) (b : Nat) (hs : s.size ≤ 140737488355000) (hb : b < s.size)
    (HSg : ∀ w, Calls Tryd.prog 41 #[.string s, .int .i64 b] w fun e w' => e = .returned (tokV (sg b)) ∧ Below w.heap.size w w') (w : World) :
    Calls Tryd.prog 19 #[.string s, .int .i64 b] w fun e w' => e = .returned (tokV (oneR sg s b)) ∧ Below w.heap.size w w' := by
  have HWr : Hid (∀ i e w, Calls Tryd.prog 32 #[.int .i64 i, .int .i64 e] w fun e' w' => e' = .returned (.tuple #[tkG tk0, .int .i64 i, .int .i64 e]) ∧ Below w.heap.size w w') := fun i e w => wrong_any i e w
  have HA : Hid (∀ w, Calls Tryd.prog 29 #[.string s, .int .i64 (b : Int)] w fun e w' => e = .returned (.int .i64 (chr s b)) ∧ w' = w) := fun w => at_any s b w
  have HA1 : Hid (∀ w, Calls Tryd.prog 29 #[.string s, .int .i64 ((b : Int) + 1)] w fun e w' => e = .returned (.int .i64 (chr s (b + 1))) ∧ w' = w) := fun w => at_any s (b + 1) w
  have HH : Hid (∀ w, Calls Tryd.prog 30 #[.int .i64 (chr s b)] w fun e w' => e = .returned (.bool (hdB (chr s b))) ∧ w' = w) := fun w => head_any _ w
  have HD : Hid (∀ w, Calls Tryd.prog 33 #[.int .i64 (chr s b)] w fun e w' => e = .returned (.bool (dgB (chr s b))) ∧ w' = w) := fun w => digit_any _ w
  have HX := (show Hid (TX (w.alloc (tkO tk0)) w.heap.size tk0) from TX.new w tk0)
  have HB := (show Hid (Below w.heap.size w (w.alloc (tkO tk0))) from below_box w _)
  have HS := (show Hid (∀ w, Calls Tryd.prog 41 #[.string s, .int .i64 b] w fun e w' => e = .returned (tokV (sg b)) ∧ Below w.heap.size w w') from HSg)
  clear HSg
  cases hh : hdB (chr s b) with
  | true =>
    have HR : Hid (∀ w, Calls Tryd.prog 31 #[.string s, .int .i64 (b : Int)] w fun e w' => e = .returned (.int .i64 (spN nmB s b)) ∧ w' = w) := fun w => run_any s b (by omega) (by omega) w
    have hge := spN_ge nmB s (by decide) b
    have hle := spN_le nmB s (by decide) b (by omega)
    have HU : Hid (oneR sg s b = if 32 < spN nmB s b - b then .inr (b, 2) else .inl ⟨1, 0, b, spN nmB s b, s.extract b (spN nmB s b), 0, 0, 0, 0⟩) := by show oneR sg s b = _; unfold oneR; rw [if_pos hh]
    generalize spN nmB s b = n at *
    obtain ⟨m, hm⟩ : ∃ m, m = n - b := ⟨_, rfl⟩
    have u1 : IntKind.i64.wrap ((n : Int) - (b : Int)) = (m : Int) := by rw [IntKind.wrap_i64]; omega
    have z0 : (0 : Int) ≤ (b : Int) := by omega
    have z1 : (b : Int) ≤ (n : Int) := by omega
    have z2 : (n : Int) ≤ (s.size : Int) := by omega
    rw [← hm] at HU
    clear hm
    by_cases h32 : 32 < m
    · have HE : Hid (oneR sg s b = .inr (b, 2)) := by show oneR sg s b = _; rw [HU.out, if_pos h32]
      have t2 : decide (32 < m) = true := decide_eq_true h32
      clear HU HS HD HA1
      go_enter Tryd.func19, Tryd.ntmps19
      go_wp2_with fail
      refine (HA.out _).mono ?_
      rintro e w2 ⟨rfl, rfl⟩
      go_wp2_with fail
      refine (HH.out _).mono ?_
      rintro e w2 ⟨rfl, rfl⟩
      rw [hh]
      clear hh
      go_wp2_with fail
      refine (HR.out _).mono ?_
      rintro e w2 ⟨rfl, rfl⟩
      clear HR HH HA
      go_wp2_with fail
      refine (HWr.out _ _ _).mono ?_
      rintro e w3 ⟨rfl, b3⟩
      have HX3 := (show Hid (TX w3 w.heap.size tk0) from HX.out.below b3)
      have HB3 := (show Hid (Below w.heap.size w w3) from HB.out.trans (b3.mono HB.out.size))
      clear b3
      obtain ⟨c0, c1, c2, c3, c4, c5, c6, c7, c8⟩ := HX3.out.cells
      obtain ⟨f0, f1', f2', f3, f4, f5, f6, f7, f8⟩ := HX3.out.fz
      go_wp2_with fail
      exact ret_tok rfl rfl rfl rfl rfl (st9_tx HX3.out tk0) ⟨by rw [HE.out]; rfl, st9_below HB3.out (Nat.le_refl _) tk0⟩
    · have HE : Hid (oneR sg s b = .inl ⟨1, 0, b, n, s.extract b n, 0, 0, 0, 0⟩) := by show oneR sg s b = _; rw [HU.out, if_neg h32]
      have t2 : decide (32 < m) = false := decide_eq_false h32
      clear HU HS HD HA1 HWr
      go_enter Tryd.func19, Tryd.ntmps19
      go_wp2_with fail
      refine (HA.out _).mono ?_
      rintro e w2 ⟨rfl, rfl⟩
      go_wp2_with fail
      refine (HH.out _).mono ?_
      rintro e w2 ⟨rfl, rfl⟩
      rw [hh]
      clear hh
      go_wp2_with fail
      refine (HR.out _).mono ?_
      rintro e w2 ⟨rfl, rfl⟩
      clear HR HH HA
      go_wp2_with fail
      exact ret_tok (t := ⟨1, 0, b, n, s.extract b n, 0, 0, 0, 0⟩) rfl rfl rfl rfl rfl (TX.new w ⟨1, 0, b, n, s.extract b n, 0, 0, 0, 0⟩) ⟨by rw [HE.out]; rfl, below_box w _⟩
  | false =>
    have nh : ¬ hdB (chr s b) = true := by rw [hh]; simp
    cases hd : dgB (chr s b) with
    | true =>
      have HU : Hid (oneR sg s b = match numR s b 999999 with
        | .inr e => .inr (b, e)
        | .inl n => .inl ⟨4, n, b, spN dgB s b, ⟨#[]⟩, 0, 0, 0, 0⟩) := by show oneR sg s b = _; unfold oneR; rw [if_neg nh, if_pos hd]
      cases hq : numR s b 999999 with
      | inr e0 =>
        have HE : Hid (oneR sg s b = .inr (b, e0)) := by show oneR sg s b = _; rw [HU.out, hq]
        have hne : e0 ≠ 0 := numR_ne hq
        have t9 : (e0 != 0) = true := by rw [bne, beq_eq_false_iff_ne.2 hne]; rfl
        have HNu := (show Hid (∀ w, Calls Tryd.prog 34 #[.string s, .int .i64 b, .int .i64 b, .int .i64 999999] w fun e w' => e = .returned (.tuple #[.int .i64 0, .int .i64 e0]) ∧ w' = w) from fun w => by
          have h := number_any s b b 999999 (by omega) (by omega) w
          rw [hq] at h
          exact h)
        clear hq hne HU HS HA1 nh
        go_enter Tryd.func19, Tryd.ntmps19
        go_wp2_with fail
        refine (HA.out _).mono ?_
        rintro e w2 ⟨rfl, rfl⟩
        go_wp2_with fail
        refine (HH.out _).mono ?_
        rintro e w2 ⟨rfl, rfl⟩
        rw [hh]
        go_wp2_with fail
        refine (HD.out _).mono ?_
        rintro e w2 ⟨rfl, rfl⟩
        rw [hd]
        clear hh hd
        go_wp2_with fail
        refine (HNu.out _).mono ?_
        rintro e w2 ⟨rfl, rfl⟩
        clear HNu HH HA HD
        go_wp2_with fail
        refine (HWr.out _ _ _).mono ?_
        rintro e w3 ⟨rfl, b3⟩
        have HX3 := (show Hid (TX w3 w.heap.size tk0) from HX.out.below b3)
        have HB3 := (show Hid (Below w.heap.size w w3) from HB.out.trans (b3.mono HB.out.size))
        clear b3
        obtain ⟨c0, c1, c2, c3, c4, c5, c6, c7, c8⟩ := HX3.out.cells
        obtain ⟨f0, f1', f2', f3, f4, f5, f6, f7, f8⟩ := HX3.out.fz
        go_wp2_with fail
        exact ret_tok rfl rfl rfl rfl rfl (st9_tx HX3.out tk0) ⟨by rw [HE.out]; rfl, st9_below HB3.out (Nat.le_refl _) tk0⟩
      | inl n0 =>
        have HE : Hid (oneR sg s b = .inl ⟨4, n0, b, spN dgB s b, ⟨#[]⟩, 0, 0, 0, 0⟩) := by show oneR sg s b = _; rw [HU.out, hq]
        have HNu := (show Hid (∀ w, Calls Tryd.prog 34 #[.string s, .int .i64 b, .int .i64 b, .int .i64 999999] w fun e w' => e = .returned (.tuple #[.int .i64 n0, .int .i64 0]) ∧ w' = w) from fun w => by
          have h := number_any s b b 999999 (by omega) (by omega) w
          rw [hq] at h
          exact h)
        have HDg := (show Hid (∀ w, Calls Tryd.prog 35 #[.string s, .int .i64 (b : Int)] w fun e w' => e = .returned (.int .i64 (spN dgB s b)) ∧ w' = w) from fun w => digits_any s b (by omega) (by omega) w)
        clear hq HU HS HA1 nh HWr
        go_enter Tryd.func19, Tryd.ntmps19
        go_wp2_with fail
        refine (HA.out _).mono ?_
        rintro e w2 ⟨rfl, rfl⟩
        go_wp2_with fail
        refine (HH.out _).mono ?_
        rintro e w2 ⟨rfl, rfl⟩
        rw [hh]
        go_wp2_with fail
        refine (HD.out _).mono ?_
        rintro e w2 ⟨rfl, rfl⟩
        rw [hd]
        clear hh hd
        go_wp2_with fail
        refine (HNu.out _).mono ?_
        rintro e w2 ⟨rfl, rfl⟩
        clear HNu HH HA HD
        go_wp2_with fail
        refine (HDg.out _).mono ?_
        rintro e w2 ⟨rfl, rfl⟩
        clear HDg
        go_wp2_with fail
        exact ret_tok (t := ⟨4, n0, b, spN dgB s b, ⟨#[]⟩, 0, 0, 0, 0⟩) rfl rfl rfl rfl rfl (TX.new w ⟨4, n0, b, spN dgB s b, ⟨#[]⟩, 0, 0, 0, 0⟩) ⟨by rw [HE.out]; rfl, below_box w _⟩
    | false =>
      have nd : ¬ dgB (chr s b) = true := by rw [hd]; simp
      by_cases hq : chr s b = 39 ∨ chr s b = 34
      · by_cases h39 : chr s b = 39
        · have t1 : (chr s b == 39) = true := by rw [h39]; rfl
          have HU : Hid (oneR sg s b = litR s b) := by show oneR sg s b = _; unfold oneR; rw [if_neg nh, if_neg nd, if_pos hq]
          have HP : Hid (∀ w, Calls Tryd.prog 36 #[.string s, .int .i64 b] w fun e w' => e = .returned (tokV (litR s b)) ∧ Below w.heap.size w w') := fun w => literal_any s b hs hb w
          clear hq h39 nh nd
          cases hp : litR s b with
          | inl t =>
            rw [hp] at HU HP
            go_enter Tryd.func19, Tryd.ntmps19
            go_wp2_with fail
            refine (HA.out _).mono ?_
            rintro e w2 ⟨rfl, rfl⟩
            go_wp2_with fail
            refine (HH.out _).mono ?_
            rintro e w2 ⟨rfl, rfl⟩
            rw [hh]
            go_wp2_with fail
            refine (HD.out _).mono ?_
            rintro e w2 ⟨rfl, rfl⟩
            rw [hd]
            clear hh hd
            go_wp2_with fail
            refine (HP.out _).mono ?_
            rintro e w3 ⟨rfl, b3⟩
            have HX3 := (show Hid (TX w3 w.heap.size tk0) from HX.out.below b3)
            have HB3 := (show Hid (Below w.heap.size w w3) from HB.out.trans (b3.mono HB.out.size))
            clear b3
            obtain ⟨c0, c1, c2, c3, c4, c5, c6, c7, c8⟩ := HX3.out.cells
            obtain ⟨f0, f1', f2', f3, f4, f5, f6, f7, f8⟩ := HX3.out.fz
            unfold tokV
            go_wp2_with fail
            exact ret_tok rfl rfl rfl rfl rfl (st9_tx HX3.out t) ⟨by rw [HU.out]; rfl, st9_below HB3.out (Nat.le_refl _) t⟩
          | inr q =>
            rw [hp] at HU HP
            go_enter Tryd.func19, Tryd.ntmps19
            go_wp2_with fail
            refine (HA.out _).mono ?_
            rintro e w2 ⟨rfl, rfl⟩
            go_wp2_with fail
            refine (HH.out _).mono ?_
            rintro e w2 ⟨rfl, rfl⟩
            rw [hh]
            go_wp2_with fail
            refine (HD.out _).mono ?_
            rintro e w2 ⟨rfl, rfl⟩
            rw [hd]
            clear hh hd
            go_wp2_with fail
            refine (HP.out _).mono ?_
            rintro e w3 ⟨rfl, b3⟩
            have HX3 := (show Hid (TX w3 w.heap.size tk0) from HX.out.below b3)
            have HB3 := (show Hid (Below w.heap.size w w3) from HB.out.trans (b3.mono HB.out.size))
            clear b3
            obtain ⟨c0, c1, c2, c3, c4, c5, c6, c7, c8⟩ := HX3.out.cells
            obtain ⟨f0, f1', f2', f3, f4, f5, f6, f7, f8⟩ := HX3.out.fz
            unfold tokV
            go_wp2_with fail
            exact ret_tok rfl rfl rfl rfl rfl (st9_tx HX3.out tk0) ⟨by rw [HU.out]; rfl, st9_below HB3.out (Nat.le_refl _) tk0⟩
        · have t1 : (chr s b == 39) = false := beq_eq_false_iff_ne.2 h39
          have t2 : (chr s b == 34) = true := beq_iff_eq.2 (hq.resolve_left h39)
          have HU : Hid (oneR sg s b = litR s b) := by show oneR sg s b = _; unfold oneR; rw [if_neg nh, if_neg nd, if_pos hq]
          have HP : Hid (∀ w, Calls Tryd.prog 36 #[.string s, .int .i64 b] w fun e w' => e = .returned (tokV (litR s b)) ∧ Below w.heap.size w w') := fun w => literal_any s b hs hb w
          clear hq h39 nh nd
          cases hp : litR s b with
          | inl t =>
            rw [hp] at HU HP
            go_enter Tryd.func19, Tryd.ntmps19
            go_wp2_with fail
            refine (HA.out _).mono ?_
            rintro e w2 ⟨rfl, rfl⟩
            go_wp2_with fail
            refine (HH.out _).mono ?_
            rintro e w2 ⟨rfl, rfl⟩
            rw [hh]
            go_wp2_with fail
            refine (HD.out _).mono ?_
            rintro e w2 ⟨rfl, rfl⟩
            rw [hd]
            clear hh hd
            go_wp2_with fail
            refine (HP.out _).mono ?_
            rintro e w3 ⟨rfl, b3⟩
            have HX3 := (show Hid (TX w3 w.heap.size tk0) from HX.out.below b3)
            have HB3 := (show Hid (Below w.heap.size w w3) from HB.out.trans (b3.mono HB.out.size))
            clear b3
            obtain ⟨c0, c1, c2, c3, c4, c5, c6, c7, c8⟩ := HX3.out.cells
            obtain ⟨f0, f1', f2', f3, f4, f5, f6, f7, f8⟩ := HX3.out.fz
            unfold tokV
            go_wp2_with fail
            exact ret_tok rfl rfl rfl rfl rfl (st9_tx HX3.out t) ⟨by rw [HU.out]; rfl, st9_below HB3.out (Nat.le_refl _) t⟩
          | inr q =>
            rw [hp] at HU HP
            go_enter Tryd.func19, Tryd.ntmps19
            go_wp2_with fail
            refine (HA.out _).mono ?_
            rintro e w2 ⟨rfl, rfl⟩
            go_wp2_with fail
            refine (HH.out _).mono ?_
            rintro e w2 ⟨rfl, rfl⟩
            rw [hh]
            go_wp2_with fail
            refine (HD.out _).mono ?_
            rintro e w2 ⟨rfl, rfl⟩
            rw [hd]
            clear hh hd
            go_wp2_with fail
            refine (HP.out _).mono ?_
            rintro e w3 ⟨rfl, b3⟩
            have HX3 := (show Hid (TX w3 w.heap.size tk0) from HX.out.below b3)
            have HB3 := (show Hid (Below w.heap.size w w3) from HB.out.trans (b3.mono HB.out.size))
            clear b3
            obtain ⟨c0, c1, c2, c3, c4, c5, c6, c7, c8⟩ := HX3.out.cells
            obtain ⟨f0, f1', f2', f3, f4, f5, f6, f7, f8⟩ := HX3.out.fz
            unfold tokV
            go_wp2_with fail
            exact ret_tok rfl rfl rfl rfl rfl (st9_tx HX3.out tk0) ⟨by rw [HU.out]; rfl, st9_below HB3.out (Nat.le_refl _) tk0⟩
      have t1 : (chr s b == 39) = false := beq_eq_false_iff_ne.2 (by omega)
      have t2 : (chr s b == 34) = false := beq_eq_false_iff_ne.2 (by omega)
      by_cases h91 : chr s b = 91
      · have t3 : (chr s b == 91) = true := by rw [h91]; rfl
        have HU : Hid (oneR sg s b = clT s b (rdRead s b)) := by show oneR sg s b = _; unfold oneR; rw [if_neg nh, if_neg nd, if_neg hq, if_pos h91]
        have HP : Hid (∀ w, Calls Tryd.prog 37 #[.string s, .int .i64 b] w fun e w' => e = .returned (rrV (rdRead s b)) ∧ Below w.heap.size w w') := fun w => readR_any s b (by omega) w
        clear hq h91 nh nd HS
        cases hp : rdRead s b with
        | inl p =>
          obtain ⟨x, en⟩ := p
          rw [hp] at HU HP
          have HE : Hid (oneR sg s b = .inl ⟨3, 0, b, en, ⟨#[]⟩, wd x 0, wd x 1, wd x 2, wd x 3⟩) := HU.out
          clear hp HU HWr
          go_enter Tryd.func19, Tryd.ntmps19
          go_wp2_with fail
          refine (HA.out _).mono ?_
          rintro e w2 ⟨rfl, rfl⟩
          go_wp2_with fail
          refine (HH.out _).mono ?_
          rintro e w2 ⟨rfl, rfl⟩
          rw [hh]
          go_wp2_with fail
          refine (HD.out _).mono ?_
          rintro e w2 ⟨rfl, rfl⟩
          rw [hd]
          clear hh hd HH HD HA HA1
          go_wp2_with fail
          refine (HP.out _).mono ?_
          rintro e w3 ⟨rfl, b3⟩
          have HX3 := (show Hid (TX w3 w.heap.size tk0) from HX.out.below b3)
          have HB3 := (show Hid (Below w.heap.size w w3) from HB.out.trans (b3.mono HB.out.size))
          clear b3
          unfold rrV
          have hlt3 := HX3.out.lt
          have hle3 : w.heap.size ≠ w3.heap.size := by omega
          obtain ⟨c0, c1, c2, c3, c4, c5, c6, c7, c8⟩ := HX3.out.cells
          obtain ⟨f0, f1', f2', f3, f4, f5, f6, f7, f8⟩ := HX3.out.fz
          go_wp2_with fail
          exact ret_tok (t := ⟨3, 0, b, en, ⟨#[]⟩, wd x 0, wd x 1, wd x 2, wd x 3⟩) (p := 0) (e := 0) rfl rfl rfl rfl rfl ((st9_tx HX3.out ⟨3, 0, b, en, ⟨#[]⟩, wd x 0, wd x 1, wd x 2, wd x 3⟩).below (below_box _ _)) ⟨by rw [HE.out]; rfl, (st9_below HB3.out (Nat.le_refl _) ⟨3, 0, b, en, ⟨#[]⟩, wd x 0, wd x 1, wd x 2, wd x 3⟩).alloc (st9_below HB3.out (Nat.le_refl _) ⟨3, 0, b, en, ⟨#[]⟩, wd x 0, wd x 1, wd x 2, wd x 3⟩).size _⟩
        | inr q =>
          obtain ⟨pl, ec⟩ := q
          rw [hp] at HU HP
          have hec : ec ≠ 0 := rdRead_ne hp
          by_cases hq6 : ec = 6 ∧ pl = s.size
          · have HE : Hid (oneR sg s b = .inr (b, 52)) := by show oneR sg s b = _; rw [HU.out]; show (if ec = 6 ∧ pl = s.size then _ else _) = _; rw [if_pos hq6]
            have v1 : (ec == 6) = true := by rw [hq6.1]; rfl
            have v2 : ((pl : Int) == (s.size : Int)) = true := by rw [hq6.2]; simp
            clear hp HU hq6
            go_enter Tryd.func19, Tryd.ntmps19
            go_wp2_with fail
            refine (HA.out _).mono ?_
            rintro e w2 ⟨rfl, rfl⟩
            go_wp2_with fail
            refine (HH.out _).mono ?_
            rintro e w2 ⟨rfl, rfl⟩
            rw [hh]
            go_wp2_with fail
            refine (HD.out _).mono ?_
            rintro e w2 ⟨rfl, rfl⟩
            rw [hd]
            clear hh hd HH HD HA HA1
            go_wp2_with fail
            refine (HP.out _).mono ?_
            rintro e w3 ⟨rfl, b3⟩
            have HX3 := (show Hid (TX w3 w.heap.size tk0) from HX.out.below b3)
            have HB3 := (show Hid (Below w.heap.size w w3) from HB.out.trans (b3.mono HB.out.size))
            clear b3
            unfold rrV
            go_wp2_with fail
            refine (HWr.out _ _ _).mono ?_
            rintro e w4 ⟨rfl, b4⟩
            have HX4 := (show Hid (TX w4 w.heap.size tk0) from HX3.out.below ((below_box _ _).trans (b4.mono (below_box _ _).size)))
            have HB4 := (show Hid (Below w.heap.size w w4) from HB3.out.trans (((below_box _ _).trans (b4.mono (below_box _ _).size)).mono HB3.out.size))
            clear b4
            obtain ⟨c0, c1, c2, c3, c4, c5, c6, c7, c8⟩ := HX4.out.cells
            obtain ⟨f0, f1', f2', f3, f4, f5, f6, f7, f8⟩ := HX4.out.fz
            go_wp2_with fail
            exact ret_tok rfl rfl rfl rfl rfl (st9_tx HX4.out tk0) ⟨by rw [HE.out]; rfl, st9_below HB4.out (Nat.le_refl _) tk0⟩
          · have HE : Hid (oneR sg s b = .inr (pl, ec)) := by show oneR sg s b = _; rw [HU.out]; show (if ec = 6 ∧ pl = s.size then _ else _) = _; rw [if_neg hq6]
            have v3 : (ec != 0) = true := by rw [bne, beq_eq_false_iff_ne.2 hec]; rfl
            by_cases h6 : ec = 6
            · have v1 : (ec == 6) = true := by rw [h6]; rfl
              have v2 : ((pl : Int) == (s.size : Int)) = false := by rw [beq_eq_false_iff_ne]; intro q; exact hq6 ⟨h6, by omega⟩
              clear hp HU hq6 h6 hec
              go_enter Tryd.func19, Tryd.ntmps19
              go_wp2_with fail
              refine (HA.out _).mono ?_
              rintro e w2 ⟨rfl, rfl⟩
              go_wp2_with fail
              refine (HH.out _).mono ?_
              rintro e w2 ⟨rfl, rfl⟩
              rw [hh]
              go_wp2_with fail
              refine (HD.out _).mono ?_
              rintro e w2 ⟨rfl, rfl⟩
              rw [hd]
              clear hh hd HH HD HA HA1
              go_wp2_with fail
              refine (HP.out _).mono ?_
              rintro e w3 ⟨rfl, b3⟩
              have HX3 := (show Hid (TX w3 w.heap.size tk0) from HX.out.below b3)
              have HB3 := (show Hid (Below w.heap.size w w3) from HB.out.trans (b3.mono HB.out.size))
              clear b3
              unfold rrV
              go_wp2_with fail
              refine (HWr.out _ _ _).mono ?_
              rintro e w4 ⟨rfl, b4⟩
              have HX4 := (show Hid (TX w4 w.heap.size tk0) from HX3.out.below ((below_box _ _).trans (b4.mono (below_box _ _).size)))
              have HB4 := (show Hid (Below w.heap.size w w4) from HB3.out.trans (((below_box _ _).trans (b4.mono (below_box _ _).size)).mono HB3.out.size))
              clear b4
              obtain ⟨c0, c1, c2, c3, c4, c5, c6, c7, c8⟩ := HX4.out.cells
              obtain ⟨f0, f1', f2', f3, f4, f5, f6, f7, f8⟩ := HX4.out.fz
              go_wp2_with fail
              exact ret_tok rfl rfl rfl rfl rfl (st9_tx HX4.out tk0) ⟨by rw [HE.out]; rfl, st9_below HB4.out (Nat.le_refl _) tk0⟩
            · have v1 : (ec == 6) = false := beq_eq_false_iff_ne.2 h6
              clear hp HU hq6 h6 hec
              go_enter Tryd.func19, Tryd.ntmps19
              go_wp2_with fail
              refine (HA.out _).mono ?_
              rintro e w2 ⟨rfl, rfl⟩
              go_wp2_with fail
              refine (HH.out _).mono ?_
              rintro e w2 ⟨rfl, rfl⟩
              rw [hh]
              go_wp2_with fail
              refine (HD.out _).mono ?_
              rintro e w2 ⟨rfl, rfl⟩
              rw [hd]
              clear hh hd HH HD HA HA1
              go_wp2_with fail
              refine (HP.out _).mono ?_
              rintro e w3 ⟨rfl, b3⟩
              have HX3 := (show Hid (TX w3 w.heap.size tk0) from HX.out.below b3)
              have HB3 := (show Hid (Below w.heap.size w w3) from HB.out.trans (b3.mono HB.out.size))
              clear b3
              unfold rrV
              go_wp2_with fail
              refine (HWr.out _ _ _).mono ?_
              rintro e w4 ⟨rfl, b4⟩
              have HX4 := (show Hid (TX w4 w.heap.size tk0) from HX3.out.below ((below_box _ _).trans (b4.mono (below_box _ _).size)))
              have HB4 := (show Hid (Below w.heap.size w w4) from HB3.out.trans (((below_box _ _).trans (b4.mono (below_box _ _).size)).mono HB3.out.size))
              clear b4
              obtain ⟨c0, c1, c2, c3, c4, c5, c6, c7, c8⟩ := HX4.out.cells
              obtain ⟨f0, f1', f2', f3, f4, f5, f6, f7, f8⟩ := HX4.out.fz
              go_wp2_with fail
              exact ret_tok rfl rfl rfl rfl rfl (st9_tx HX4.out tk0) ⟨by rw [HE.out]; rfl, st9_below HB4.out (Nat.le_refl _) tk0⟩
      have t3 : (chr s b == 91) = false := beq_eq_false_iff_ne.2 h91
      by_cases h37 : chr s b = 37
      · have t4 : (chr s b == 37) = true := by rw [h37]; rfl
        have HU : Hid (oneR sg s b = pctR s b) := by show oneR sg s b = _; unfold oneR; rw [if_neg nh, if_neg nd, if_neg hq, if_neg h91, if_pos h37]
        have HP : Hid (∀ w, Calls Tryd.prog 38 #[.string s, .int .i64 b] w fun e w' => e = .returned (tokV (pctR s b)) ∧ Below w.heap.size w w') := fun w => percent_any s b hs hb w
        clear hq h91 h37 nh nd
        cases hp : pctR s b with
        | inl t =>
          rw [hp] at HU HP
          go_enter Tryd.func19, Tryd.ntmps19
          go_wp2_with fail
          refine (HA.out _).mono ?_
          rintro e w2 ⟨rfl, rfl⟩
          go_wp2_with fail
          refine (HH.out _).mono ?_
          rintro e w2 ⟨rfl, rfl⟩
          rw [hh]
          go_wp2_with fail
          refine (HD.out _).mono ?_
          rintro e w2 ⟨rfl, rfl⟩
          rw [hd]
          clear hh hd
          go_wp2_with fail
          refine (HP.out _).mono ?_
          rintro e w3 ⟨rfl, b3⟩
          have HX3 := (show Hid (TX w3 w.heap.size tk0) from HX.out.below b3)
          have HB3 := (show Hid (Below w.heap.size w w3) from HB.out.trans (b3.mono HB.out.size))
          clear b3
          obtain ⟨c0, c1, c2, c3, c4, c5, c6, c7, c8⟩ := HX3.out.cells
          obtain ⟨f0, f1', f2', f3, f4, f5, f6, f7, f8⟩ := HX3.out.fz
          unfold tokV
          go_wp2_with fail
          exact ret_tok rfl rfl rfl rfl rfl (st9_tx HX3.out t) ⟨by rw [HU.out]; rfl, st9_below HB3.out (Nat.le_refl _) t⟩
        | inr q =>
          rw [hp] at HU HP
          go_enter Tryd.func19, Tryd.ntmps19
          go_wp2_with fail
          refine (HA.out _).mono ?_
          rintro e w2 ⟨rfl, rfl⟩
          go_wp2_with fail
          refine (HH.out _).mono ?_
          rintro e w2 ⟨rfl, rfl⟩
          rw [hh]
          go_wp2_with fail
          refine (HD.out _).mono ?_
          rintro e w2 ⟨rfl, rfl⟩
          rw [hd]
          clear hh hd
          go_wp2_with fail
          refine (HP.out _).mono ?_
          rintro e w3 ⟨rfl, b3⟩
          have HX3 := (show Hid (TX w3 w.heap.size tk0) from HX.out.below b3)
          have HB3 := (show Hid (Below w.heap.size w w3) from HB.out.trans (b3.mono HB.out.size))
          clear b3
          obtain ⟨c0, c1, c2, c3, c4, c5, c6, c7, c8⟩ := HX3.out.cells
          obtain ⟨f0, f1', f2', f3, f4, f5, f6, f7, f8⟩ := HX3.out.fz
          unfold tokV
          go_wp2_with fail
          exact ret_tok rfl rfl rfl rfl rfl (st9_tx HX3.out tk0) ⟨by rw [HU.out]; rfl, st9_below HB3.out (Nat.le_refl _) tk0⟩
      have t4 : (chr s b == 37) = false := beq_eq_false_iff_ne.2 h37
      by_cases h94 : chr s b = 94
      · have t5 : (chr s b == 94) = true := by rw [h94]; rfl
        have HU : Hid (oneR sg s b = cntR s b) := by show oneR sg s b = _; unfold oneR; rw [if_neg nh, if_neg nd, if_neg hq, if_neg h91, if_neg h37, if_pos h94]
        have HP : Hid (∀ w, Calls Tryd.prog 39 #[.string s, .int .i64 b] w fun e w' => e = .returned (tokV (cntR s b)) ∧ Below w.heap.size w w') := fun w => count_any s b (by omega) hb w
        clear hq h91 h37 h94 nh nd
        cases hp : cntR s b with
        | inl t =>
          rw [hp] at HU HP
          go_enter Tryd.func19, Tryd.ntmps19
          go_wp2_with fail
          refine (HA.out _).mono ?_
          rintro e w2 ⟨rfl, rfl⟩
          go_wp2_with fail
          refine (HH.out _).mono ?_
          rintro e w2 ⟨rfl, rfl⟩
          rw [hh]
          go_wp2_with fail
          refine (HD.out _).mono ?_
          rintro e w2 ⟨rfl, rfl⟩
          rw [hd]
          clear hh hd
          go_wp2_with fail
          refine (HP.out _).mono ?_
          rintro e w3 ⟨rfl, b3⟩
          have HX3 := (show Hid (TX w3 w.heap.size tk0) from HX.out.below b3)
          have HB3 := (show Hid (Below w.heap.size w w3) from HB.out.trans (b3.mono HB.out.size))
          clear b3
          obtain ⟨c0, c1, c2, c3, c4, c5, c6, c7, c8⟩ := HX3.out.cells
          obtain ⟨f0, f1', f2', f3, f4, f5, f6, f7, f8⟩ := HX3.out.fz
          unfold tokV
          go_wp2_with fail
          exact ret_tok rfl rfl rfl rfl rfl (st9_tx HX3.out t) ⟨by rw [HU.out]; rfl, st9_below HB3.out (Nat.le_refl _) t⟩
        | inr q =>
          rw [hp] at HU HP
          go_enter Tryd.func19, Tryd.ntmps19
          go_wp2_with fail
          refine (HA.out _).mono ?_
          rintro e w2 ⟨rfl, rfl⟩
          go_wp2_with fail
          refine (HH.out _).mono ?_
          rintro e w2 ⟨rfl, rfl⟩
          rw [hh]
          go_wp2_with fail
          refine (HD.out _).mono ?_
          rintro e w2 ⟨rfl, rfl⟩
          rw [hd]
          clear hh hd
          go_wp2_with fail
          refine (HP.out _).mono ?_
          rintro e w3 ⟨rfl, b3⟩
          have HX3 := (show Hid (TX w3 w.heap.size tk0) from HX.out.below b3)
          have HB3 := (show Hid (Below w.heap.size w w3) from HB.out.trans (b3.mono HB.out.size))
          clear b3
          obtain ⟨c0, c1, c2, c3, c4, c5, c6, c7, c8⟩ := HX3.out.cells
          obtain ⟨f0, f1', f2', f3, f4, f5, f6, f7, f8⟩ := HX3.out.fz
          unfold tokV
          go_wp2_with fail
          exact ret_tok rfl rfl rfl rfl rfl (st9_tx HX3.out tk0) ⟨by rw [HU.out]; rfl, st9_below HB3.out (Nat.le_refl _) tk0⟩
      have t5 : (chr s b == 94) = false := beq_eq_false_iff_ne.2 h94
      by_cases hg : chr s b = 123 ∧ chr s (b + 1) = 58
      · have t6 : (chr s b == 123) = true := by rw [hg.1]; rfl
        have t7 : (chr s (b + 1) == 58) = true := by rw [hg.2]; rfl
        have hb1 : b + 1 < s.size := chr_lt (by omega)
        have HU : Hid (oneR sg s b = grpR s b) := by show oneR sg s b = _; unfold oneR; rw [if_neg nh, if_neg nd, if_neg hq, if_neg h91, if_neg h37, if_neg h94, if_pos hg]
        have HP : Hid (∀ w, Calls Tryd.prog 40 #[.string s, .int .i64 b] w fun e w' => e = .returned (tokV (grpR s b)) ∧ Below w.heap.size w w') := fun w => group_any s b hs hb1 w
        clear hq h91 h37 h94 hg nh nd
        cases hp : grpR s b with
        | inl t =>
          rw [hp] at HU HP
          go_enter Tryd.func19, Tryd.ntmps19
          go_wp2_with fail
          refine (HA.out _).mono ?_
          rintro e w2 ⟨rfl, rfl⟩
          go_wp2_with fail
          refine (HH.out _).mono ?_
          rintro e w2 ⟨rfl, rfl⟩
          rw [hh]
          go_wp2_with fail
          refine (HD.out _).mono ?_
          rintro e w2 ⟨rfl, rfl⟩
          rw [hd]
          clear hh hd
          go_wp2_with fail
          refine (HA1.out _).mono ?_
          rintro e w2 ⟨rfl, rfl⟩
          go_wp2_with fail
          refine (HP.out _).mono ?_
          rintro e w3 ⟨rfl, b3⟩
          have HX3 := (show Hid (TX w3 w.heap.size tk0) from HX.out.below b3)
          have HB3 := (show Hid (Below w.heap.size w w3) from HB.out.trans (b3.mono HB.out.size))
          clear b3
          obtain ⟨c0, c1, c2, c3, c4, c5, c6, c7, c8⟩ := HX3.out.cells
          obtain ⟨f0, f1', f2', f3, f4, f5, f6, f7, f8⟩ := HX3.out.fz
          unfold tokV
          go_wp2_with fail
          exact ret_tok rfl rfl rfl rfl rfl (st9_tx HX3.out t) ⟨by rw [HU.out]; rfl, st9_below HB3.out (Nat.le_refl _) t⟩
        | inr q =>
          rw [hp] at HU HP
          go_enter Tryd.func19, Tryd.ntmps19
          go_wp2_with fail
          refine (HA.out _).mono ?_
          rintro e w2 ⟨rfl, rfl⟩
          go_wp2_with fail
          refine (HH.out _).mono ?_
          rintro e w2 ⟨rfl, rfl⟩
          rw [hh]
          go_wp2_with fail
          refine (HD.out _).mono ?_
          rintro e w2 ⟨rfl, rfl⟩
          rw [hd]
          clear hh hd
          go_wp2_with fail
          refine (HA1.out _).mono ?_
          rintro e w2 ⟨rfl, rfl⟩
          go_wp2_with fail
          refine (HP.out _).mono ?_
          rintro e w3 ⟨rfl, b3⟩
          have HX3 := (show Hid (TX w3 w.heap.size tk0) from HX.out.below b3)
          have HB3 := (show Hid (Below w.heap.size w w3) from HB.out.trans (b3.mono HB.out.size))
          clear b3
          obtain ⟨c0, c1, c2, c3, c4, c5, c6, c7, c8⟩ := HX3.out.cells
          obtain ⟨f0, f1', f2', f3, f4, f5, f6, f7, f8⟩ := HX3.out.fz
          unfold tokV
          go_wp2_with fail
          exact ret_tok rfl rfl rfl rfl rfl (st9_tx HX3.out tk0) ⟨by rw [HU.out]; rfl, st9_below HB3.out (Nat.le_refl _) tk0⟩
      by_cases h123 : chr s b = 123
      · have t6 : (chr s b == 123) = true := by rw [h123]; rfl
        have t7 : (chr s (b + 1) == 58) = false := beq_eq_false_iff_ne.2 (fun q => hg ⟨h123, q⟩)
        have HU : Hid (oneR sg s b = sg b) := by show oneR sg s b = _; unfold oneR; rw [if_neg nh, if_neg nd, if_neg hq, if_neg h91, if_neg h37, if_neg h94, if_neg hg]
        have HP : Hid (∀ w, Calls Tryd.prog 41 #[.string s, .int .i64 b] w fun e w' => e = .returned (tokV (sg b)) ∧ Below w.heap.size w w') := fun w => HS.out w
        clear hq h91 h37 h94 hg h123 nh nd
        cases hp : sg b with
        | inl t =>
          rw [hp] at HU HP
          go_enter Tryd.func19, Tryd.ntmps19
          go_wp2_with fail
          refine (HA.out _).mono ?_
          rintro e w2 ⟨rfl, rfl⟩
          go_wp2_with fail
          refine (HH.out _).mono ?_
          rintro e w2 ⟨rfl, rfl⟩
          rw [hh]
          go_wp2_with fail
          refine (HD.out _).mono ?_
          rintro e w2 ⟨rfl, rfl⟩
          rw [hd]
          clear hh hd
          go_wp2_with fail
          refine (HA1.out _).mono ?_
          rintro e w2 ⟨rfl, rfl⟩
          go_wp2_with fail
          refine (HP.out _).mono ?_
          rintro e w3 ⟨rfl, b3⟩
          have HX3 := (show Hid (TX w3 w.heap.size tk0) from HX.out.below b3)
          have HB3 := (show Hid (Below w.heap.size w w3) from HB.out.trans (b3.mono HB.out.size))
          clear b3
          obtain ⟨c0, c1, c2, c3, c4, c5, c6, c7, c8⟩ := HX3.out.cells
          obtain ⟨f0, f1', f2', f3, f4, f5, f6, f7, f8⟩ := HX3.out.fz
          unfold tokV
          go_wp2_with fail
          exact ret_tok rfl rfl rfl rfl rfl (st9_tx HX3.out t) ⟨by rw [HU.out]; rfl, st9_below HB3.out (Nat.le_refl _) t⟩
        | inr q =>
          rw [hp] at HU HP
          go_enter Tryd.func19, Tryd.ntmps19
          go_wp2_with fail
          refine (HA.out _).mono ?_
          rintro e w2 ⟨rfl, rfl⟩
          go_wp2_with fail
          refine (HH.out _).mono ?_
          rintro e w2 ⟨rfl, rfl⟩
          rw [hh]
          go_wp2_with fail
          refine (HD.out _).mono ?_
          rintro e w2 ⟨rfl, rfl⟩
          rw [hd]
          clear hh hd
          go_wp2_with fail
          refine (HA1.out _).mono ?_
          rintro e w2 ⟨rfl, rfl⟩
          go_wp2_with fail
          refine (HP.out _).mono ?_
          rintro e w3 ⟨rfl, b3⟩
          have HX3 := (show Hid (TX w3 w.heap.size tk0) from HX.out.below b3)
          have HB3 := (show Hid (Below w.heap.size w w3) from HB.out.trans (b3.mono HB.out.size))
          clear b3
          obtain ⟨c0, c1, c2, c3, c4, c5, c6, c7, c8⟩ := HX3.out.cells
          obtain ⟨f0, f1', f2', f3, f4, f5, f6, f7, f8⟩ := HX3.out.fz
          unfold tokV
          go_wp2_with fail
          exact ret_tok rfl rfl rfl rfl rfl (st9_tx HX3.out tk0) ⟨by rw [HU.out]; rfl, st9_below HB3.out (Nat.le_refl _) tk0⟩
      · have t6 : (chr s b == 123) = false := beq_eq_false_iff_ne.2 h123
        have HU : Hid (oneR sg s b = sg b) := by show oneR sg s b = _; unfold oneR; rw [if_neg nh, if_neg nd, if_neg hq, if_neg h91, if_neg h37, if_neg h94, if_neg hg]
        have HP : Hid (∀ w, Calls Tryd.prog 41 #[.string s, .int .i64 b] w fun e w' => e = .returned (tokV (sg b)) ∧ Below w.heap.size w w') := fun w => HS.out w
        clear hq h91 h37 h94 hg h123 nh nd
        cases hp : sg b with
        | inl t =>
          rw [hp] at HU HP
          go_enter Tryd.func19, Tryd.ntmps19
          go_wp2_with fail
          refine (HA.out _).mono ?_
          rintro e w2 ⟨rfl, rfl⟩
          go_wp2_with fail
          refine (HH.out _).mono ?_
          rintro e w2 ⟨rfl, rfl⟩
          rw [hh]
          go_wp2_with fail
          refine (HD.out _).mono ?_
          rintro e w2 ⟨rfl, rfl⟩
          rw [hd]
          clear hh hd
          go_wp2_with fail
          refine (HP.out _).mono ?_
          rintro e w3 ⟨rfl, b3⟩
          have HX3 := (show Hid (TX w3 w.heap.size tk0) from HX.out.below b3)
          have HB3 := (show Hid (Below w.heap.size w w3) from HB.out.trans (b3.mono HB.out.size))
          clear b3
          obtain ⟨c0, c1, c2, c3, c4, c5, c6, c7, c8⟩ := HX3.out.cells
          obtain ⟨f0, f1', f2', f3, f4, f5, f6, f7, f8⟩ := HX3.out.fz
          unfold tokV
          go_wp2_with fail
          exact ret_tok rfl rfl rfl rfl rfl (st9_tx HX3.out t) ⟨by rw [HU.out]; rfl, st9_below HB3.out (Nat.le_refl _) t⟩
        | inr q =>
          rw [hp] at HU HP
          go_enter Tryd.func19, Tryd.ntmps19
          go_wp2_with fail
          refine (HA.out _).mono ?_
          rintro e w2 ⟨rfl, rfl⟩
          go_wp2_with fail
          refine (HH.out _).mono ?_
          rintro e w2 ⟨rfl, rfl⟩
          rw [hh]
          go_wp2_with fail
          refine (HD.out _).mono ?_
          rintro e w2 ⟨rfl, rfl⟩
          rw [hd]
          clear hh hd
          go_wp2_with fail
          refine (HP.out _).mono ?_
          rintro e w3 ⟨rfl, b3⟩
          have HX3 := (show Hid (TX w3 w.heap.size tk0) from HX.out.below b3)
          have HB3 := (show Hid (Below w.heap.size w w3) from HB.out.trans (b3.mono HB.out.size))
          clear b3
          obtain ⟨c0, c1, c2, c3, c4, c5, c6, c7, c8⟩ := HX3.out.cells
          obtain ⟨f0, f1', f2', f3, f4, f5, f6, f7, f8⟩ := HX3.out.fz
          unfold tokV
          go_wp2_with fail
          exact ret_tok rfl rfl rfl rfl rfl (st9_tx HX3.out tk0) ⟨by rw [HU.out]; rfl, st9_below HB3.out (Nat.le_refl _) tk0⟩
end Go.Proofs.YthffklhojdldkaaDoor
