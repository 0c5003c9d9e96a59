/- DERIVED. Walks: hex, escape, by the document. -/
import Derived.Test.YtafnjidackofpaaRdA
import Derived.Deep.RegionHeld3
namespace Go.Proofs.Ytafnjidackofpaa
open Go.RowKit

set_option maxRecDepth 100000 in
set_option maxHeartbeats 1000000 in
theorem hexR_any (c : Int) (h0 : 0 ≤ c) (h1 : c ≤ 255) (w : World) :
    Calls Try.prog 41 #[.int .u8 c] w fun e w' => e = .returned (.int .i64 (hexV c)) ∧ w' = w := by
  by_cases ha : 48 ≤ c
  · by_cases hb : c ≤ 57
    · have HE : Hid (hexV c = c - 48) := (by show hexV c = _; unfold hexV; rw [if_pos ⟨ha, hb⟩])
      have q1 : IntKind.u8.wrap (c - 48) = c - 48 := by rw [IntKind.wrap_u8']; omega
      have q2 : IntKind.i64.wrap (c - 48) = c - 48 := by rw [IntKind.wrap_i64]; omega
      go_enter Try.func41, Try.ntmps41
      go_wp2
      go_ret
      exact ⟨by rw [HE.out]; rfl, rfl⟩
    · by_cases hc : 97 ≤ c
      · by_cases hd : c ≤ 102
        · have HE : Hid (hexV c = c - 97 + 10) := (by show hexV c = _; unfold hexV; rw [if_neg (by omega), if_pos ⟨hc, hd⟩]; omega)
          have q1 : IntKind.u8.wrap (c - 97) = c - 97 := by rw [IntKind.wrap_u8']; omega
          have q2 : IntKind.i64.wrap (c - 97) = c - 97 := by rw [IntKind.wrap_i64]; omega
          have q3 : IntKind.i64.wrap (c - 97 + 10) = c - 97 + 10 := by rw [IntKind.wrap_i64]; omega
          go_enter Try.func41, Try.ntmps41
          go_wp2
          go_ret
          exact ⟨by rw [HE.out]; rfl, rfl⟩
        · have HE : Hid (hexV c = -1) := (by show hexV c = _; unfold hexV; rw [if_neg (by omega), if_neg (by omega)])
          go_enter Try.func41, Try.ntmps41
          go_wp2
          go_ret
          exact ⟨by rw [HE.out]; rfl, rfl⟩
      · have HE : Hid (hexV c = -1) := (by show hexV c = _; unfold hexV; rw [if_neg (by omega), if_neg (by omega)])
        go_enter Try.func41, Try.ntmps41
        go_wp2
        go_ret
        exact ⟨by rw [HE.out]; rfl, rfl⟩
  · have hc : ¬ 97 ≤ c := by omega
    have HE : Hid (hexV c = -1) := (by show hexV c = _; unfold hexV; rw [if_neg (by omega), if_neg (by omega)])
    go_enter Try.func41, Try.ntmps41
    go_wp2
    go_ret
    exact ⟨by rw [HE.out]; rfl, rfl⟩

/-- What escape answers at a place: the byte and the length. -/
def erV (i : Nat) : Option (Int × Nat) → Value
  | some (b, n) => .tuple #[.int .u8 b, .int .i64 ((n : Int) - (i : Int))]
  | none => .tuple #[.int .u8 0, .int .i64 0]
theorem ret_er {b b' : Int} {n i : Nat} {n' : Int} (hb : b' = b) (hn : n' = (n : Int) - (i : Int)) : Ending.returned (.tuple #[.int .u8 b', .int .i64 n']) = .returned (erV i (some (b, n))) := by rw [hb, hn]; rfl
theorem idx_str (s : ByteArray) (i : Nat) (h : i < s.size) (w : World) : (Instr.index 9 (.string s) (.int .i64 (i : Int))).run Try.prog w = .ok (.int .u8 (s[i].toNat : Int)) w := by
  have h0 : (0 : Int) ≤ (i : Int) := by omega
  have h1 : (i : Int) < (s.size : Int) := by omega
  rw [run_index_string _ _ _ _ _ Try.underlying9]
  simp [h0, h1]

set_option maxRecDepth 100000 in
set_option maxHeartbeats 4000000 in
theorem escR_hex (s : ByteArray) (i : Nat) (hi : i + 1 < s.size) (hs : s.size ≤ 65536) (h120 : (s[i + 1].toNat : Int) = 120) (w : World) :
    Calls Try.prog 33 #[.string s, .int .i64 i] w fun e w' => e = .returned (erV i (rdHex s i)) ∧ Below w.heap.size w w' := by
  have e110 : ((s[i + 1].toNat : Int) == 110) = false := beq_eq_false_iff_ne.2 (by omega)
  have e114 : ((s[i + 1].toNat : Int) == 114) = false := beq_eq_false_iff_ne.2 (by omega)
  have e116 : ((s[i + 1].toNat : Int) == 116) = false := beq_eq_false_iff_ne.2 (by omega)
  have e92 : ((s[i + 1].toNat : Int) == 92) = false := beq_eq_false_iff_ne.2 (by omega)
  have e39 : ((s[i + 1].toNat : Int) == 39) = false := beq_eq_false_iff_ne.2 (by omega)
  have e34 : ((s[i + 1].toNat : Int) == 34) = false := beq_eq_false_iff_ne.2 (by omega)
  have e120 : ((s[i + 1].toNat : Int) == 120) = true := beq_iff_eq.2 h120
  clear h120
  by_cases h : i + 3 < s.size
  · have h2 : i + 2 < s.size := by omega
    have hb1 := hexV_bd (s[i + 2].toNat : Int)
    have hb2 := hexV_bd (s[i + 3].toNat : Int)
    have HE : Hid (rdHex s i = if 0 ≤ hexV (s[i + 2].toNat : Int) ∧ 0 ≤ hexV (s[i + 3].toNat : Int) then some (16 * hexV (s[i + 2].toNat : Int) + hexV (s[i + 3].toNat : Int), i + 4) else none) := (by show rdHex s i = _; unfold rdHex; rw [chr_in h, chr_in h2])
    have HI : Hid (∀ w, Calls Try.prog 41 #[.int .u8 (s[i + 2].toNat : Int)] w fun e w' => e = .returned (.int .i64 (hexV (s[i + 2].toNat : Int))) ∧ w' = w) := fun w => hexR_any _ (by omega) (by have := s[i + 2].toNat_lt; omega) w
    have HJ : Hid (∀ w, Calls Try.prog 41 #[.int .u8 (s[i + 3].toNat : Int)] w fun e w' => e = .returned (.int .i64 (hexV (s[i + 3].toNat : Int))) ∧ w' = w) := fun w => hexR_any _ (by omega) (by have := s[i + 3].toNat_lt; omega) w
    have hi0 : (0 : Int) ≤ (i : Int) := by omega
    have hi3 : (i : Int) + 3 < (s.size : Int) := by omega
    have hi2 : (i : Int) + 2 < (s.size : Int) := by omega
    generalize hexV (s[i + 2].toNat : Int) = x at *
    generalize hexV (s[i + 3].toNat : Int) = y at *
    by_cases hx : 0 ≤ x
    · by_cases hy : 0 ≤ y
      · have HG := (show Hid (rdHex s i = some (16 * x + y, i + 4)) from (by show rdHex s i = _; rw [HE.out, if_pos ⟨hx, hy⟩]))
        clear HE
        go_enter Try.func33, Try.ntmps33
        go_wp2_with fail
        refine (HI.out _).mono ?_
        rintro e w' ⟨rfl, rfl⟩
        go_wp2_with fail
        refine (HJ.out _).mono ?_
        rintro e w' ⟨rfl, rfl⟩
        go_wp2_with fail
        have q1 : IntKind.i64.wrap (x * 16) = x * 16 := by rw [IntKind.wrap_i64]; omega
        have q2 : IntKind.i64.wrap (x * 16 + y) = x * 16 + y := by rw [IntKind.wrap_i64]; omega
        have q3 : IntKind.u8.wrap (x * 16 + y) = x * 16 + y := by rw [IntKind.wrap_u8']; omega
        have x2 := idx_str s (i + 2) h2
        have x3 := idx_str s (i + 3) h
        rw [show ((i + 2 : Nat) : Int) = (i : Int) + 2 from by omega] at x2
        rw [show ((i + 3 : Nat) : Int) = (i : Int) + 3 from by omega] at x3
        have z2 : (0 : Int) ≤ (i : Int) + 2 := by omega
        have z3 : (0 : Int) ≤ (i : Int) + 3 := by omega
        have v2 : IntKind.i64.wrap ((i : Int) + 2) = (i : Int) + 2 := by rw [IntKind.wrap_i64]; omega
        have v3 : IntKind.i64.wrap ((i : Int) + 3) = (i : Int) + 3 := by rw [IntKind.wrap_i64]; omega
        go_region_held3 (fun _ => True) (trivial) (first | (go_at_call 41; with_reducible refine (HI.out _).mono ?_; rintro e w' ⟨rfl, rfl⟩) | (go_at_call 41; with_reducible refine (HJ.out _).mono ?_; rintro e w' ⟨rfl, rfl⟩))
        all_goals
          go_wp2
          go_ret2
          exact ⟨by rw [HG.out]; exact ret_er (by omega) (by omega), (Below.refl _ _).drew⟩
      · have HG := (show Hid (rdHex s i = none) from (by show rdHex s i = _; rw [HE.out, if_neg (fun q => hy q.2)]))
        clear HE
        go_enter Try.func33, Try.ntmps33
        go_wp2_with fail
        refine (HI.out _).mono ?_
        rintro e w' ⟨rfl, rfl⟩
        go_wp2_with fail
        refine (HJ.out _).mono ?_
        rintro e w' ⟨rfl, rfl⟩
        go_wp2
        go_ret2
        exact ⟨by rw [HG.out]; rfl, Below.refl _ _⟩
    · have HG := (show Hid (rdHex s i = none) from (by show rdHex s i = _; rw [HE.out, if_neg (fun q => hx q.1)]))
      clear HE
      go_enter Try.func33, Try.ntmps33
      go_wp2_with fail
      refine (HI.out _).mono ?_
      rintro e w' ⟨rfl, rfl⟩
      go_wp2
      go_ret2
      exact ⟨by rw [HG.out]; rfl, Below.refl _ _⟩
  · have hi3 : ¬ (i : Int) + 3 < (s.size : Int) := by omega
    have HG : Hid (rdHex s i = none) := (by show rdHex s i = none; unfold rdHex; rw [chr_out h]; rw [if_neg]; rintro ⟨_, h2⟩; simp [hexV] at h2)
    go_enter Try.func33, Try.ntmps33
    go_wp2
    go_ret2
    exact ⟨by rw [HG.out]; rfl, Below.refl _ _⟩

set_option maxRecDepth 100000 in
set_option maxHeartbeats 4000000 in
theorem escR_any (s : ByteArray) (i : Nat) (hi : i < s.size) (hs : s.size ≤ 65536) (w : World) :
    Calls Try.prog 33 #[.string s, .int .i64 i] w fun e w' => e = .returned (erV i (rdEsc s i)) ∧ Below w.heap.size w w' := by
  by_cases h : i + 1 < s.size
  · have hb : (0 : Int) ≤ (s[i + 1].toNat : Int) ∧ (s[i + 1].toNat : Int) ≤ 255 := by have := s[i + 1].toNat_lt; omega
    have HE : Hid (rdEsc s i = if (s[i + 1].toNat : Int) = 110 then some (10, i + 2) else if (s[i + 1].toNat : Int) = 114 then some (13, i + 2) else if (s[i + 1].toNat : Int) = 116 then some (9, i + 2) else
  if (s[i + 1].toNat : Int) = 92 ∨ (s[i + 1].toNat : Int) = 39 ∨ (s[i + 1].toNat : Int) = 34 then some ((s[i + 1].toNat : Int), i + 2) else if (s[i + 1].toNat : Int) = 120 then rdHex s i else none) := (by show rdEsc s i = _; unfold rdEsc; rw [chr_in h])
    by_cases h110 : (s[i + 1].toNat : Int) = 110
    · have HF := (show Hid (rdEsc s i = some (10, i + 2)) from (by show rdEsc s i = _; rw [HE.out]; rw [if_pos h110]))
      clear HE
      have e110 : ((s[i + 1].toNat : Int) == 110) = true := beq_iff_eq.2 h110
      clear h110
      go_enter Try.func33, Try.ntmps33
      go_wp2
      go_ret2
      exact ⟨by rw [HF.out]; exact ret_er rfl (by omega), Below.refl _ _⟩
    have e110 : ((s[i + 1].toNat : Int) == 110) = false := beq_eq_false_iff_ne.2 h110
    by_cases h114 : (s[i + 1].toNat : Int) = 114
    · have HF := (show Hid (rdEsc s i = some (13, i + 2)) from (by show rdEsc s i = _; rw [HE.out]; rw [if_neg h110, if_pos h114]))
      clear HE
      have e114 : ((s[i + 1].toNat : Int) == 114) = true := beq_iff_eq.2 h114
      clear h114
      go_enter Try.func33, Try.ntmps33
      go_wp2
      go_ret2
      exact ⟨by rw [HF.out]; exact ret_er rfl (by omega), Below.refl _ _⟩
    have e114 : ((s[i + 1].toNat : Int) == 114) = false := beq_eq_false_iff_ne.2 h114
    by_cases h116 : (s[i + 1].toNat : Int) = 116
    · have HF := (show Hid (rdEsc s i = some (9, i + 2)) from (by show rdEsc s i = _; rw [HE.out]; rw [if_neg h110, if_neg h114, if_pos h116]))
      clear HE
      have e116 : ((s[i + 1].toNat : Int) == 116) = true := beq_iff_eq.2 h116
      clear h116
      go_enter Try.func33, Try.ntmps33
      go_wp2
      go_ret2
      exact ⟨by rw [HF.out]; exact ret_er rfl (by omega), Below.refl _ _⟩
    have e116 : ((s[i + 1].toNat : Int) == 116) = false := beq_eq_false_iff_ne.2 h116
    by_cases hg : (s[i + 1].toNat : Int) = 92 ∨ (s[i + 1].toNat : Int) = 39 ∨ (s[i + 1].toNat : Int) = 34
    · have HF := (show Hid (rdEsc s i = some ((s[i + 1].toNat : Int), i + 2)) from (by show rdEsc s i = _; rw [HE.out]; rw [if_neg h110, if_neg h114, if_neg h116, if_pos hg]))
      clear HE h110 h114 h116
      rcases hg with hg | hg | hg
      · have e92 : ((s[i + 1].toNat : Int) == 92) = true := beq_iff_eq.2 hg
        clear hg
        go_enter Try.func33, Try.ntmps33
        go_wp2
        go_ret2
        exact ⟨by rw [HF.out]; exact ret_er rfl (by omega), Below.refl _ _⟩
      · have e92 : ((s[i + 1].toNat : Int) == 92) = false := beq_eq_false_iff_ne.2 (by omega)
        have e39 : ((s[i + 1].toNat : Int) == 39) = true := beq_iff_eq.2 hg
        clear hg
        go_enter Try.func33, Try.ntmps33
        go_wp2
        go_ret2
        exact ⟨by rw [HF.out]; exact ret_er rfl (by omega), Below.refl _ _⟩
      · have e92 : ((s[i + 1].toNat : Int) == 92) = false := beq_eq_false_iff_ne.2 (by omega)
        have e39 : ((s[i + 1].toNat : Int) == 39) = false := beq_eq_false_iff_ne.2 (by omega)
        have e34 : ((s[i + 1].toNat : Int) == 34) = true := beq_iff_eq.2 hg
        clear hg
        go_enter Try.func33, Try.ntmps33
        go_wp2
        go_ret2
        exact ⟨by rw [HF.out]; exact ret_er rfl (by omega), Below.refl _ _⟩
    by_cases h120 : (s[i + 1].toNat : Int) = 120
    · rw [HE.out, if_neg h110, if_neg h114, if_neg h116, if_neg hg, if_pos h120]
      exact escR_hex s i h hs h120 w
    have e92 : ((s[i + 1].toNat : Int) == 92) = false := beq_eq_false_iff_ne.2 (by omega)
    have e39 : ((s[i + 1].toNat : Int) == 39) = false := beq_eq_false_iff_ne.2 (by omega)
    have e34 : ((s[i + 1].toNat : Int) == 34) = false := beq_eq_false_iff_ne.2 (by omega)
    have e120 : ((s[i + 1].toNat : Int) == 120) = false := beq_eq_false_iff_ne.2 h120
    have HF := (show Hid (rdEsc s i = none) from (by show rdEsc s i = _; rw [HE.out]; rw [if_neg h110, if_neg h114, if_neg h116, if_neg hg, if_neg h120]))
    clear HE h110 h114 h116 h120 hg
    go_enter Try.func33, Try.ntmps33
    go_wp2
    go_ret2
    exact ⟨by rw [HF.out]; rfl, Below.refl _ _⟩
  · have HE : Hid (rdEsc s i = none) := (by show rdEsc s i = none; unfold rdEsc; rw [chr_out h]; rfl)
    have h1 : ¬ (i : Int) + 1 < (s.size : Int) := by omega
    go_enter Try.func33, Try.ntmps33
    go_wp2
    go_ret2
    exact ⟨by rw [HE.out]; rfl, Below.refl _ _⟩
end Go.Proofs.Ytafnjidackofpaa
