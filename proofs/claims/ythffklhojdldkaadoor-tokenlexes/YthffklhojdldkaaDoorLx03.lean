/- DERIVED. Plain mathematics and walks, laid together (3). -/
import Derived.WalkKit
import Derived.Lib.AtoiErrMem
import Derived.Test.YthffklhojdldkaaDoorLx02
namespace Go.Proofs.YthffklhojdldkaaDoor
open Go.RowKit
set_option maxRecDepth 100000 in
set_option maxHeartbeats 1000000 in
theorem standsAt_any (s : ByteArray) (i : Nat) (c : Int) (hc : 0 ≤ c) (w : World) :
    Calls Tryd.prog 68 #[.string s, .int .i64 i, .int .u8 c] w fun e w' => e = .returned (.bool (chr s i == c)) ∧ w' = w := by
  by_cases h : i < s.size
  · have HE := (show Hid _ from chr_in h)
    have h0 : (0 : Int) ≤ (i : Int) := by omega
    have h1 : (i : Int) < (s.size : Int) := by omega
    go_enter Tryd.func68, Tryd.ntmps68
    go_wp2
    go_ret
    exact ⟨by rw [HE.out]; rfl, rfl⟩
  · have HE : Hid ((chr s i == c) = false) := (by show (chr s i == c) = false; rw [chr_out h]; exact beq_eq_false_iff_ne.2 (by omega))
    have h1 : ¬ (i : Int) < (s.size : Int) := by omega
    go_enter Tryd.func68, Tryd.ntmps68
    go_wp2
    go_ret
    exact ⟨ret_bool HE.out.symm, rfl⟩

/-- The digits of 16. -/
abbrev digs : ByteArray := ⟨#[48, 49, 50, 51, 52, 53, 54, 55, 56, 57, 97, 98, 99, 100, 101, 102]⟩
theorem idx_hex (c : UInt8) : Lib.indexByte digs.data.toList c = hexV (c.toNat : Int) := by
  have key : ∀ n, n < 256 → Lib.indexByte digs.data.toList (UInt8.ofNat n) = hexV (n : Int) := by decide +kernel
  have := key c.toNat c.toNat_lt
  rw [UInt8.ofNat_toNat] at this
  exact this
theorem index_hex (c : UInt8) (w : World) : Calls Tryd.prog 64 #[.string digs, .int .u8 (c.toNat : Int)] w fun e w' => e = .returned (.int .i64 (hexV (c.toNat : Int))) ∧ w' = w := by
  refine (Tryd.strings_IndexByte digs (c.toNat : Int) w).mono ?_
  rintro e w' ⟨rfl, rfl⟩
  refine ⟨?_, rfl⟩
  rw [← idx_hex]
  simp

/-- What a reading of one item answers. -/
def itV : Option (Nat × Nat) → Value
  | none => .tuple #[.int .i64 0, .int .i64 0, .bool false]
  | some (b, n) => .tuple #[.int .i64 b, .int .i64 n, .bool true]

theorem ret_it {b n : Nat} {b' n' : Int} (hb : b' = b) (hn : n' = n) : Ending.returned (.tuple #[.int .i64 b', .int .i64 n', .bool true]) = .returned (itV (some (b, n))) := by rw [hb, hn]; rfl

set_option maxRecDepth 100000 in
set_option maxHeartbeats 1000000 in
theorem readHex_any (s : ByteArray) (i : Nat) (hi : i + 1 < s.size) (hs : s.size ≤ 140737488355328) (w : World) :
    Calls Tryd.prog 101 #[.string s, .int .i64 i] w fun e w' => e = .returned (itV (rdHex s i)) ∧ w' = w := by
  by_cases h : i + 3 < s.size
  · have h2 : i + 2 < s.size := by omega
    have hb1 := hexV_bd (s[i + 2].toNat : Int)
    have hb2 := hexV_bd (s[i + 3].toNat : Int)
    have HE : Hid (rdHex s i = if 0 ≤ hexV (s[i + 2].toNat : Int) ∧ 0 ≤ hexV (s[i + 3].toNat : Int) then some ((16 * hexV (s[i + 2].toNat : Int) + hexV (s[i + 3].toNat : Int)).toNat, i + 4) else none) := (by show rdHex s i = _; unfold rdHex; rw [chr_in h, chr_in h2])
    have HI : Hid (∀ w, Calls Tryd.prog 64 #[.string digs, .int .u8 (s[i + 2].toNat : Int)] w fun e w' => e = .returned (.int .i64 (hexV (s[i + 2].toNat : Int))) ∧ w' = w) := fun w => index_hex _ w
    have HJ : Hid (∀ w, Calls Tryd.prog 64 #[.string digs, .int .u8 (s[i + 3].toNat : Int)] w fun e w' => e = .returned (.int .i64 (hexV (s[i + 3].toNat : Int))) ∧ w' = w) := fun w => index_hex _ w
    go_enter Tryd.func101, Tryd.ntmps101
    go_wp2_with fail
    refine (HI.out _).mono ?_
    rintro e w' ⟨rfl, rfl⟩
    clear HI
    go_wp2_with fail
    refine (HJ.out _).mono ?_
    rintro e w' ⟨rfl, rfl⟩
    clear HJ
    generalize hexV (s[i + 2].toNat : Int) = a at *
    generalize hexV (s[i + 3].toNat : Int) = b at *
    by_cases ha : 0 ≤ a
    · by_cases hb : 0 ≤ b
      · go_wp2
        go_ret3
        exact ⟨by rw [HE.out, if_pos ⟨ha, hb⟩]; exact ret_it (by omega) (by omega), rfl⟩
      · go_wp2
        go_ret3
        exact ⟨by rw [HE.out, if_neg (fun h => by omega)]; rfl, rfl⟩
    · go_wp2
      go_ret3
      exact ⟨by rw [HE.out, if_neg (fun h => by omega)]; rfl, rfl⟩
  · have h1 : ¬ (i : Int) + 3 < (s.size : Int) := by omega
    have HE : Hid (rdHex s i = none) := (by show rdHex s i = none; unfold rdHex; rw [chr_out h]; rw [if_neg]; rintro ⟨_, h2⟩; simp [hexV] at h2)
    go_enter Tryd.func101, Tryd.ntmps101
    go_wp2
    go_ret3
    exact ⟨by rw [HE.out]; rfl, rfl⟩

set_option maxRecDepth 100000 in
set_option maxHeartbeats 1000000 in
theorem readEsc_any (s : ByteArray) (i : Nat) (hi : i < s.size) (hs : s.size ≤ 140737488355328) (w : World) :
    Calls Tryd.prog 99 #[.string s, .int .i64 i] w fun e w' => e = .returned (itV (rdEsc s i)) ∧ w' = w := by
  by_cases h : i + 1 < s.size
  · have HX : Hid (∀ w, Calls Tryd.prog 101 #[.string s, .int .i64 i] w fun e w' => e = .returned (itV (rdHex s i)) ∧ w' = w) := fun w => readHex_any s i h hs w
    have hb : (0 : Int) ≤ (s[i + 1].toNat : Int) ∧ (s[i + 1].toNat : Int) ≤ 255 := by have := s[i + 1].toNat_lt; omega
    have hw8 : IntKind.i64.wrap (s[i + 1].toNat : Int) = (s[i + 1].toNat : Int) := by rw [IntKind.wrap_i64]; omega
    have HE : Hid (rdEsc s i = if (s[i + 1].toNat : Int) = 110 then some (10, i + 2) else if (s[i + 1].toNat : Int) = 114 then some (13, i + 2) else if (s[i + 1].toNat : Int) = 116 then some (9, i + 2) else
  if (s[i + 1].toNat : Int) = 120 then rdHex s i else if signB (s[i + 1].toNat : Int) then some ((s[i + 1].toNat : Int).toNat, i + 2) else none) := (by show rdEsc s i = _; unfold rdEsc; rw [chr_in h])
    by_cases h110 : (s[i + 1].toNat : Int) = 110
    · have HF := (show Hid (rdEsc s i = some (10, i + 2)) from (by show rdEsc s i = _; rw [HE.out]; rw [if_pos h110]))
      clear HE HX
      have e110 : ((s[i + 1].toNat : Int) == 110) = true := beq_iff_eq.2 h110
      clear h110
      go_enter Tryd.func99, Tryd.ntmps99
      go_wp2
      go_ret3
      exact ⟨by rw [HF.out]; exact ret_it rfl (by omega), rfl⟩
    have e110 : ((s[i + 1].toNat : Int) == 110) = false := beq_eq_false_iff_ne.2 h110
    by_cases h114 : (s[i + 1].toNat : Int) = 114
    · have HF := (show Hid (rdEsc s i = some (13, i + 2)) from (by show rdEsc s i = _; rw [HE.out]; rw [if_neg h110, if_pos h114]))
      clear HE HX
      have e114 : ((s[i + 1].toNat : Int) == 114) = true := beq_iff_eq.2 h114
      clear h114
      go_enter Tryd.func99, Tryd.ntmps99
      go_wp2
      go_ret3
      exact ⟨by rw [HF.out]; exact ret_it rfl (by omega), rfl⟩
    have e114 : ((s[i + 1].toNat : Int) == 114) = false := beq_eq_false_iff_ne.2 h114
    by_cases h116 : (s[i + 1].toNat : Int) = 116
    · have HF := (show Hid (rdEsc s i = some (9, i + 2)) from (by show rdEsc s i = _; rw [HE.out]; rw [if_neg h110, if_neg h114, if_pos h116]))
      clear HE HX
      have e116 : ((s[i + 1].toNat : Int) == 116) = true := beq_iff_eq.2 h116
      clear h116
      go_enter Tryd.func99, Tryd.ntmps99
      go_wp2
      go_ret3
      exact ⟨by rw [HF.out]; exact ret_it rfl (by omega), rfl⟩
    have e116 : ((s[i + 1].toNat : Int) == 116) = false := beq_eq_false_iff_ne.2 h116
    by_cases h120 : (s[i + 1].toNat : Int) = 120
    · have HF := (show Hid (rdEsc s i = rdHex s i) from (by show rdEsc s i = _; rw [HE.out]; rw [if_neg h110, if_neg h114, if_neg h116, if_pos h120]))
      have e120 : ((s[i + 1].toNat : Int) == 120) = true := beq_iff_eq.2 h120
      clear HE h110 h114 h116 h120
      go_enter Tryd.func99, Tryd.ntmps99
      go_wp2_with fail
      refine (HX.out _).mono ?_
      rintro e w' ⟨rfl, rfl⟩
      cases hq : rdHex s i with
      | none =>
        rw [hq] at HF
        clear HX hq
        dsimp only [itV]
        go_wp2
        go_ret3
        exact ⟨by rw [HF.out]; rfl, rfl⟩
      | some q =>
        obtain ⟨qb, qn⟩ := q
        rw [hq] at HF
        clear HX hq
        dsimp only [itV]
        go_wp2
        go_ret3
        exact ⟨by rw [HF.out]; rfl, rfl⟩
    have e120 : ((s[i + 1].toNat : Int) == 120) = false := beq_eq_false_iff_ne.2 h120
    cases hg : signB (s[i + 1].toNat : Int)
    · have HF := (show Hid (rdEsc s i = none) from (by show rdEsc s i = _; rw [HE.out]; rw [if_neg h110, if_neg h114, if_neg h116, if_neg h120, if_neg (by rw [hg]; simp)]))
      clear HE HX h110 h114 h116 h120
      go_enter Tryd.func99, Tryd.ntmps99
      go_wp2_with fail
      refine (isSign_any _ _).mono ?_
      rintro e w' ⟨rfl, rfl⟩
      go_wp2
      go_ret3
      exact ⟨by rw [HF.out]; rfl, rfl⟩
    · have HF := (show Hid (rdEsc s i = some ((s[i + 1].toNat : Int).toNat, i + 2)) from (by show rdEsc s i = _; rw [HE.out]; rw [if_neg h110, if_neg h114, if_neg h116, if_neg h120, if_pos (by rw [hg])]))
      clear HE HX h110 h114 h116 h120
      go_enter Tryd.func99, Tryd.ntmps99
      go_wp2_with fail
      refine (isSign_any _ _).mono ?_
      rintro e w' ⟨rfl, rfl⟩
      go_wp2
      go_ret3
      exact ⟨by rw [HF.out]; exact ret_it (by omega) (by omega), rfl⟩
  · have HE : Hid (rdEsc s i = none) := (by show rdEsc s i = none; unfold rdEsc; rw [chr_out h]; rfl)
    have h1 : ¬ (i : Int) + 1 < (s.size : Int) := by omega
    go_enter Tryd.func99, Tryd.ntmps99
    go_wp2
    go_ret3
    exact ⟨by rw [HE.out]; rfl, rfl⟩

set_option maxRecDepth 100000 in
set_option maxHeartbeats 1000000 in
theorem readItem_any (s : ByteArray) (i : Nat) (hs : s.size ≤ 140737488355328) (w : World) :
    Calls Tryd.prog 95 #[.string s, .int .i64 i] w fun e w' => e = .returned (itV (rdItem s i)) ∧ w' = w := by
  by_cases h : i < s.size
  · have HX : Hid (∀ w, Calls Tryd.prog 99 #[.string s, .int .i64 i] w fun e w' => e = .returned (itV (rdEsc s i)) ∧ w' = w) := fun w => readEsc_any s i h hs w
    have hb : (0 : Int) ≤ (s[i].toNat : Int) ∧ (s[i].toNat : Int) ≤ 255 := by have := s[i].toNat_lt; omega
    have hw8 : IntKind.i64.wrap (s[i].toNat : Int) = (s[i].toNat : Int) := by rw [IntKind.wrap_i64]; omega
    have HE : Hid (rdItem s i = if (s[i].toNat : Int) = 92 then rdEsc s i else if (s[i].toNat : Int) = 93 ∨ (s[i].toNat : Int) = 45 ∨ (s[i].toNat : Int) = 37 ∨ prnB (s[i].toNat : Int) = false then none else some ((s[i].toNat : Int).toNat, i + 1)) := (by show rdItem s i = _; unfold rdItem; rw [chr_in h])
    by_cases h92 : (s[i].toNat : Int) = 92
    · have HF := (show Hid (rdItem s i = rdEsc s i) from (by show rdItem s i = _; rw [HE.out]; rw [if_pos h92]))
      have e92 : ((s[i].toNat : Int) == 92) = true := beq_iff_eq.2 h92
      clear HE h92
      go_enter Tryd.func95, Tryd.ntmps95
      go_wp2_with fail
      refine (HX.out _).mono ?_
      rintro e w' ⟨rfl, rfl⟩
      cases hq : rdEsc s i with
      | none =>
        rw [hq] at HF
        clear HX hq
        dsimp only [itV]
        go_wp2
        go_ret3
        exact ⟨by rw [HF.out]; rfl, rfl⟩
      | some q =>
        obtain ⟨qb, qn⟩ := q
        rw [hq] at HF
        clear HX hq
        dsimp only [itV]
        go_wp2
        go_ret3
        exact ⟨by rw [HF.out]; rfl, rfl⟩
    have e92 : ((s[i].toNat : Int) == 92) = false := beq_eq_false_iff_ne.2 h92
    clear HX
    by_cases h93 : (s[i].toNat : Int) = 93
    · have HF := (show Hid (rdItem s i = none) from (by show rdItem s i = _; rw [HE.out, if_neg h92, if_pos (.inl h93)]))
      have e93 : ((s[i].toNat : Int) == 93) = true := beq_iff_eq.2 h93
      clear HE h92 h93
      go_enter Tryd.func95, Tryd.ntmps95
      go_wp2
      go_ret3
      exact ⟨by rw [HF.out]; rfl, rfl⟩
    have e93 : ((s[i].toNat : Int) == 93) = false := beq_eq_false_iff_ne.2 h93
    by_cases h45 : (s[i].toNat : Int) = 45
    · have HF := (show Hid (rdItem s i = none) from (by show rdItem s i = _; rw [HE.out, if_neg h92, if_pos (.inr (.inl h45))]))
      have e45 : ((s[i].toNat : Int) == 45) = true := beq_iff_eq.2 h45
      clear HE h92 h93 h45
      go_enter Tryd.func95, Tryd.ntmps95
      go_wp2
      go_ret3
      exact ⟨by rw [HF.out]; rfl, rfl⟩
    have e45 : ((s[i].toNat : Int) == 45) = false := beq_eq_false_iff_ne.2 h45
    by_cases h37 : (s[i].toNat : Int) = 37
    · have HF := (show Hid (rdItem s i = none) from (by show rdItem s i = _; rw [HE.out, if_neg h92, if_pos (.inr (.inr (.inl h37)))]))
      have e37 : ((s[i].toNat : Int) == 37) = true := beq_iff_eq.2 h37
      clear HE h92 h93 h45 h37
      go_enter Tryd.func95, Tryd.ntmps95
      go_wp2
      go_ret3
      exact ⟨by rw [HF.out]; rfl, rfl⟩
    have e37 : ((s[i].toNat : Int) == 37) = false := beq_eq_false_iff_ne.2 h37
    cases hg : prnB (s[i].toNat : Int)
    · have HF := (show Hid (rdItem s i = none) from (by show rdItem s i = _; rw [HE.out, if_neg h92, if_pos (.inr (.inr (.inr hg)))]))
      clear HE h92 h93 h45 h37
      go_enter Tryd.func95, Tryd.ntmps95
      go_wp2_with fail
      refine (isPrintable_any _ _).mono ?_
      rintro e w' ⟨rfl, rfl⟩
      go_wp2
      go_ret3
      exact ⟨by rw [HF.out]; rfl, rfl⟩
    · have HF := (show Hid (rdItem s i = some ((s[i].toNat : Int).toNat, i + 1)) from (by show rdItem s i = _; rw [HE.out, if_neg h92, if_neg (by rw [hg]; simp; omega)]))
      clear HE h92 h93 h45 h37
      go_enter Tryd.func95, Tryd.ntmps95
      go_wp2_with fail
      refine (isPrintable_any _ _).mono ?_
      rintro e w' ⟨rfl, rfl⟩
      go_wp2
      go_ret3
      exact ⟨by rw [HF.out]; exact ret_it (by omega) (by omega), rfl⟩
  · have HE : Hid (rdItem s i = none) := (by show rdItem s i = none; unfold rdItem; rw [chr_out h]; rfl)
    have h1 : ¬ (i : Int) < (s.size : Int) := by omega
    go_enter Tryd.func95, Tryd.ntmps95
    go_wp2
    go_ret3
    exact ⟨by rw [HE.out]; rfl, rfl⟩
end Go.Proofs.YthffklhojdldkaaDoor

namespace Go.Proofs.YthffklhojdldkaaDoor
open Go.RowKit
set_option maxRecDepth 100000 in
set_option maxHeartbeats 1000000 in
theorem at_any (s : ByteArray) (i : Nat) (w : World) :
    Calls Tryd.prog 29 #[.string s, .int .i64 i] w fun e w' => e = .returned (.int .i64 (chr s i)) ∧ w' = w := by
  by_cases h : i < s.size
  · have HE := (show Hid _ from chr_in h)
    have h0 : (0 : Int) ≤ (i : Int) := by omega
    have h1 : (i : Int) < (s.size : Int) := by omega
    have hb : (s[i].toNat : Int) ≤ 255 := by have := s[i].toNat_lt; omega
    have hw8 : IntKind.i64.wrap (s[i].toNat : Int) = (s[i].toNat : Int) := by rw [IntKind.wrap_i64]; omega
    go_enter Tryd.func29, Tryd.ntmps29
    go_wp2
    go_ret
    exact ⟨by rw [HE.out]; rfl, rfl⟩
  · have HE := (show Hid _ from chr_out h)
    have h0 : (0 : Int) ≤ (i : Int) := by omega
    have h1 : ¬ (i : Int) < (s.size : Int) := by omega
    go_enter Tryd.func29, Tryd.ntmps29
    go_wp2
    go_ret
    exact ⟨by rw [HE.out]; rfl, rfl⟩

set_option maxRecDepth 100000 in
set_option maxHeartbeats 1000000 in
theorem special_any (b : Int) (w : World) :
    Calls Tryd.prog 78 #[.int .i64 b] w fun e w' => e = .returned (.bool (signB b)) ∧ w' = w := by
  cases e92 : (b == 92)
  ·
    cases e93 : (b == 93)
    ·
      cases e91 : (b == 91)
      ·
        cases e94 : (b == 94)
        ·
          cases e45 : (b == 45)
          ·
            cases e37 : (b == 37)
            ·
              have HE : Hid (signB b = false) := (by show signB b = _; simp [signB, e92, e93, e91, e94, e45, e37])
              go_enter Tryd.func78, Tryd.ntmps78
              go_wp2
              go_ret
              exact ⟨ret_bool HE.out.symm, rfl⟩
            ·
              have HE : Hid (signB b = true) := (by show signB b = _; simp [signB, e92, e93, e91, e94, e45, e37])
              go_enter Tryd.func78, Tryd.ntmps78
              go_wp2
              go_ret
              exact ⟨ret_bool HE.out.symm, rfl⟩
          ·
            have HE : Hid (signB b = true) := (by show signB b = _; simp [signB, e92, e93, e91, e94, e45])
            go_enter Tryd.func78, Tryd.ntmps78
            go_wp2
            go_ret
            exact ⟨ret_bool HE.out.symm, rfl⟩
        ·
          have HE : Hid (signB b = true) := (by show signB b = _; simp [signB, e92, e93, e91, e94])
          go_enter Tryd.func78, Tryd.ntmps78
          go_wp2
          go_ret
          exact ⟨ret_bool HE.out.symm, rfl⟩
      ·
        have HE : Hid (signB b = true) := (by show signB b = _; simp [signB, e92, e93, e91])
        go_enter Tryd.func78, Tryd.ntmps78
        go_wp2
        go_ret
        exact ⟨ret_bool HE.out.symm, rfl⟩
    ·
      have HE : Hid (signB b = true) := (by show signB b = _; simp [signB, e92, e93])
      go_enter Tryd.func78, Tryd.ntmps78
      go_wp2
      go_ret
      exact ⟨ret_bool HE.out.symm, rfl⟩
  ·
    have HE : Hid (signB b = true) := (by show signB b = _; simp [signB, e92])
    go_enter Tryd.func78, Tryd.ntmps78
    go_wp2
    go_ret
    exact ⟨ret_bool HE.out.symm, rfl⟩

set_option maxRecDepth 100000 in
set_option maxHeartbeats 1000000 in
theorem hexDigit_any (c : UInt8) (w : World) :
    Calls Tryd.prog 74 #[.int .u8 (c.toNat : Int)] w fun e w' => e = .returned (.int .i64 (hexV (c.toNat : Int))) ∧ w' = w := by
  have hc : (0 : Int) ≤ (c.toNat : Int) ∧ (c.toNat : Int) ≤ 255 := by have := c.toNat_lt; omega
  generalize (c.toNat : Int) = n at *
  obtain ⟨n0, n1⟩ := hc
  by_cases h1 : 48 ≤ n
  · by_cases h2 : n ≤ 57
    · have HE : Hid (hexV n = n - 48) := (by show hexV n = _; unfold hexV; rw [if_pos ⟨h1, h2⟩])
      have q1 : IntKind.u8.wrap (n - 48) = n - 48 := by rw [IntKind.wrap_u8]; omega
      have q2 : IntKind.i64.wrap (n - 48) = n - 48 := by rw [IntKind.wrap_i64]; omega
      go_enter Tryd.func74, Tryd.ntmps74
      go_wp2
      go_ret
      exact ⟨by rw [HE.out]; rfl, rfl⟩
    · by_cases h3 : 97 ≤ n
      · by_cases h4 : n ≤ 102
        · have HE : Hid (hexV n = n - 87) := (by show hexV n = _; unfold hexV; rw [if_neg (by omega), if_pos ⟨h3, h4⟩])
          have q1 : IntKind.u8.wrap (n - 97) = n - 97 := by rw [IntKind.wrap_u8]; omega
          have q2 : IntKind.i64.wrap (n - 97) = n - 97 := by rw [IntKind.wrap_i64]; omega
          have q3 : IntKind.i64.wrap (n - 97 + 10) = n - 97 + 10 := by rw [IntKind.wrap_i64]; omega
          go_enter Tryd.func74, Tryd.ntmps74
          go_wp2
          go_ret
          exact ⟨by rw [HE.out]; exact ret_int (by omega), rfl⟩
        · have HE : Hid (hexV n = -1) := (by show hexV n = _; unfold hexV; rw [if_neg (by omega), if_neg (by omega)])
          go_enter Tryd.func74, Tryd.ntmps74
          go_wp2
          go_ret
          exact ⟨by rw [HE.out]; rfl, rfl⟩
      · have HE : Hid (hexV n = -1) := (by show hexV n = _; unfold hexV; rw [if_neg (by omega), if_neg (by omega)])
        go_enter Tryd.func74, Tryd.ntmps74
        go_wp2
        go_ret
        exact ⟨by rw [HE.out]; rfl, rfl⟩
  · have h3 : ¬ 97 ≤ n := by omega
    have HE : Hid (hexV n = -1) := (by show hexV n = _; unfold hexV; rw [if_neg (by omega), if_neg (by omega)])
    go_enter Tryd.func74, Tryd.ntmps74
    go_wp2
    go_ret
    exact ⟨by rw [HE.out]; rfl, rfl⟩
end Go.Proofs.YthffklhojdldkaaDoor

namespace Go.Proofs.YthffklhojdldkaaDoor
open Go.RowKit
def hxB (c : Int) : Bool := dgB c || (decide (97 ≤ c) && decide (c ≤ 102))
def blB (c : Int) : Bool := c == 9 || c == 10 || c == 13 || c == 32
set_option maxRecDepth 100000 in
set_option maxHeartbeats 4000000 in
theorem pbegins_any (c : Int) (w : World) : Calls Tryd.prog 21 #[.int .u8 c] w fun e w' => e = .returned (.bool (hdB c)) ∧ w' = w := by
  by_cases a1 : 97 ≤ c <;> by_cases a2 : c ≤ 122 <;> by_cases a3 : 65 ≤ c <;> by_cases a4 : c ≤ 90 <;> by_cases a5 : c = 95 <;> first
    | (exfalso; omega)
    | (subst a5; go_enter Tryd.func21, Tryd.ntmps21; go_wp2_with fail; go_ret; exact ⟨rfl, rfl⟩)
    | (have a6 : (c == 95) = false := beq_eq_false_iff_ne.2 a5; go_enter Tryd.func21, Tryd.ntmps21; go_wp2_with fail; go_ret; exact ⟨by simp [hdB, *], rfl⟩)
set_option maxRecDepth 100000 in
set_option maxHeartbeats 4000000 in
theorem pdigit_any (c : Int) (w : World) : Calls Tryd.prog 23 #[.int .u8 c] w fun e w' => e = .returned (.bool (dgB c)) ∧ w' = w := by
  by_cases a1 : 48 ≤ c <;> by_cases a2 : c ≤ 57 <;> first
    | (exfalso; omega)
    | (go_enter Tryd.func23, Tryd.ntmps23; go_wp2_with fail; go_ret; exact ⟨by simp [dgB, *], rfl⟩)
set_option maxRecDepth 100000 in
set_option maxHeartbeats 4000000 in
theorem pofname_any (c : Int) (w : World) : Calls Tryd.prog 44 #[.int .u8 c] w fun e w' => e = .returned (.bool (nmB c)) ∧ w' = w := by
  have HH : Hid (∀ w, Calls Tryd.prog 21 #[.int .u8 c] w fun e w' => e = .returned (.bool (hdB c)) ∧ w' = w) := fun w => pbegins_any c w
  have HD : Hid (∀ w, Calls Tryd.prog 23 #[.int .u8 c] w fun e w' => e = .returned (.bool (dgB c)) ∧ w' = w) := fun w => pdigit_any c w
  cases hh : hdB c with
  | true =>
    have HE : Hid (nmB c = true) := by show nmB c = true; unfold nmB; rw [hh]; rfl
    rw [hh] at HH
    clear HD hh
    go_enter Tryd.func44, Tryd.ntmps44
    go_wp2_with fail
    refine (HH.out _).mono ?_
    rintro e w ⟨rfl, rfl⟩
    go_wp2_with fail
    go_ret
    exact ⟨by rw [HE.out]; rfl, rfl⟩
  | false =>
    have HE : Hid (nmB c = dgB c) := by show nmB c = _; unfold nmB; rw [hh]; rfl
    rw [hh] at HH
    clear hh
    go_enter Tryd.func44, Tryd.ntmps44
    go_wp2_with fail
    refine (HH.out _).mono ?_
    rintro e w ⟨rfl, rfl⟩
    go_wp2_with fail
    refine (HD.out _).mono ?_
    rintro e w ⟨rfl, rfl⟩
    go_wp2_with fail
    go_ret
    exact ⟨by rw [HE.out]; rfl, rfl⟩
set_option maxRecDepth 100000 in
set_option maxHeartbeats 4000000 in
theorem phexd_any (c : Int) (w : World) : Calls Tryd.prog 84 #[.int .u8 c] w fun e w' => e = .returned (.bool (hxB c)) ∧ w' = w := by
  have HD : Hid (∀ w, Calls Tryd.prog 23 #[.int .u8 c] w fun e w' => e = .returned (.bool (dgB c)) ∧ w' = w) := fun w => pdigit_any c w
  cases hh : dgB c with
  | true =>
    have HE : Hid (hxB c = true) := by show hxB c = true; unfold hxB; rw [hh]; rfl
    rw [hh] at HD
    clear hh
    go_enter Tryd.func84, Tryd.ntmps84
    go_wp2_with fail
    refine (HD.out _).mono ?_
    rintro e w ⟨rfl, rfl⟩
    go_wp2_with fail
    go_ret
    exact ⟨by rw [HE.out]; rfl, rfl⟩
  | false =>
    have HE : Hid (hxB c = (decide (97 ≤ c) && decide (c ≤ 102))) := by show hxB c = _; unfold hxB; rw [hh]; rfl
    rw [hh] at HD
    clear hh
    by_cases a1 : 97 ≤ c <;> by_cases a2 : c ≤ 102 <;> first
      | (exfalso; omega)
      | (go_enter Tryd.func84, Tryd.ntmps84
         go_wp2_with fail
         refine (HD.out _).mono ?_
         rintro e w ⟨rfl, rfl⟩
         go_wp2_with fail
         go_ret
         exact ⟨by rw [HE.out]; simp [*], rfl⟩)
set_option maxRecDepth 100000 in
set_option maxHeartbeats 4000000 in
theorem runEnd_of (F : Nat) (P : Int → Bool) (hn : P (-1) = false) (he : ∀ args w, (callFunc F args).run Tryd.prog w = .ok (.enter F args) w)
    (HC : ∀ c w, Calls Tryd.prog F #[.int .u8 c] w fun e w' => e = .returned (.bool (P c)) ∧ w' = w) (s : ByteArray) (i : Nat) (hs : s.size ≤ 140737488355328) (hi : i ≤ s.size) (w : World) :
    Calls Tryd.prog 43 #[.string s, .int .i64 i, .func (.func F) #[] #[]] w fun e w' => e = .returned (.int .i64 (spN P s i)) ∧ w' = w := by
  have HP : Hid (∀ k (h : k < s.size) w, Calls Tryd.prog F #[.int .u8 (s[k].toNat : Int)] w fun e w' => e = .returned (.bool (P (chr s k))) ∧ w' = w) := fun k h w => by rw [chr_in h]; exact HC _ w
  have HN : Hid (∀ k, P (chr s k) = true → spN P s k = spN P s (k + 1)) := fun k h => (spN_next hn h).2
  have HS : Hid (∀ k, P (chr s k) = false → spN P s k = k) := fun k h => spN_stop h
  have HO : Hid (∀ k, ¬ k < s.size → spN P s k = k) := fun k h => spN_stop (by rw [chr_out h]; exact hn)
  clear HC
  go_enter Tryd.func43, Tryd.ntmps43
  go_wp2_with fail
  go_loopw [1] (fun t wr => ∃ k : Nat, k ≤ s.size ∧ t = .int .i64 k ∧ wr = w ∧ Hid (spN P s k = spN P s i)) (fun t _ => s.size - (intOf t).toNat)
  case atStart => exact ⟨i, hi, rfl, rfl, rfl⟩
  case round =>
    obtain ⟨k, hk, rfl, rfl, HI⟩ := hrel
    have z0 : (0 : Int) ≤ (k : Int) := by omega
    by_cases h1 : k < s.size
    · have z1 : (k : Int) < (s.size : Int) := by omega
      have HPk := (show Hid _ from HP.out k h1)
      cases hp : P (chr s k) with
      | true =>
        have HI2 : Hid (spN P s (k + 1) = spN P s i) := (HN.out k hp).symm.trans HI.out
        rw [hp] at HPk
        clear HP HN HS HO hp HI
        go_wp2_with fail
        refine (HPk.out _).mono ?_
        rintro e w ⟨rfl, rfl⟩
        go_wp2_with fail
        go_roundw
        case rel => exact ⟨k + 1, by omega, by go_num, trivial, HI2⟩
        case measure => simp [intOf]; omega
      | false =>
        have HI2 : Hid (spN P s i = k) := HI.out.symm.trans (HS.out k hp)
        rw [hp] at HPk
        clear HP HN HS HO hp HI
        go_wp2_with fail
        refine (HPk.out _).mono ?_
        rintro e w ⟨rfl, rfl⟩
        go_wp2_with fail
        go_ret
        exact ⟨by rw [HI2.out]; rfl, rfl⟩
    · have z1 : ¬ (k : Int) < (s.size : Int) := by omega
      have HI2 : Hid (spN P s i = k) := HI.out.symm.trans (HO.out k h1)
      clear HP HN HS HO HI
      go_wp2_with fail
      go_ret
      exact ⟨by rw [HI2.out]; rfl, rfl⟩
theorem runName_any (s : ByteArray) (i : Nat) (hs : s.size ≤ 140737488355328) (hi : i ≤ s.size) (w : World) :
    Calls Tryd.prog 43 #[.string s, .int .i64 i, .func (.func 44) #[] #[]] w fun e w' => e = .returned (.int .i64 (spN nmB s i)) ∧ w' = w := runEnd_of 44 nmB (by decide) (enters_of Tryd.func44 (by kernel_rfl) rfl) pofname_any s i hs hi w
theorem runDigit_any (s : ByteArray) (i : Nat) (hs : s.size ≤ 140737488355328) (hi : i ≤ s.size) (w : World) :
    Calls Tryd.prog 43 #[.string s, .int .i64 i, .func (.func 23) #[] #[]] w fun e w' => e = .returned (.int .i64 (spN dgB s i)) ∧ w' = w := runEnd_of 23 dgB (by decide) (enters_of Tryd.func23 (by kernel_rfl) rfl) pdigit_any s i hs hi w
theorem runHex_any (s : ByteArray) (i : Nat) (hs : s.size ≤ 140737488355328) (hi : i ≤ s.size) (w : World) :
    Calls Tryd.prog 43 #[.string s, .int .i64 i, .func (.func 84) #[] #[]] w fun e w' => e = .returned (.int .i64 (spN hxB s i)) ∧ w' = w := runEnd_of 84 hxB (by decide) (enters_of Tryd.func84 (by kernel_rfl) rfl) phexd_any s i hs hi w
end Go.Proofs.YthffklhojdldkaaDoor

namespace Go.Proofs.YthffklhojdldkaaDoor
open Go.RowKit
set_option maxRecDepth 100000 in
set_option maxHeartbeats 4000000 in
theorem head_any (c : Int) (w : World) : Calls Tryd.prog 30 #[.int .i64 c] w fun e w' => e = .returned (.bool (hdB c)) ∧ w' = w := by
  by_cases a1 : 97 ≤ c <;> by_cases a2 : c ≤ 122 <;> by_cases a3 : 65 ≤ c <;> by_cases a4 : c ≤ 90 <;> by_cases a5 : c = 95 <;> first
    | (exfalso; omega)
    | (subst a5; go_enter Tryd.func30, Tryd.ntmps30; go_wp2_with fail; go_ret; exact ⟨rfl, rfl⟩)
    | (have a6 : (c == 95) = false := beq_eq_false_iff_ne.2 a5; go_enter Tryd.func30, Tryd.ntmps30; go_wp2_with fail; go_ret; exact ⟨by simp [hdB, *], rfl⟩)
set_option maxRecDepth 100000 in
set_option maxHeartbeats 4000000 in
theorem digit_any (c : Int) (w : World) : Calls Tryd.prog 33 #[.int .i64 c] w fun e w' => e = .returned (.bool (dgB c)) ∧ w' = w := by
  by_cases a1 : 48 ≤ c <;> by_cases a2 : c ≤ 57 <;> first
    | (exfalso; omega)
    | (go_enter Tryd.func33, Tryd.ntmps33; go_wp2_with fail; go_ret; exact ⟨by simp [dgB, *], rfl⟩)
set_option maxRecDepth 100000 in
set_option maxHeartbeats 4000000 in
theorem digits_any (s : ByteArray) (i : Nat) (hs : s.size ≤ 140737488355328) (hi : i ≤ 140737488355500) (w : World) : Calls Tryd.prog 35 #[.string s, .int .i64 i] w fun e w' => e = .returned (.int .i64 (spN dgB s i)) ∧ w' = w := by
  have HA : Hid (∀ k w, Calls Tryd.prog 29 #[.string s, .int .i64 ((k : Nat) : Int)] w fun e w' => e = .returned (.int .i64 (chr s k)) ∧ w' = w) := fun k w => at_any s k w
  have HD : Hid (∀ c w, Calls Tryd.prog 33 #[.int .i64 c] w fun e w' => e = .returned (.bool (dgB c)) ∧ w' = w) := fun c w => digit_any c w
  have HN : Hid (∀ k, dgB (chr s k) = true → k < s.size ∧ spN dgB s k = spN dgB s (k + 1)) := fun k h => spN_next (by decide) h
  have HS : Hid (∀ k, dgB (chr s k) = false → spN dgB s k = k) := fun k h => spN_stop h
  go_enter Tryd.func35, Tryd.ntmps35
  go_wp2_with fail
  go_loopw [1] (fun t wr => ∃ k : Nat, k ≤ 140737488355500 ∧ t = .int .i64 k ∧ wr = w ∧ Hid (spN dgB s k = spN dgB s i)) (fun t _ => s.size - (intOf t).toNat)
  case atStart => exact ⟨i, hi, rfl, rfl, rfl⟩
  case round =>
    obtain ⟨k, hk, rfl, rfl, HI⟩ := hrel
    go_wp2_with fail
    refine (HA.out _ _).mono ?_
    rintro e w ⟨rfl, rfl⟩
    go_wp2_with fail
    refine (HD.out _ _).mono ?_
    rintro e w ⟨rfl, rfl⟩
    cases hd : dgB (chr s k) with
    | true =>
      obtain ⟨h1, h2⟩ := HN.out k hd
      have HI2 : Hid (spN dgB s (k + 1) = spN dgB s i) := h2.symm.trans HI.out
      clear HA HD HN HS hd h2 HI
      go_wp2_with fail
      go_roundw
      case rel => exact ⟨k + 1, by omega, by go_num, trivial, HI2⟩
      case measure => simp [intOf]; omega
    | false =>
      have HI2 : Hid (spN dgB s i = k) := HI.out.symm.trans (HS.out k hd)
      clear HA HD HN HS hd HI
      go_wp2_with fail
      go_ret
      exact ⟨by rw [HI2.out]; rfl, rfl⟩
set_option maxRecDepth 100000 in
set_option maxHeartbeats 4000000 in
theorem run_any (s : ByteArray) (i : Nat) (hs : s.size ≤ 140737488355328) (hi : i ≤ 140737488355500) (w : World) : Calls Tryd.prog 31 #[.string s, .int .i64 i] w fun e w' => e = .returned (.int .i64 (spN nmB s i)) ∧ w' = w := by
  have HA : Hid (∀ k w, Calls Tryd.prog 29 #[.string s, .int .i64 ((k : Nat) : Int)] w fun e w' => e = .returned (.int .i64 (chr s k)) ∧ w' = w) := fun k w => at_any s k w
  have HD : Hid (∀ c w, Calls Tryd.prog 33 #[.int .i64 c] w fun e w' => e = .returned (.bool (dgB c)) ∧ w' = w) := fun c w => digit_any c w
  have HH : Hid (∀ c w, Calls Tryd.prog 30 #[.int .i64 c] w fun e w' => e = .returned (.bool (hdB c)) ∧ w' = w) := fun c w => head_any c w
  have HN : Hid (∀ k, nmB (chr s k) = true → k < s.size ∧ spN nmB s k = spN nmB s (k + 1)) := fun k h => spN_next (by decide) h
  have HS : Hid (∀ k, nmB (chr s k) = false → spN nmB s k = k) := fun k h => spN_stop h
  go_enter Tryd.func31, Tryd.ntmps31
  go_wp2_with fail
  go_loopw [1] (fun t wr => ∃ k : Nat, k ≤ 140737488355500 ∧ t = .int .i64 k ∧ wr = w ∧ Hid (spN nmB s k = spN nmB s i)) (fun t _ => s.size - (intOf t).toNat)
  case atStart => exact ⟨i, hi, rfl, rfl, rfl⟩
  case round =>
    obtain ⟨k, hk, rfl, rfl, HI⟩ := hrel
    go_wp2_with fail
    refine (HA.out _ _).mono ?_
    rintro e w ⟨rfl, rfl⟩
    go_wp2_with fail
    refine (HH.out _ _).mono ?_
    rintro e w ⟨rfl, rfl⟩
    cases hh : hdB (chr s k) with
    | true =>
      obtain ⟨h1, h2⟩ := HN.out k (by unfold nmB; rw [hh]; rfl)
      have HI2 : Hid (spN nmB s (k + 1) = spN nmB s i) := h2.symm.trans HI.out
      clear HA HD HH HN HS hh h2 HI
      go_wp2_with fail
      go_roundw
      case rel => exact ⟨k + 1, by omega, by go_num, trivial, HI2⟩
      case measure => simp [intOf]; omega
    | false =>
      go_wp2_with fail
      refine (HA.out _ _).mono ?_
      rintro e w ⟨rfl, rfl⟩
      go_wp2_with fail
      refine (HD.out _ _).mono ?_
      rintro e w ⟨rfl, rfl⟩
      cases hd : dgB (chr s k) with
      | true =>
        obtain ⟨h1, h2⟩ := HN.out k (by unfold nmB; rw [hh, hd]; rfl)
        have HI2 : Hid (spN nmB s (k + 1) = spN nmB s i) := h2.symm.trans HI.out
        clear HA HD HH HN HS hh hd h2 HI
        go_wp2_with fail
        go_roundw
        case rel => exact ⟨k + 1, by omega, by go_num, trivial, HI2⟩
        case measure => simp [intOf]; omega
      | false =>
        have HI2 : Hid (spN nmB s i = k) := HI.out.symm.trans (HS.out k (by unfold nmB; rw [hh, hd]; rfl))
        clear HA HD HH HN HS hh hd HI
        go_wp2_with fail
        go_ret
        exact ⟨by rw [HI2.out]; rfl, rfl⟩
set_option maxRecDepth 100000 in
set_option maxHeartbeats 4000000 in
theorem worth_any (s : ByteArray) (base : Int) (hb : 0 ≤ base ∧ base ≤ 16) (hs : s.size ≤ 7) (w : World) : Calls Tryd.prog 55 #[.string s, .int .i64 base] w fun e w' => e = .returned (.int .i64 (wthR s 0 base s.size)) ∧ w' = w := by
  have HX : Hid (∀ k (h : k < s.size) w, Calls Tryd.prog 74 #[.int .u8 (s[k].toNat : Int)] w fun e w' => e = .returned (.int .i64 (hexV (chr s k))) ∧ w' = w) := fun k h w => by
    have := hexDigit_any s[k] w
    rw [← chr_in h] at this
    rw [← chr_in h]
    exact this
  have HB : Hid (∀ k, k ≤ 7 → -268435456 ≤ wthR s 0 base k ∧ wthR s 0 base k ≤ 268435456) := fun k hk => by
    have h1 := wthR_bd s 0 base hb k
    have h2 : (16 : Int) ^ k ≤ 16 ^ 7 := by
      have : (16 : Nat) ^ k ≤ 16 ^ 7 := Nat.pow_le_pow_right (by omega) hk
      exact_mod_cast this
    omega
  go_enter Tryd.func55, Tryd.ntmps55
  go_wp2_with fail
  go_loopw [5, 6] (fun v t wr => ∃ k : Nat, k ≤ s.size ∧ t = .int .i64 k ∧ v = .int .i64 (wthR s 0 base k) ∧ wr = w) (fun _ t _ => s.size - (intOf t).toNat)
  case atStart => exact ⟨0, by omega, by go_num, rfl, rfl⟩
  case round =>
    obtain ⟨k, hk, rfl, rfl, rfl⟩ := hrel
    by_cases hlt : k < s.size
    · have z0 : (0 : Int) ≤ (k : Int) := by omega
      have z1 : (k : Int) < (s.size : Int) := by omega
      have h1 := HB.out k (by omega)
      have h2 := HB.out (k + 1) (by omega)
      have HE : Hid (wthR s 0 base (k + 1) = wthR s 0 base k * base + hexV (chr s k)) := by show wthR s 0 base (k + 1) = _; rw [wthR, Nat.zero_add]
      have hx := hexV_bd (chr s k)
      have h3 : -4294967296 ≤ wthR s 0 base k * base ∧ wthR s 0 base k * base ≤ 4294967296 := by
        rw [HE.out] at h2
        omega
      have u1 : IntKind.i64.wrap (wthR s 0 base k * base) = wthR s 0 base k * base := by rw [IntKind.wrap_i64]; omega
      have u2 : IntKind.i64.wrap (wthR s 0 base k * base + hexV (chr s k)) = wthR s 0 base (k + 1) := by rw [HE.out, IntKind.wrap_i64]; omega
      have HXk := (show Hid (∀ w, Calls Tryd.prog 74 #[.int .u8 (s[k].toNat : Int)] w fun e w' => e = .returned (.int .i64 (hexV (chr s k))) ∧ w' = w) from HX.out k hlt)
      clear HX HB HE h1 h2 h3
      go_wp2_with fail
      refine (HXk.out _).mono ?_
      rintro e w ⟨rfl, rfl⟩
      clear HXk
      go_wp2_with fail
      go_roundw
      case rel => exact ⟨k + 1, by omega, by go_num, rfl, trivial⟩
      case measure => simp [intOf]; omega
    · obtain rfl : k = s.size := by omega
      clear HX HB
      go_wp2_with fail
      go_ret
      exact ⟨rfl, rfl⟩
end Go.Proofs.YthffklhojdldkaaDoor

namespace Go.Proofs.YthffklhojdldkaaDoor
open Go.RowKit
theorem below_box (w : World) (o : Obj) : Below w.heap.size w (w.alloc o) := Below.alloc (Below.refl _ _) (Nat.le_refl _) o
abbrev tkC (t : Tk) : Array Value := #[.int .i64 t.kd, .int .i64 t.nn, .int .i64 t.fr, .int .i64 t.en, .string t.tx, .int .u64 t.s0, .int .u64 t.s1, .int .u64 t.s2, .int .u64 t.s3]
abbrev tkO (t : Tk) : Obj := .cells #[.int .i64 t.kd, .int .i64 t.nn, .int .i64 t.fr, .int .i64 t.en, .string t.tx, .int .u64 t.s0, .int .u64 t.s1, .int .u64 t.s2, .int .u64 t.s3] 36
structure TX (W : World) (b : Nat) (t : Tk) : Prop where
  heap : W.heap[b]? = some (.cells (tkC t) 36 (0, 0))
theorem TX.lt {W : World} {b : Nat} {t : Tk} (h : TX W b t) : b < W.heap.size := (Array.getElem?_eq_some_iff.1 h.heap).1
theorem TX.same {W W' : World} {b : Nat} {t : Tk} (h : TX W b t) (hb : W'.heap[b]? = W.heap[b]?) : TX W' b t := ⟨hb.trans h.heap⟩
theorem TX.below {W W' : World} {b : Nat} {t : Tk} (h : TX W b t) (hb : Below W.heap.size W W') : TX W' b t := h.same (hb.block b h.lt)
theorem TX.new (W : World) (t : Tk) : TX (W.alloc (tkO t)) W.heap.size t := ⟨heap_alloc_new W _⟩
/-- Its cells. -/
structure TC (W : World) (b : Nat) (t : Tk) : Prop where
  c0 : W.cell? ⟨b, 0, none⟩ = some (.int .i64 t.kd)
  c1 : W.cell? ⟨b, 1, none⟩ = some (.int .i64 t.nn)
  c2 : W.cell? ⟨b, 2, none⟩ = some (.int .i64 t.fr)
  c3 : W.cell? ⟨b, 3, none⟩ = some (.int .i64 t.en)
  c4 : W.cell? ⟨b, 4, none⟩ = some (.string t.tx)
  c5 : W.cell? ⟨b, 5, none⟩ = some (.int .u64 t.s0)
  c6 : W.cell? ⟨b, 6, none⟩ = some (.int .u64 t.s1)
  c7 : W.cell? ⟨b, 7, none⟩ = some (.int .u64 t.s2)
  c8 : W.cell? ⟨b, 8, none⟩ = some (.int .u64 t.s3)
structure TF (W : World) (b : Nat) : Prop where
  f0 : W.frozen? ⟨b, 0, none⟩ = false
  f1 : W.frozen? ⟨b, 1, none⟩ = false
  f2 : W.frozen? ⟨b, 2, none⟩ = false
  f3 : W.frozen? ⟨b, 3, none⟩ = false
  f4 : W.frozen? ⟨b, 4, none⟩ = false
  f5 : W.frozen? ⟨b, 5, none⟩ = false
  f6 : W.frozen? ⟨b, 6, none⟩ = false
  f7 : W.frozen? ⟨b, 7, none⟩ = false
  f8 : W.frozen? ⟨b, 8, none⟩ = false
theorem TX.cells {W : World} {b : Nat} {t : Tk} (h : TX W b t) : TC W b t := by
  have key : ∀ (j : Nat) u, (tkC t)[j]? = some u → W.cell? ⟨b, j, none⟩ = some u := fun j u hu => by
    rw [cell_of_row W b j _ 36 (0, 0) h.heap]; exact hu
  exact ⟨key 0 _ rfl, key 1 _ rfl, key 2 _ rfl, key 3 _ rfl, key 4 _ rfl, key 5 _ rfl, key 6 _ rfl, key 7 _ rfl, key 8 _ rfl⟩
theorem TX.fz {W : World} {b : Nat} {t : Tk} (h : TX W b t) : TF W b := ⟨frozen_of_row W b 0 _ 36 h.heap, frozen_of_row W b 1 _ 36 h.heap, frozen_of_row W b 2 _ 36 h.heap, frozen_of_row W b 3 _ 36 h.heap, frozen_of_row W b 4 _ 36 h.heap, frozen_of_row W b 5 _ 36 h.heap, frozen_of_row W b 6 _ 36 h.heap, frozen_of_row W b 7 _ 36 h.heap, frozen_of_row W b 8 _ 36 h.heap⟩
/-- A token laid into a box. -/
abbrev st9 (W : World) (b : Nat) (t : Tk) : World := ((((((((W.setCell ⟨b, 0, none⟩ (.int .i64 t.kd)).setCell ⟨b, 1, none⟩ (.int .i64 t.nn)).setCell ⟨b, 2, none⟩ (.int .i64 t.fr)).setCell ⟨b, 3, none⟩ (.int .i64 t.en)).setCell ⟨b, 4, none⟩ (.string t.tx)).setCell ⟨b, 5, none⟩ (.int .u64 t.s0)).setCell ⟨b, 6, none⟩ (.int .u64 t.s1)).setCell ⟨b, 7, none⟩ (.int .u64 t.s2)).setCell ⟨b, 8, none⟩ (.int .u64 t.s3)
set_option maxHeartbeats 2000000 in
theorem st9_tx {W : World} {b : Nat} {t0 : Tk} (h : TX W b t0) (t : Tk) : TX (st9 W b t) b t := by
  have h := h.heap
  have h0 := heap_setCell_same _ b 0 _ 36 (.int .i64 t.kd) h
  have h1 := heap_setCell_same _ b 1 _ 36 (.int .i64 t.nn) h0
  have h2 := heap_setCell_same _ b 2 _ 36 (.int .i64 t.fr) h1
  have h3 := heap_setCell_same _ b 3 _ 36 (.int .i64 t.en) h2
  have h4 := heap_setCell_same _ b 4 _ 36 (.string t.tx) h3
  have h5 := heap_setCell_same _ b 5 _ 36 (.int .u64 t.s0) h4
  have h6 := heap_setCell_same _ b 6 _ 36 (.int .u64 t.s1) h5
  have h7 := heap_setCell_same _ b 7 _ 36 (.int .u64 t.s2) h6
  have h8 := heap_setCell_same _ b 8 _ 36 (.int .u64 t.s3) h7
  refine ⟨?_⟩
  rw [h8]
  simp
theorem st9_below {B : Nat} {w W : World} {b : Nat} (h : Below B w W) (hb : B ≤ b) (t : Tk) : Below B w (st9 W b t) := ((((((((h.setCell (p := ⟨b, 0, none⟩) hb _).setCell (p := ⟨b, 1, none⟩) hb _).setCell (p := ⟨b, 2, none⟩) hb _).setCell (p := ⟨b, 3, none⟩) hb _).setCell (p := ⟨b, 4, none⟩) hb _).setCell (p := ⟨b, 5, none⟩) hb _).setCell (p := ⟨b, 6, none⟩) hb _).setCell (p := ⟨b, 7, none⟩) hb _).setCell (p := ⟨b, 8, none⟩) hb _
theorem ret_tok {fn : Func} {R : Ending → World → Prop} {a : Act} {W : World} {b : Nat} {t : Tk} {p e : Int} (hF : fn.results = #[.cell 4 36, .tmp 5, .tmp 6]) (hd : a.defers = []) (h4 : a.tmps.getD 4 undef = .pointer (some ⟨b, 0, none⟩)) (h5 : a.tmps.getD 5 undef = .int .i64 p) (h6 : a.tmps.getD 6 undef = .int .i64 e) (hT : TX W b t) (hR : R (.returned (.tuple #[tkG t, .int .i64 p, .int .i64 e])) W) : bodyPost Tryd.prog fn R .ret a W := by
  obtain ⟨c0, c1, c2, c3, c4, c5, c6, c7, c8⟩ := hT.cells
  refine bodyPost_ret (v := .tuple #[tkG t, .int .i64 p, .int .i64 e]) ?_ hd hR
  simp only [Array.getD_eq_getD_getElem?] at h4 h5 h6
  simp [results, hF, go_sem, h4, h5, h6, c0, c1, c2, c3, c4, c5, c6, c7, c8]

set_option maxRecDepth 100000 in
set_option maxHeartbeats 4000000 in
theorem wrong_any (i e0 : Int) (w : World) : Calls Tryd.prog 32 #[.int .i64 i, .int .i64 e0] w fun e w' => e = .returned (.tuple #[tkG tk0, .int .i64 i, .int .i64 e0]) ∧ Below w.heap.size w w' := by
  have HX := (show Hid (TX (w.alloc (tkO tk0)) w.heap.size tk0) from TX.new w tk0)
  have HB := (show Hid (Below w.heap.size w (w.alloc (tkO tk0))) from below_box w _)
  go_enter Tryd.func32, Tryd.ntmps32
  go_wp2_with fail
  exact ret_tok rfl rfl rfl rfl rfl HX.out ⟨rfl, HB.out⟩
end Go.Proofs.YthffklhojdldkaaDoor

namespace Go.Proofs.YthffklhojdldkaaDoor
open Go.RowKit
abbrev fxO (p e : Int) : Obj := .cells #[.int .i64 p, .int .i64 e] 26
structure FX (W : World) (b : Nat) (p e : Int) : Prop where
  heap : W.heap[b]? = some (.cells #[.int .i64 p, .int .i64 e] 26 (0, 0))
theorem FX.lt {W : World} {b : Nat} {p e : Int} (h : FX W b p e) : b < W.heap.size := (Array.getElem?_eq_some_iff.1 h.heap).1
theorem FX.below {W W' : World} {b : Nat} {p e : Int} (h : FX W b p e) (hb : Below W.heap.size W W') : FX W' b p e := ⟨(hb.block b h.lt).trans h.heap⟩
theorem FX.c0 {W : World} {b : Nat} {p e : Int} (h : FX W b p e) : W.cell? ⟨b, 0, none⟩ = some (.int .i64 p) := by rw [cell_of_row W b 0 _ 26 (0, 0) h.heap]; rfl
theorem FX.c1 {W : World} {b : Nat} {p e : Int} (h : FX W b p e) : W.cell? ⟨b, 1, none⟩ = some (.int .i64 e) := by rw [cell_of_row W b 1 _ 26 (0, 0) h.heap]; rfl
theorem FX.f0 {W : World} {b : Nat} {p e : Int} (h : FX W b p e) : W.frozen? ⟨b, 0, none⟩ = false := frozen_of_row W b 0 _ 26 h.heap
theorem FX.f1 {W : World} {b : Nat} {p e : Int} (h : FX W b p e) : W.frozen? ⟨b, 1, none⟩ = false := frozen_of_row W b 1 _ 26 h.heap
/-- The call's two boxes. -/
structure BX (w W : World) (t : Tk) (p e : Int) : Prop where
  b : Below w.heap.size w W
  x : TX W w.heap.size t
  f : FX W (w.heap.size + 1) p e
theorem BX.made (w : World) (t : Tk) (p e : Int) : BX w ((w.alloc (tkO t)).alloc (fxO p e)) t p e := by
  have h1 : (w.alloc (tkO t)).heap.size = w.heap.size + 1 := World.size_alloc _ _
  refine ⟨(below_box w _).alloc (by omega) _, (TX.new w t).below (below_box _ _), ⟨?_⟩⟩
  have h := heap_alloc_new (w.alloc (tkO t)) (fxO p e)
  rw [h1] at h
  exact h
theorem BX.new (w : World) : BX w ((w.alloc (tkO tk0)).alloc (fxO 0 0)) tk0 0 0 := BX.made w tk0 0 0
theorem BX.below {w W W' : World} {t : Tk} {p e : Int} (h : BX w W t p e) (hb : Below W.heap.size W W') : BX w W' t p e := ⟨h.b.trans (hb.mono h.b.size), h.x.below hb, h.f.below hb⟩
theorem BX.size {w W : World} {t : Tk} {p e : Int} (h : BX w W t p e) : w.heap.size + 1 < W.heap.size := h.f.lt
/-- What must be known of the boxes to store into them. -/
structure BF (w W : World) : Prop where
  x0 : W.frozen? ⟨w.heap.size, 0, none⟩ = false
  x1 : W.frozen? ⟨w.heap.size, 1, none⟩ = false
  x2 : W.frozen? ⟨w.heap.size, 2, none⟩ = false
  x3 : W.frozen? ⟨w.heap.size, 3, none⟩ = false
  x4 : W.frozen? ⟨w.heap.size, 4, none⟩ = false
  x5 : W.frozen? ⟨w.heap.size, 5, none⟩ = false
  x6 : W.frozen? ⟨w.heap.size, 6, none⟩ = false
  x7 : W.frozen? ⟨w.heap.size, 7, none⟩ = false
  x8 : W.frozen? ⟨w.heap.size, 8, none⟩ = false
  f0 : W.frozen? ⟨w.heap.size + 1, 0, none⟩ = false
  f1 : W.frozen? ⟨w.heap.size + 1, 1, none⟩ = false
structure BC (w W : World) (t : Tk) (p e : Int) : Prop where
  c0 : W.cell? ⟨w.heap.size, 0, none⟩ = some (.int .i64 t.kd)
  c1 : W.cell? ⟨w.heap.size, 1, none⟩ = some (.int .i64 t.nn)
  c2 : W.cell? ⟨w.heap.size, 2, none⟩ = some (.int .i64 t.fr)
  c3 : W.cell? ⟨w.heap.size, 3, none⟩ = some (.int .i64 t.en)
  c4 : W.cell? ⟨w.heap.size, 4, none⟩ = some (.string t.tx)
  c5 : W.cell? ⟨w.heap.size, 5, none⟩ = some (.int .u64 t.s0)
  c6 : W.cell? ⟨w.heap.size, 6, none⟩ = some (.int .u64 t.s1)
  c7 : W.cell? ⟨w.heap.size, 7, none⟩ = some (.int .u64 t.s2)
  c8 : W.cell? ⟨w.heap.size, 8, none⟩ = some (.int .u64 t.s3)
  d0 : W.cell? ⟨w.heap.size + 1, 0, none⟩ = some (.int .i64 p)
  d1 : W.cell? ⟨w.heap.size + 1, 1, none⟩ = some (.int .i64 e)
theorem BX.fz {w W : World} {t : Tk} {p e : Int} (h : BX w W t p e) : BF w W := by
  obtain ⟨a, b, c, d, e, f, g, i, j⟩ := h.x.fz
  exact ⟨a, b, c, d, e, f, g, i, j, h.f.f0, h.f.f1⟩
theorem BX.cells {w W : World} {t : Tk} {p e : Int} (h : BX w W t p e) : BC w W t p e := by
  obtain ⟨a, b, c, d, e, f, g, i, j⟩ := h.x.cells
  exact ⟨a, b, c, d, e, f, g, i, j, h.f.c0, h.f.c1⟩
/-- Both laid. -/
abbrev stF (W : World) (b : Nat) (p e : Int) : World := (W.setCell ⟨b, 0, none⟩ (.int .i64 p)).setCell ⟨b, 1, none⟩ (.int .i64 e)
theorem stF_fx {W : World} {b : Nat} {p0 e0 : Int} (h : FX W b p0 e0) (p e : Int) : FX (stF W b p e) b p e := by
  have h := h.heap
  have h0 := heap_setCell_same _ b 0 _ 26 (.int .i64 p) h
  have h1 := heap_setCell_same _ b 1 _ 26 (.int .i64 e) h0
  refine ⟨?_⟩
  rw [h1]
  simp
theorem stF_other {W : World} {b k : Nat} (p e : Int) (hk : k ≠ b) : (stF W b p e).heap[k]? = W.heap[k]? := by
  rw [Below.heap_setCell _ _ _ _ hk, Below.heap_setCell _ _ _ _ hk]
theorem st9_other {W : World} {b k : Nat} (t : Tk) (hk : k ≠ b) : (st9 W b t).heap[k]? = W.heap[k]? := by
  rw [Below.heap_setCell _ _ _ _ hk, Below.heap_setCell _ _ _ _ hk, Below.heap_setCell _ _ _ _ hk, Below.heap_setCell _ _ _ _ hk, Below.heap_setCell _ _ _ _ hk, Below.heap_setCell _ _ _ _ hk, Below.heap_setCell _ _ _ _ hk, Below.heap_setCell _ _ _ _ hk, Below.heap_setCell _ _ _ _ hk]
theorem BX.put {w W : World} {t0 : Tk} {p0 e0 : Int} (h : BX w W t0 p0 e0) (t : Tk) (p e : Int) : BX w (stF (st9 W w.heap.size t) (w.heap.size + 1) p e) t p e := by
  refine ⟨?_, ⟨?_⟩, ?_⟩
  · exact ((st9_below h.b (Nat.le_refl _) t).setCell (p := ⟨w.heap.size + 1, 0, none⟩) (by show w.heap.size ≤ w.heap.size + 1; omega) _).setCell (p := ⟨w.heap.size + 1, 1, none⟩) (by show w.heap.size ≤ w.heap.size + 1; omega) _
  · rw [stF_other p e (by omega)]; exact (st9_tx h.x t).heap
  · exact stF_fx ⟨(st9_other t (by omega)).trans h.f.heap⟩ p e
/-- What a reader answers. -/
abbrev pairV (t : Tk) (p e : Int) : Value := .tuple #[tkG t, .agg #[.int .i64 p, .int .i64 e]]
def tokP : Sum Tk (Nat × Int) → Value
  | .inl t => pairV t 0 0
  | .inr q => pairV tk0 q.1 q.2
theorem ret_bx {fn : Func} {R : Ending → World → Prop} {a : Act} {w W : World} {t : Tk} {p e : Int} {i j : Nat} (hF : fn.results = #[.cell i 36, .cell j 26]) (hd : a.defers = []) (h4 : a.tmps.getD i undef = .pointer (some ⟨w.heap.size, 0, none⟩)) (h5 : a.tmps.getD j undef = .pointer (some ⟨w.heap.size + 1, 0, none⟩)) (hT : BX w W t p e) (hR : R (.returned (pairV t p e)) W) : bodyPost Tryd.prog fn R .ret a W := by
  obtain ⟨c0, c1, c2, c3, c4, c5, c6, c7, c8, d0, d1⟩ := hT.cells
  refine bodyPost_ret (v := pairV t p e) ?_ hd hR
  simp only [Array.getD_eq_getD_getElem?] at h4 h5
  simp [results, hF, go_sem, h4, h5, c0, c1, c2, c3, c4, c5, c6, c7, c8, d0, d1]

set_option maxRecDepth 100000 in
set_option maxHeartbeats 4000000 in
theorem fault_any (i e0 : Int) (w : World) : Calls Tryd.prog 45 #[.int .i64 i, .int .i64 e0] w fun e w' => e = .returned (pairV tk0 i e0) ∧ Below w.heap.size w w' := by
  go_enter Tryd.func45, Tryd.ntmps45
  go_wp2_with fail
  exact ret_bx rfl rfl rfl rfl (BX.made w tk0 i e0) ⟨rfl, (BX.made w tk0 i e0).b⟩
/-- Does a text of some bytes stand at a place? -/
def pfx (s : ByteArray) (i : Nat) : List UInt8 → Bool
  | [] => true
  | c :: l => chr s i == (c.toNat : Int) && pfx s (i + 1) l
theorem pfx_tail (s : ByteArray) : ∀ (p : List UInt8) (i : Nat), i ≤ s.size → p.isPrefixOf (s.extract i s.size).data.toList = pfx s i p := by
  intro p
  induction p with
  | nil => intro i _; simp [pfx]
  | cons c p ih =>
    intro i hi
    rw [pfx]
    by_cases h : i < s.size
    · have e : (s.extract i s.size).data.toList = s[i] :: (s.extract (i + 1) s.size).data.toList := by
        have h1 : s.data.size = s.size := rfl
        have hd : i < s.data.size := h
        rw [ByteArray.data_extract, ByteArray.data_extract, Array.toList_extract, Array.toList_extract, List.extract_eq_take_drop, List.extract_eq_take_drop,
          List.take_of_length_le (by rw [List.length_drop, Array.length_toList]; omega), List.take_of_length_le (by rw [List.length_drop, Array.length_toList]; omega),
          List.drop_eq_getElem_cons (by rw [Array.length_toList]; omega)]
        rfl
      rw [e, List.isPrefixOf, ih (i + 1) (by omega), chr_in h]
      congr 1
      by_cases q : c = s[i]
      · subst q; simp
      · have h2 : ¬ (s[i].toNat : Int) = (c.toNat : Int) := fun e => q (UInt8.toNat_inj.1 (by omega))
        rw [beq_eq_false_iff_ne.2 q, beq_eq_false_iff_ne.2 h2]
    · have e : (s.extract i s.size).data.toList = [] := by
        have h1 : (s.extract i s.size).size = 0 := by rw [ByteArray.size_extract]; omega
        exact List.eq_nil_of_length_eq_zero h1
      have : ((-1 : Int) == (c.toNat : Int)) = false := by rw [beq_eq_false_iff_ne]; omega
      rw [e, chr_out h, this]; rfl
set_option maxRecDepth 100000 in
set_option maxHeartbeats 4000000 in
theorem stands_any (s : ByteArray) (i : Nat) (p : ByteArray) (hi : i ≤ s.size) (w : World) : Calls Tryd.prog 15 #[.string s, .int .i64 i, .string p] w fun e w' => e = .returned (.bool (pfx s i p.data.toList)) ∧ w' = w := by
  have H : Hid (∀ w, Calls Tryd.prog 20 #[.string (s.extract i s.size), .string p] w fun e w' => e = .returned (.bool (pfx s i p.data.toList)) ∧ w' = w) := fun w => by
    have h := Tryd.strings_HasPrefix (s.extract i s.size) p w
    rw [Lib.hasPrefix, pfx_tail s _ i hi] at h
    exact h
  have z0 : (0 : Int) ≤ (i : Int) := by omega
  have z1 : (i : Int) ≤ (s.size : Int) := by omega
  go_enter Tryd.func15, Tryd.ntmps15
  go_wp2_with fail
  refine (H.out _).mono ?_
  rintro e w ⟨rfl, rfl⟩
  go_wp2_with fail
  go_ret
  exact ⟨rfl, rfl⟩
set_option maxRecDepth 100000 in
set_option maxHeartbeats 4000000 in
theorem lineEnd_any (s : ByteArray) (i : Nat) (hs : s.size ≤ 140737488355328) (hi : i ≤ s.size) (w : World) : Calls Tryd.prog 16 #[.string s, .int .i64 i] w fun e w' => e = .returned (.int .i64 (spN lnB s i)) ∧ w' = w := by
  have HN : Hid (∀ k, lnB (chr s k) = true → spN lnB s k = spN lnB s (k + 1)) := fun k h => (spN_next (by decide) h).2
  have HS : Hid (∀ k, lnB (chr s k) = false → spN lnB s k = k) := fun k h => spN_stop h
  go_enter Tryd.func16, Tryd.ntmps16
  go_wp2_with fail
  go_loopw [1] (fun t wr => ∃ k : Nat, k ≤ s.size ∧ t = .int .i64 k ∧ wr = w ∧ Hid (spN lnB s k = spN lnB s i)) (fun t _ => s.size - (intOf t).toNat)
  case atStart => exact ⟨i, hi, rfl, rfl, rfl⟩
  case round =>
    obtain ⟨k, hk, rfl, rfl, HI⟩ := hrel
    have z0 : (0 : Int) ≤ (k : Int) := by omega
    by_cases h1 : k < s.size
    · have z1 : (k : Int) < (s.size : Int) := by omega
      have hc := chr_in h1
      have hb := chr_le s k
      by_cases h10 : chr s k = 10
      · have v : ((s[k].toNat : Int) != 10) = false := by rw [← hc, h10]; rfl
        have HI2 : Hid (spN lnB s i = k) := HI.out.symm.trans (HS.out k (by rw [h10]; rfl))
        clear HN HS HI hc hb h10
        go_wp2_with fail
        go_ret
        exact ⟨by rw [HI2.out]; rfl, rfl⟩
      · have v : ((s[k].toNat : Int) != 10) = true := by rw [← hc, bne, beq_eq_false_iff_ne.2 h10]; rfl
        have HI2 : Hid (spN lnB s (k + 1) = spN lnB s i) := (HN.out k (by unfold lnB; rw [beq_eq_false_iff_ne.2 h10, decide_eq_true (show 0 ≤ chr s k by rw [hc]; omega)]; rfl)).symm.trans HI.out
        clear HN HS HI hc hb h10
        go_wp2_with fail
        go_roundw
        case rel => exact ⟨k + 1, by omega, by go_num, trivial, HI2⟩
        case measure => simp [intOf]; omega
    · have z1 : ¬ (k : Int) < (s.size : Int) := by omega
      have HI2 : Hid (spN lnB s i = k) := HI.out.symm.trans (HS.out k (by rw [chr_out h1]; rfl))
      clear HN HS HI
      go_wp2_with fail
      go_ret
      exact ⟨by rw [HI2.out]; rfl, rfl⟩
set_option maxRecDepth 100000 in
set_option maxHeartbeats 4000000 in
theorem blanks_any (s : ByteArray) (i : Nat) (hs : s.size ≤ 140737488355328) (hi : i ≤ s.size) (w : World) : Calls Tryd.prog 14 #[.string s, .int .i64 i] w fun e w' => e = .returned (.int .i64 (spN blB s i)) ∧ w' = w := by
  have HN : Hid (∀ k, blB (chr s k) = true → spN blB s k = spN blB s (k + 1)) := fun k h => (spN_next (by decide) h).2
  have HS : Hid (∀ k, blB (chr s k) = false → spN blB s k = k) := fun k h => spN_stop h
  go_enter Tryd.func14, Tryd.ntmps14
  go_wp2_with fail
  go_step3
  go_wp2_with fail
  go_step3
  go_wp2_with fail
  go_loopw [1] (fun t wr => ∃ k : Nat, k ≤ s.size ∧ t = .int .i64 k ∧ wr = w ∧ Hid (spN blB s k = spN blB s i)) (fun t _ => s.size - (intOf t).toNat)
  case atStart => exact ⟨i, hi, rfl, rfl, rfl⟩
  case round =>
    obtain ⟨k, hk, rfl, rfl, HI⟩ := hrel
    have z0 : (0 : Int) ≤ (k : Int) := by omega
    by_cases h1 : k < s.size
    · have z1 : (k : Int) < (s.size : Int) := by omega
      have hc := chr_in h1
      cases hb : blB (chr s k) with
      | true =>
        have HI2 : Hid (spN blB s (k + 1) = spN blB s i) := (HN.out k hb).symm.trans HI.out
        have hor : chr s k = 9 ∨ chr s k = 10 ∨ chr s k = 13 ∨ chr s k = 32 := by
          unfold blB at hb
          simpa [Bool.or_eq_true, or_assoc] using hb
        rw [hc] at hor
        clear HN HS HI hc hb
        rcases hor with hv | hv | hv | hv
        · have v0 : ((s[k].toNat : Int) == 9) = true := by rw [hv]; rfl
          clear hv
          go_wp2_with fail
          go_roundw
          case rel => exact ⟨k + 1, by omega, by go_num, trivial, HI2⟩
          case measure => simp [intOf]; omega
        · have v0 : ((s[k].toNat : Int) == 9) = false := by rw [hv]; rfl
          have v1 : ((s[k].toNat : Int) == 10) = true := by rw [hv]; rfl
          clear hv
          go_wp2_with fail
          go_roundw
          case rel => exact ⟨k + 1, by omega, by go_num, trivial, HI2⟩
          case measure => simp [intOf]; omega
        · have v0 : ((s[k].toNat : Int) == 9) = false := by rw [hv]; rfl
          have v1 : ((s[k].toNat : Int) == 10) = false := by rw [hv]; rfl
          have v2 : ((s[k].toNat : Int) == 13) = true := by rw [hv]; rfl
          clear hv
          go_wp2_with fail
          go_roundw
          case rel => exact ⟨k + 1, by omega, by go_num, trivial, HI2⟩
          case measure => simp [intOf]; omega
        · have v0 : ((s[k].toNat : Int) == 9) = false := by rw [hv]; rfl
          have v1 : ((s[k].toNat : Int) == 10) = false := by rw [hv]; rfl
          have v2 : ((s[k].toNat : Int) == 13) = false := by rw [hv]; rfl
          have v3 : ((s[k].toNat : Int) == 32) = true := by rw [hv]; rfl
          clear hv
          go_wp2_with fail
          go_roundw
          case rel => exact ⟨k + 1, by omega, by go_num, trivial, HI2⟩
          case measure => simp [intOf]; omega
      | false =>
        have HI2 : Hid (spN blB s i = k) := HI.out.symm.trans (HS.out k hb)
        rw [hc] at hb
        unfold blB at hb
        simp only [Bool.or_eq_false_iff] at hb
        obtain ⟨⟨⟨v1, v2⟩, v3⟩, v4⟩ := hb
        clear HN HS HI hc
        go_wp2_with fail
        rw [Exit.noGoto_ret]
        go_ret
        exact ⟨by rw [HI2.out]; rfl, rfl⟩
    · have z1 : ¬ (k : Int) < (s.size : Int) := by omega
      have HI2 : Hid (spN blB s i = k) := HI.out.symm.trans (HS.out k (by rw [chr_out h1]; rfl))
      clear HN HS HI
      go_wp2_with fail
      first | go_ret | (rw [Exit.noGoto_ret]; go_ret)
      exact ⟨by rw [HI2.out]; rfl, rfl⟩
end Go.Proofs.YthffklhojdldkaaDoor
