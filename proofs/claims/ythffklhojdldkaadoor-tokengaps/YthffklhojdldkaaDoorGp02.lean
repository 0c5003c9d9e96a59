/- DERIVED. Plain mathematics and walks, laid together (2). -/
import Derived.WalkKit
import Derived.Lib.AtoiErrMem
import Derived.Deep.MidRow
import Derived.Test.YthffklhojdldkaaDoorCards
import Derived.Test.YthffklhojdldkaaDoorTie
import Derived.ProofKit
import Derived.OpenShut
import Derived.ShutString
import Derived.ChangeOld
import Derived.ChangeSame
import Derived.SizedLaws
import Derived.FnData
import Derived.Deep.DeepHandedRow
import Derived.Test.YthffklhojdldkaaDoorGp01
namespace Go.Proofs.YthffklhojdldkaaDoor
open Go.RowKit
set_option maxRecDepth 100000 in
set_option maxHeartbeats 1000000 in
theorem standsAt_any (s : ByteArray) (i : Nat) (c : Int) (hc : 0 ≤ c) (w : World) :
    Calls Tryd.prog 68 #[.string s, .int .i64 i, .int .u8 c] w fun e w' => e = .returned (.bool (chr s i == c)) ∧ w' = w := by
  by_cases h : i < s.size
  · have HE := (show Hid _ from chr_in h)
    have h0 : (0 : Int) ≤ (i : Int) := by omega
    have h1 : (i : Int) < (s.size : Int) := by omega
    go_enter Tryd.func68, Tryd.ntmps68
    go_wp2
    go_ret
    exact ⟨by rw [HE.out]; rfl, rfl⟩
  · have HE : Hid ((chr s i == c) = false) := (by show (chr s i == c) = false; rw [chr_out h]; exact beq_eq_false_iff_ne.2 (by omega))
    have h1 : ¬ (i : Int) < (s.size : Int) := by omega
    go_enter Tryd.func68, Tryd.ntmps68
    go_wp2
    go_ret
    exact ⟨ret_bool HE.out.symm, rfl⟩

/-- The digits of 16. -/
abbrev digs : ByteArray := ⟨#[48, 49, 50, 51, 52, 53, 54, 55, 56, 57, 97, 98, 99, 100, 101, 102]⟩
theorem idx_hex (c : UInt8) : Lib.indexByte digs.data.toList c = hexV (c.toNat : Int) := by
  have key : ∀ n, n < 256 → Lib.indexByte digs.data.toList (UInt8.ofNat n) = hexV (n : Int) := by decide +kernel
  have := key c.toNat c.toNat_lt
  rw [UInt8.ofNat_toNat] at this
  exact this
theorem index_hex (c : UInt8) (w : World) : Calls Tryd.prog 64 #[.string digs, .int .u8 (c.toNat : Int)] w fun e w' => e = .returned (.int .i64 (hexV (c.toNat : Int))) ∧ w' = w := by
  refine (Tryd.strings_IndexByte digs (c.toNat : Int) w).mono ?_
  rintro e w' ⟨rfl, rfl⟩
  refine ⟨?_, rfl⟩
  rw [← idx_hex]
  simp

/-- What a reading of one item answers. -/
def itV : Option (Nat × Nat) → Value
  | none => .tuple #[.int .i64 0, .int .i64 0, .bool false]
  | some (b, n) => .tuple #[.int .i64 b, .int .i64 n, .bool true]

theorem ret_it {b n : Nat} {b' n' : Int} (hb : b' = b) (hn : n' = n) : Ending.returned (.tuple #[.int .i64 b', .int .i64 n', .bool true]) = .returned (itV (some (b, n))) := by rw [hb, hn]; rfl

set_option maxRecDepth 100000 in
set_option maxHeartbeats 1000000 in
theorem readHex_any (s : ByteArray) (i : Nat) (hi : i + 1 < s.size) (hs : s.size ≤ 140737488355328) (w : World) :
    Calls Tryd.prog 101 #[.string s, .int .i64 i] w fun e w' => e = .returned (itV (rdHex s i)) ∧ w' = w := by
  by_cases h : i + 3 < s.size
  · have h2 : i + 2 < s.size := by omega
    have hb1 := hexV_bd (s[i + 2].toNat : Int)
    have hb2 := hexV_bd (s[i + 3].toNat : Int)
    have HE : Hid (rdHex s i = if 0 ≤ hexV (s[i + 2].toNat : Int) ∧ 0 ≤ hexV (s[i + 3].toNat : Int) then some ((16 * hexV (s[i + 2].toNat : Int) + hexV (s[i + 3].toNat : Int)).toNat, i + 4) else none) := (by show rdHex s i = _; unfold rdHex; rw [chr_in h, chr_in h2])
    have HI : Hid (∀ w, Calls Tryd.prog 64 #[.string digs, .int .u8 (s[i + 2].toNat : Int)] w fun e w' => e = .returned (.int .i64 (hexV (s[i + 2].toNat : Int))) ∧ w' = w) := fun w => index_hex _ w
    have HJ : Hid (∀ w, Calls Tryd.prog 64 #[.string digs, .int .u8 (s[i + 3].toNat : Int)] w fun e w' => e = .returned (.int .i64 (hexV (s[i + 3].toNat : Int))) ∧ w' = w) := fun w => index_hex _ w
    go_enter Tryd.func101, Tryd.ntmps101
    go_wp2_with fail
    refine (HI.out _).mono ?_
    rintro e w' ⟨rfl, rfl⟩
    clear HI
    go_wp2_with fail
    refine (HJ.out _).mono ?_
    rintro e w' ⟨rfl, rfl⟩
    clear HJ
    generalize hexV (s[i + 2].toNat : Int) = a at *
    generalize hexV (s[i + 3].toNat : Int) = b at *
    by_cases ha : 0 ≤ a
    · by_cases hb : 0 ≤ b
      · go_wp2
        go_ret3
        exact ⟨by rw [HE.out, if_pos ⟨ha, hb⟩]; exact ret_it (by omega) (by omega), rfl⟩
      · go_wp2
        go_ret3
        exact ⟨by rw [HE.out, if_neg (fun h => by omega)]; rfl, rfl⟩
    · go_wp2
      go_ret3
      exact ⟨by rw [HE.out, if_neg (fun h => by omega)]; rfl, rfl⟩
  · have h1 : ¬ (i : Int) + 3 < (s.size : Int) := by omega
    have HE : Hid (rdHex s i = none) := (by show rdHex s i = none; unfold rdHex; rw [chr_out h]; rw [if_neg]; rintro ⟨_, h2⟩; simp [hexV] at h2)
    go_enter Tryd.func101, Tryd.ntmps101
    go_wp2
    go_ret3
    exact ⟨by rw [HE.out]; rfl, rfl⟩

set_option maxRecDepth 100000 in
set_option maxHeartbeats 1000000 in
theorem readEsc_any (s : ByteArray) (i : Nat) (hi : i < s.size) (hs : s.size ≤ 140737488355328) (w : World) :
    Calls Tryd.prog 99 #[.string s, .int .i64 i] w fun e w' => e = .returned (itV (rdEsc s i)) ∧ w' = w := by
  by_cases h : i + 1 < s.size
  · have HX : Hid (∀ w, Calls Tryd.prog 101 #[.string s, .int .i64 i] w fun e w' => e = .returned (itV (rdHex s i)) ∧ w' = w) := fun w => readHex_any s i h hs w
    have hb : (0 : Int) ≤ (s[i + 1].toNat : Int) ∧ (s[i + 1].toNat : Int) ≤ 255 := by have := s[i + 1].toNat_lt; omega
    have hw8 : IntKind.i64.wrap (s[i + 1].toNat : Int) = (s[i + 1].toNat : Int) := by rw [IntKind.wrap_i64]; omega
    have HE : Hid (rdEsc s i = if (s[i + 1].toNat : Int) = 110 then some (10, i + 2) else if (s[i + 1].toNat : Int) = 114 then some (13, i + 2) else if (s[i + 1].toNat : Int) = 116 then some (9, i + 2) else
  if (s[i + 1].toNat : Int) = 120 then rdHex s i else if signB (s[i + 1].toNat : Int) then some ((s[i + 1].toNat : Int).toNat, i + 2) else none) := (by show rdEsc s i = _; unfold rdEsc; rw [chr_in h])
    by_cases h110 : (s[i + 1].toNat : Int) = 110
    · have HF := (show Hid (rdEsc s i = some (10, i + 2)) from (by show rdEsc s i = _; rw [HE.out]; rw [if_pos h110]))
      clear HE HX
      have e110 : ((s[i + 1].toNat : Int) == 110) = true := beq_iff_eq.2 h110
      clear h110
      go_enter Tryd.func99, Tryd.ntmps99
      go_wp2
      go_ret3
      exact ⟨by rw [HF.out]; exact ret_it rfl (by omega), rfl⟩
    have e110 : ((s[i + 1].toNat : Int) == 110) = false := beq_eq_false_iff_ne.2 h110
    by_cases h114 : (s[i + 1].toNat : Int) = 114
    · have HF := (show Hid (rdEsc s i = some (13, i + 2)) from (by show rdEsc s i = _; rw [HE.out]; rw [if_neg h110, if_pos h114]))
      clear HE HX
      have e114 : ((s[i + 1].toNat : Int) == 114) = true := beq_iff_eq.2 h114
      clear h114
      go_enter Tryd.func99, Tryd.ntmps99
      go_wp2
      go_ret3
      exact ⟨by rw [HF.out]; exact ret_it rfl (by omega), rfl⟩
    have e114 : ((s[i + 1].toNat : Int) == 114) = false := beq_eq_false_iff_ne.2 h114
    by_cases h116 : (s[i + 1].toNat : Int) = 116
    · have HF := (show Hid (rdEsc s i = some (9, i + 2)) from (by show rdEsc s i = _; rw [HE.out]; rw [if_neg h110, if_neg h114, if_pos h116]))
      clear HE HX
      have e116 : ((s[i + 1].toNat : Int) == 116) = true := beq_iff_eq.2 h116
      clear h116
      go_enter Tryd.func99, Tryd.ntmps99
      go_wp2
      go_ret3
      exact ⟨by rw [HF.out]; exact ret_it rfl (by omega), rfl⟩
    have e116 : ((s[i + 1].toNat : Int) == 116) = false := beq_eq_false_iff_ne.2 h116
    by_cases h120 : (s[i + 1].toNat : Int) = 120
    · have HF := (show Hid (rdEsc s i = rdHex s i) from (by show rdEsc s i = _; rw [HE.out]; rw [if_neg h110, if_neg h114, if_neg h116, if_pos h120]))
      have e120 : ((s[i + 1].toNat : Int) == 120) = true := beq_iff_eq.2 h120
      clear HE h110 h114 h116 h120
      go_enter Tryd.func99, Tryd.ntmps99
      go_wp2_with fail
      refine (HX.out _).mono ?_
      rintro e w' ⟨rfl, rfl⟩
      cases hq : rdHex s i with
      | none =>
        rw [hq] at HF
        clear HX hq
        dsimp only [itV]
        go_wp2
        go_ret3
        exact ⟨by rw [HF.out]; rfl, rfl⟩
      | some q =>
        obtain ⟨qb, qn⟩ := q
        rw [hq] at HF
        clear HX hq
        dsimp only [itV]
        go_wp2
        go_ret3
        exact ⟨by rw [HF.out]; rfl, rfl⟩
    have e120 : ((s[i + 1].toNat : Int) == 120) = false := beq_eq_false_iff_ne.2 h120
    cases hg : signB (s[i + 1].toNat : Int)
    · have HF := (show Hid (rdEsc s i = none) from (by show rdEsc s i = _; rw [HE.out]; rw [if_neg h110, if_neg h114, if_neg h116, if_neg h120, if_neg (by rw [hg]; simp)]))
      clear HE HX h110 h114 h116 h120
      go_enter Tryd.func99, Tryd.ntmps99
      go_wp2_with fail
      refine (isSign_any _ _).mono ?_
      rintro e w' ⟨rfl, rfl⟩
      go_wp2
      go_ret3
      exact ⟨by rw [HF.out]; rfl, rfl⟩
    · have HF := (show Hid (rdEsc s i = some ((s[i + 1].toNat : Int).toNat, i + 2)) from (by show rdEsc s i = _; rw [HE.out]; rw [if_neg h110, if_neg h114, if_neg h116, if_neg h120, if_pos (by rw [hg])]))
      clear HE HX h110 h114 h116 h120
      go_enter Tryd.func99, Tryd.ntmps99
      go_wp2_with fail
      refine (isSign_any _ _).mono ?_
      rintro e w' ⟨rfl, rfl⟩
      go_wp2
      go_ret3
      exact ⟨by rw [HF.out]; exact ret_it (by omega) (by omega), rfl⟩
  · have HE : Hid (rdEsc s i = none) := (by show rdEsc s i = none; unfold rdEsc; rw [chr_out h]; rfl)
    have h1 : ¬ (i : Int) + 1 < (s.size : Int) := by omega
    go_enter Tryd.func99, Tryd.ntmps99
    go_wp2
    go_ret3
    exact ⟨by rw [HE.out]; rfl, rfl⟩

set_option maxRecDepth 100000 in
set_option maxHeartbeats 1000000 in
theorem readItem_any (s : ByteArray) (i : Nat) (hs : s.size ≤ 140737488355328) (w : World) :
    Calls Tryd.prog 95 #[.string s, .int .i64 i] w fun e w' => e = .returned (itV (rdItem s i)) ∧ w' = w := by
  by_cases h : i < s.size
  · have HX : Hid (∀ w, Calls Tryd.prog 99 #[.string s, .int .i64 i] w fun e w' => e = .returned (itV (rdEsc s i)) ∧ w' = w) := fun w => readEsc_any s i h hs w
    have hb : (0 : Int) ≤ (s[i].toNat : Int) ∧ (s[i].toNat : Int) ≤ 255 := by have := s[i].toNat_lt; omega
    have hw8 : IntKind.i64.wrap (s[i].toNat : Int) = (s[i].toNat : Int) := by rw [IntKind.wrap_i64]; omega
    have HE : Hid (rdItem s i = if (s[i].toNat : Int) = 92 then rdEsc s i else if (s[i].toNat : Int) = 93 ∨ (s[i].toNat : Int) = 45 ∨ (s[i].toNat : Int) = 37 ∨ prnB (s[i].toNat : Int) = false then none else some ((s[i].toNat : Int).toNat, i + 1)) := (by show rdItem s i = _; unfold rdItem; rw [chr_in h])
    by_cases h92 : (s[i].toNat : Int) = 92
    · have HF := (show Hid (rdItem s i = rdEsc s i) from (by show rdItem s i = _; rw [HE.out]; rw [if_pos h92]))
      have e92 : ((s[i].toNat : Int) == 92) = true := beq_iff_eq.2 h92
      clear HE h92
      go_enter Tryd.func95, Tryd.ntmps95
      go_wp2_with fail
      refine (HX.out _).mono ?_
      rintro e w' ⟨rfl, rfl⟩
      cases hq : rdEsc s i with
      | none =>
        rw [hq] at HF
        clear HX hq
        dsimp only [itV]
        go_wp2
        go_ret3
        exact ⟨by rw [HF.out]; rfl, rfl⟩
      | some q =>
        obtain ⟨qb, qn⟩ := q
        rw [hq] at HF
        clear HX hq
        dsimp only [itV]
        go_wp2
        go_ret3
        exact ⟨by rw [HF.out]; rfl, rfl⟩
    have e92 : ((s[i].toNat : Int) == 92) = false := beq_eq_false_iff_ne.2 h92
    clear HX
    by_cases h93 : (s[i].toNat : Int) = 93
    · have HF := (show Hid (rdItem s i = none) from (by show rdItem s i = _; rw [HE.out, if_neg h92, if_pos (.inl h93)]))
      have e93 : ((s[i].toNat : Int) == 93) = true := beq_iff_eq.2 h93
      clear HE h92 h93
      go_enter Tryd.func95, Tryd.ntmps95
      go_wp2
      go_ret3
      exact ⟨by rw [HF.out]; rfl, rfl⟩
    have e93 : ((s[i].toNat : Int) == 93) = false := beq_eq_false_iff_ne.2 h93
    by_cases h45 : (s[i].toNat : Int) = 45
    · have HF := (show Hid (rdItem s i = none) from (by show rdItem s i = _; rw [HE.out, if_neg h92, if_pos (.inr (.inl h45))]))
      have e45 : ((s[i].toNat : Int) == 45) = true := beq_iff_eq.2 h45
      clear HE h92 h93 h45
      go_enter Tryd.func95, Tryd.ntmps95
      go_wp2
      go_ret3
      exact ⟨by rw [HF.out]; rfl, rfl⟩
    have e45 : ((s[i].toNat : Int) == 45) = false := beq_eq_false_iff_ne.2 h45
    by_cases h37 : (s[i].toNat : Int) = 37
    · have HF := (show Hid (rdItem s i = none) from (by show rdItem s i = _; rw [HE.out, if_neg h92, if_pos (.inr (.inr (.inl h37)))]))
      have e37 : ((s[i].toNat : Int) == 37) = true := beq_iff_eq.2 h37
      clear HE h92 h93 h45 h37
      go_enter Tryd.func95, Tryd.ntmps95
      go_wp2
      go_ret3
      exact ⟨by rw [HF.out]; rfl, rfl⟩
    have e37 : ((s[i].toNat : Int) == 37) = false := beq_eq_false_iff_ne.2 h37
    cases hg : prnB (s[i].toNat : Int)
    · have HF := (show Hid (rdItem s i = none) from (by show rdItem s i = _; rw [HE.out, if_neg h92, if_pos (.inr (.inr (.inr hg)))]))
      clear HE h92 h93 h45 h37
      go_enter Tryd.func95, Tryd.ntmps95
      go_wp2_with fail
      refine (isPrintable_any _ _).mono ?_
      rintro e w' ⟨rfl, rfl⟩
      go_wp2
      go_ret3
      exact ⟨by rw [HF.out]; rfl, rfl⟩
    · have HF := (show Hid (rdItem s i = some ((s[i].toNat : Int).toNat, i + 1)) from (by show rdItem s i = _; rw [HE.out, if_neg h92, if_neg (by rw [hg]; simp; omega)]))
      clear HE h92 h93 h45 h37
      go_enter Tryd.func95, Tryd.ntmps95
      go_wp2_with fail
      refine (isPrintable_any _ _).mono ?_
      rintro e w' ⟨rfl, rfl⟩
      go_wp2
      go_ret3
      exact ⟨by rw [HF.out]; exact ret_it (by omega) (by omega), rfl⟩
  · have HE : Hid (rdItem s i = none) := (by show rdItem s i = none; unfold rdItem; rw [chr_out h]; rfl)
    have h1 : ¬ (i : Int) < (s.size : Int) := by omega
    go_enter Tryd.func95, Tryd.ntmps95
    go_wp2
    go_ret3
    exact ⟨by rw [HE.out]; rfl, rfl⟩
end Go.Proofs.YthffklhojdldkaaDoor

namespace Go.Proofs.YthffklhojdldkaaDoor
open Go.RowKit
def hxB (c : Int) : Bool := dgB c || (decide (97 ≤ c) && decide (c ≤ 102))
def blB (c : Int) : Bool := c == 9 || c == 10 || c == 13 || c == 32
set_option maxRecDepth 100000 in
set_option maxHeartbeats 4000000 in
theorem pbegins_any (c : Int) (w : World) : Calls Tryd.prog 21 #[.int .u8 c] w fun e w' => e = .returned (.bool (hdB c)) ∧ w' = w := by
  by_cases a1 : 97 ≤ c <;> by_cases a2 : c ≤ 122 <;> by_cases a3 : 65 ≤ c <;> by_cases a4 : c ≤ 90 <;> by_cases a5 : c = 95 <;> first
    | (exfalso; omega)
    | (subst a5; go_enter Tryd.func21, Tryd.ntmps21; go_wp2_with fail; go_ret; exact ⟨rfl, rfl⟩)
    | (have a6 : (c == 95) = false := beq_eq_false_iff_ne.2 a5; go_enter Tryd.func21, Tryd.ntmps21; go_wp2_with fail; go_ret; exact ⟨by simp [hdB, *], rfl⟩)
set_option maxRecDepth 100000 in
set_option maxHeartbeats 4000000 in
theorem pdigit_any (c : Int) (w : World) : Calls Tryd.prog 23 #[.int .u8 c] w fun e w' => e = .returned (.bool (dgB c)) ∧ w' = w := by
  by_cases a1 : 48 ≤ c <;> by_cases a2 : c ≤ 57 <;> first
    | (exfalso; omega)
    | (go_enter Tryd.func23, Tryd.ntmps23; go_wp2_with fail; go_ret; exact ⟨by simp [dgB, *], rfl⟩)
set_option maxRecDepth 100000 in
set_option maxHeartbeats 4000000 in
theorem pofname_any (c : Int) (w : World) : Calls Tryd.prog 44 #[.int .u8 c] w fun e w' => e = .returned (.bool (nmB c)) ∧ w' = w := by
  have HH : Hid (∀ w, Calls Tryd.prog 21 #[.int .u8 c] w fun e w' => e = .returned (.bool (hdB c)) ∧ w' = w) := fun w => pbegins_any c w
  have HD : Hid (∀ w, Calls Tryd.prog 23 #[.int .u8 c] w fun e w' => e = .returned (.bool (dgB c)) ∧ w' = w) := fun w => pdigit_any c w
  cases hh : hdB c with
  | true =>
    have HE : Hid (nmB c = true) := by show nmB c = true; unfold nmB; rw [hh]; rfl
    rw [hh] at HH
    clear HD hh
    go_enter Tryd.func44, Tryd.ntmps44
    go_wp2_with fail
    refine (HH.out _).mono ?_
    rintro e w ⟨rfl, rfl⟩
    go_wp2_with fail
    go_ret
    exact ⟨by rw [HE.out]; rfl, rfl⟩
  | false =>
    have HE : Hid (nmB c = dgB c) := by show nmB c = _; unfold nmB; rw [hh]; rfl
    rw [hh] at HH
    clear hh
    go_enter Tryd.func44, Tryd.ntmps44
    go_wp2_with fail
    refine (HH.out _).mono ?_
    rintro e w ⟨rfl, rfl⟩
    go_wp2_with fail
    refine (HD.out _).mono ?_
    rintro e w ⟨rfl, rfl⟩
    go_wp2_with fail
    go_ret
    exact ⟨by rw [HE.out]; rfl, rfl⟩
set_option maxRecDepth 100000 in
set_option maxHeartbeats 4000000 in
theorem phexd_any (c : Int) (w : World) : Calls Tryd.prog 84 #[.int .u8 c] w fun e w' => e = .returned (.bool (hxB c)) ∧ w' = w := by
  have HD : Hid (∀ w, Calls Tryd.prog 23 #[.int .u8 c] w fun e w' => e = .returned (.bool (dgB c)) ∧ w' = w) := fun w => pdigit_any c w
  cases hh : dgB c with
  | true =>
    have HE : Hid (hxB c = true) := by show hxB c = true; unfold hxB; rw [hh]; rfl
    rw [hh] at HD
    clear hh
    go_enter Tryd.func84, Tryd.ntmps84
    go_wp2_with fail
    refine (HD.out _).mono ?_
    rintro e w ⟨rfl, rfl⟩
    go_wp2_with fail
    go_ret
    exact ⟨by rw [HE.out]; rfl, rfl⟩
  | false =>
    have HE : Hid (hxB c = (decide (97 ≤ c) && decide (c ≤ 102))) := by show hxB c = _; unfold hxB; rw [hh]; rfl
    rw [hh] at HD
    clear hh
    by_cases a1 : 97 ≤ c <;> by_cases a2 : c ≤ 102 <;> first
      | (exfalso; omega)
      | (go_enter Tryd.func84, Tryd.ntmps84
         go_wp2_with fail
         refine (HD.out _).mono ?_
         rintro e w ⟨rfl, rfl⟩
         go_wp2_with fail
         go_ret
         exact ⟨by rw [HE.out]; simp [*], rfl⟩)
set_option maxRecDepth 100000 in
set_option maxHeartbeats 4000000 in
theorem runEnd_of (F : Nat) (P : Int → Bool) (hn : P (-1) = false) (he : ∀ args w, (callFunc F args).run Tryd.prog w = .ok (.enter F args) w)
    (HC : ∀ c w, Calls Tryd.prog F #[.int .u8 c] w fun e w' => e = .returned (.bool (P c)) ∧ w' = w) (s : ByteArray) (i : Nat) (hs : s.size ≤ 140737488355328) (hi : i ≤ s.size) (w : World) :
    Calls Tryd.prog 43 #[.string s, .int .i64 i, .func (.func F) #[] #[]] w fun e w' => e = .returned (.int .i64 (spN P s i)) ∧ w' = w := by
  have HP : Hid (∀ k (h : k < s.size) w, Calls Tryd.prog F #[.int .u8 (s[k].toNat : Int)] w fun e w' => e = .returned (.bool (P (chr s k))) ∧ w' = w) := fun k h w => by rw [chr_in h]; exact HC _ w
  have HN : Hid (∀ k, P (chr s k) = true → spN P s k = spN P s (k + 1)) := fun k h => (spN_next hn h).2
  have HS : Hid (∀ k, P (chr s k) = false → spN P s k = k) := fun k h => spN_stop h
  have HO : Hid (∀ k, ¬ k < s.size → spN P s k = k) := fun k h => spN_stop (by rw [chr_out h]; exact hn)
  clear HC
  go_enter Tryd.func43, Tryd.ntmps43
  go_wp2_with fail
  go_loopw [1] (fun t wr => ∃ k : Nat, k ≤ s.size ∧ t = .int .i64 k ∧ wr = w ∧ Hid (spN P s k = spN P s i)) (fun t _ => s.size - (intOf t).toNat)
  case atStart => exact ⟨i, hi, rfl, rfl, rfl⟩
  case round =>
    obtain ⟨k, hk, rfl, rfl, HI⟩ := hrel
    have z0 : (0 : Int) ≤ (k : Int) := by omega
    by_cases h1 : k < s.size
    · have z1 : (k : Int) < (s.size : Int) := by omega
      have HPk := (show Hid _ from HP.out k h1)
      cases hp : P (chr s k) with
      | true =>
        have HI2 : Hid (spN P s (k + 1) = spN P s i) := (HN.out k hp).symm.trans HI.out
        rw [hp] at HPk
        clear HP HN HS HO hp HI
        go_wp2_with fail
        refine (HPk.out _).mono ?_
        rintro e w ⟨rfl, rfl⟩
        go_wp2_with fail
        go_roundw
        case rel => exact ⟨k + 1, by omega, by go_num, trivial, HI2⟩
        case measure => simp [intOf]; omega
      | false =>
        have HI2 : Hid (spN P s i = k) := HI.out.symm.trans (HS.out k hp)
        rw [hp] at HPk
        clear HP HN HS HO hp HI
        go_wp2_with fail
        refine (HPk.out _).mono ?_
        rintro e w ⟨rfl, rfl⟩
        go_wp2_with fail
        go_ret
        exact ⟨by rw [HI2.out]; rfl, rfl⟩
    · have z1 : ¬ (k : Int) < (s.size : Int) := by omega
      have HI2 : Hid (spN P s i = k) := HI.out.symm.trans (HO.out k h1)
      clear HP HN HS HO HI
      go_wp2_with fail
      go_ret
      exact ⟨by rw [HI2.out]; rfl, rfl⟩
theorem runName_any (s : ByteArray) (i : Nat) (hs : s.size ≤ 140737488355328) (hi : i ≤ s.size) (w : World) :
    Calls Tryd.prog 43 #[.string s, .int .i64 i, .func (.func 44) #[] #[]] w fun e w' => e = .returned (.int .i64 (spN nmB s i)) ∧ w' = w := runEnd_of 44 nmB (by decide) (enters_of Tryd.func44 (by kernel_rfl) rfl) pofname_any s i hs hi w
theorem runDigit_any (s : ByteArray) (i : Nat) (hs : s.size ≤ 140737488355328) (hi : i ≤ s.size) (w : World) :
    Calls Tryd.prog 43 #[.string s, .int .i64 i, .func (.func 23) #[] #[]] w fun e w' => e = .returned (.int .i64 (spN dgB s i)) ∧ w' = w := runEnd_of 23 dgB (by decide) (enters_of Tryd.func23 (by kernel_rfl) rfl) pdigit_any s i hs hi w
theorem runHex_any (s : ByteArray) (i : Nat) (hs : s.size ≤ 140737488355328) (hi : i ≤ s.size) (w : World) :
    Calls Tryd.prog 43 #[.string s, .int .i64 i, .func (.func 84) #[] #[]] w fun e w' => e = .returned (.int .i64 (spN hxB s i)) ∧ w' = w := runEnd_of 84 hxB (by decide) (enters_of Tryd.func84 (by kernel_rfl) rfl) phexd_any s i hs hi w
end Go.Proofs.YthffklhojdldkaaDoor

namespace Go.Proofs.YthffklhojdldkaaDoor
open Go.RowKit
theorem below_box (w : World) (o : Obj) : Below w.heap.size w (w.alloc o) := Below.alloc (Below.refl _ _) (Nat.le_refl _) o
abbrev tkC (t : Tk) : Array Value := #[.int .i64 t.kd, .int .i64 t.nn, .int .i64 t.fr, .int .i64 t.en, .string t.tx, .int .u64 t.s0, .int .u64 t.s1, .int .u64 t.s2, .int .u64 t.s3]
abbrev tkO (t : Tk) : Obj := .cells #[.int .i64 t.kd, .int .i64 t.nn, .int .i64 t.fr, .int .i64 t.en, .string t.tx, .int .u64 t.s0, .int .u64 t.s1, .int .u64 t.s2, .int .u64 t.s3] 36
structure TX (W : World) (b : Nat) (t : Tk) : Prop where
  heap : W.heap[b]? = some (.cells (tkC t) 36 (0, 0))
theorem TX.lt {W : World} {b : Nat} {t : Tk} (h : TX W b t) : b < W.heap.size := (Array.getElem?_eq_some_iff.1 h.heap).1
theorem TX.same {W W' : World} {b : Nat} {t : Tk} (h : TX W b t) (hb : W'.heap[b]? = W.heap[b]?) : TX W' b t := ⟨hb.trans h.heap⟩
theorem TX.below {W W' : World} {b : Nat} {t : Tk} (h : TX W b t) (hb : Below W.heap.size W W') : TX W' b t := h.same (hb.block b h.lt)
theorem TX.new (W : World) (t : Tk) : TX (W.alloc (tkO t)) W.heap.size t := ⟨heap_alloc_new W _⟩
/-- Its cells. -/
structure TC (W : World) (b : Nat) (t : Tk) : Prop where
  c0 : W.cell? ⟨b, 0, none⟩ = some (.int .i64 t.kd)
  c1 : W.cell? ⟨b, 1, none⟩ = some (.int .i64 t.nn)
  c2 : W.cell? ⟨b, 2, none⟩ = some (.int .i64 t.fr)
  c3 : W.cell? ⟨b, 3, none⟩ = some (.int .i64 t.en)
  c4 : W.cell? ⟨b, 4, none⟩ = some (.string t.tx)
  c5 : W.cell? ⟨b, 5, none⟩ = some (.int .u64 t.s0)
  c6 : W.cell? ⟨b, 6, none⟩ = some (.int .u64 t.s1)
  c7 : W.cell? ⟨b, 7, none⟩ = some (.int .u64 t.s2)
  c8 : W.cell? ⟨b, 8, none⟩ = some (.int .u64 t.s3)
structure TF (W : World) (b : Nat) : Prop where
  f0 : W.frozen? ⟨b, 0, none⟩ = false
  f1 : W.frozen? ⟨b, 1, none⟩ = false
  f2 : W.frozen? ⟨b, 2, none⟩ = false
  f3 : W.frozen? ⟨b, 3, none⟩ = false
  f4 : W.frozen? ⟨b, 4, none⟩ = false
  f5 : W.frozen? ⟨b, 5, none⟩ = false
  f6 : W.frozen? ⟨b, 6, none⟩ = false
  f7 : W.frozen? ⟨b, 7, none⟩ = false
  f8 : W.frozen? ⟨b, 8, none⟩ = false
theorem TX.cells {W : World} {b : Nat} {t : Tk} (h : TX W b t) : TC W b t := by
  have key : ∀ (j : Nat) u, (tkC t)[j]? = some u → W.cell? ⟨b, j, none⟩ = some u := fun j u hu => by
    rw [cell_of_row W b j _ 36 (0, 0) h.heap]; exact hu
  exact ⟨key 0 _ rfl, key 1 _ rfl, key 2 _ rfl, key 3 _ rfl, key 4 _ rfl, key 5 _ rfl, key 6 _ rfl, key 7 _ rfl, key 8 _ rfl⟩
theorem TX.fz {W : World} {b : Nat} {t : Tk} (h : TX W b t) : TF W b := ⟨frozen_of_row W b 0 _ 36 h.heap, frozen_of_row W b 1 _ 36 h.heap, frozen_of_row W b 2 _ 36 h.heap, frozen_of_row W b 3 _ 36 h.heap, frozen_of_row W b 4 _ 36 h.heap, frozen_of_row W b 5 _ 36 h.heap, frozen_of_row W b 6 _ 36 h.heap, frozen_of_row W b 7 _ 36 h.heap, frozen_of_row W b 8 _ 36 h.heap⟩
/-- A token laid into a box. -/
abbrev st9 (W : World) (b : Nat) (t : Tk) : World := ((((((((W.setCell ⟨b, 0, none⟩ (.int .i64 t.kd)).setCell ⟨b, 1, none⟩ (.int .i64 t.nn)).setCell ⟨b, 2, none⟩ (.int .i64 t.fr)).setCell ⟨b, 3, none⟩ (.int .i64 t.en)).setCell ⟨b, 4, none⟩ (.string t.tx)).setCell ⟨b, 5, none⟩ (.int .u64 t.s0)).setCell ⟨b, 6, none⟩ (.int .u64 t.s1)).setCell ⟨b, 7, none⟩ (.int .u64 t.s2)).setCell ⟨b, 8, none⟩ (.int .u64 t.s3)
set_option maxHeartbeats 2000000 in
theorem st9_tx {W : World} {b : Nat} {t0 : Tk} (h : TX W b t0) (t : Tk) : TX (st9 W b t) b t := by
  have h := h.heap
  have h0 := heap_setCell_same _ b 0 _ 36 (.int .i64 t.kd) h
  have h1 := heap_setCell_same _ b 1 _ 36 (.int .i64 t.nn) h0
  have h2 := heap_setCell_same _ b 2 _ 36 (.int .i64 t.fr) h1
  have h3 := heap_setCell_same _ b 3 _ 36 (.int .i64 t.en) h2
  have h4 := heap_setCell_same _ b 4 _ 36 (.string t.tx) h3
  have h5 := heap_setCell_same _ b 5 _ 36 (.int .u64 t.s0) h4
  have h6 := heap_setCell_same _ b 6 _ 36 (.int .u64 t.s1) h5
  have h7 := heap_setCell_same _ b 7 _ 36 (.int .u64 t.s2) h6
  have h8 := heap_setCell_same _ b 8 _ 36 (.int .u64 t.s3) h7
  refine ⟨?_⟩
  rw [h8]
  simp
theorem st9_below {B : Nat} {w W : World} {b : Nat} (h : Below B w W) (hb : B ≤ b) (t : Tk) : Below B w (st9 W b t) := ((((((((h.setCell (p := ⟨b, 0, none⟩) hb _).setCell (p := ⟨b, 1, none⟩) hb _).setCell (p := ⟨b, 2, none⟩) hb _).setCell (p := ⟨b, 3, none⟩) hb _).setCell (p := ⟨b, 4, none⟩) hb _).setCell (p := ⟨b, 5, none⟩) hb _).setCell (p := ⟨b, 6, none⟩) hb _).setCell (p := ⟨b, 7, none⟩) hb _).setCell (p := ⟨b, 8, none⟩) hb _
end Go.Proofs.YthffklhojdldkaaDoor

namespace Go.Proofs.YthffklhojdldkaaDoor
open Go.RowKit
abbrev fxO (p e : Int) : Obj := .cells #[.int .i64 p, .int .i64 e] 26
structure FX (W : World) (b : Nat) (p e : Int) : Prop where
  heap : W.heap[b]? = some (.cells #[.int .i64 p, .int .i64 e] 26 (0, 0))
theorem FX.lt {W : World} {b : Nat} {p e : Int} (h : FX W b p e) : b < W.heap.size := (Array.getElem?_eq_some_iff.1 h.heap).1
theorem FX.below {W W' : World} {b : Nat} {p e : Int} (h : FX W b p e) (hb : Below W.heap.size W W') : FX W' b p e := ⟨(hb.block b h.lt).trans h.heap⟩
theorem FX.c0 {W : World} {b : Nat} {p e : Int} (h : FX W b p e) : W.cell? ⟨b, 0, none⟩ = some (.int .i64 p) := by rw [cell_of_row W b 0 _ 26 (0, 0) h.heap]; rfl
theorem FX.c1 {W : World} {b : Nat} {p e : Int} (h : FX W b p e) : W.cell? ⟨b, 1, none⟩ = some (.int .i64 e) := by rw [cell_of_row W b 1 _ 26 (0, 0) h.heap]; rfl
theorem FX.f0 {W : World} {b : Nat} {p e : Int} (h : FX W b p e) : W.frozen? ⟨b, 0, none⟩ = false := frozen_of_row W b 0 _ 26 h.heap
theorem FX.f1 {W : World} {b : Nat} {p e : Int} (h : FX W b p e) : W.frozen? ⟨b, 1, none⟩ = false := frozen_of_row W b 1 _ 26 h.heap
/-- The call's two boxes. -/
structure BX (w W : World) (t : Tk) (p e : Int) : Prop where
  b : Below w.heap.size w W
  x : TX W w.heap.size t
  f : FX W (w.heap.size + 1) p e
theorem BX.made (w : World) (t : Tk) (p e : Int) : BX w ((w.alloc (tkO t)).alloc (fxO p e)) t p e := by
  have h1 : (w.alloc (tkO t)).heap.size = w.heap.size + 1 := World.size_alloc _ _
  refine ⟨(below_box w _).alloc (by omega) _, (TX.new w t).below (below_box _ _), ⟨?_⟩⟩
  have h := heap_alloc_new (w.alloc (tkO t)) (fxO p e)
  rw [h1] at h
  exact h
theorem BX.new (w : World) : BX w ((w.alloc (tkO tk0)).alloc (fxO 0 0)) tk0 0 0 := BX.made w tk0 0 0
theorem BX.below {w W W' : World} {t : Tk} {p e : Int} (h : BX w W t p e) (hb : Below W.heap.size W W') : BX w W' t p e := ⟨h.b.trans (hb.mono h.b.size), h.x.below hb, h.f.below hb⟩
theorem BX.size {w W : World} {t : Tk} {p e : Int} (h : BX w W t p e) : w.heap.size + 1 < W.heap.size := h.f.lt
/-- What must be known of the boxes to store into them. -/
structure BF (w W : World) : Prop where
  x0 : W.frozen? ⟨w.heap.size, 0, none⟩ = false
  x1 : W.frozen? ⟨w.heap.size, 1, none⟩ = false
  x2 : W.frozen? ⟨w.heap.size, 2, none⟩ = false
  x3 : W.frozen? ⟨w.heap.size, 3, none⟩ = false
  x4 : W.frozen? ⟨w.heap.size, 4, none⟩ = false
  x5 : W.frozen? ⟨w.heap.size, 5, none⟩ = false
  x6 : W.frozen? ⟨w.heap.size, 6, none⟩ = false
  x7 : W.frozen? ⟨w.heap.size, 7, none⟩ = false
  x8 : W.frozen? ⟨w.heap.size, 8, none⟩ = false
  f0 : W.frozen? ⟨w.heap.size + 1, 0, none⟩ = false
  f1 : W.frozen? ⟨w.heap.size + 1, 1, none⟩ = false
structure BC (w W : World) (t : Tk) (p e : Int) : Prop where
  c0 : W.cell? ⟨w.heap.size, 0, none⟩ = some (.int .i64 t.kd)
  c1 : W.cell? ⟨w.heap.size, 1, none⟩ = some (.int .i64 t.nn)
  c2 : W.cell? ⟨w.heap.size, 2, none⟩ = some (.int .i64 t.fr)
  c3 : W.cell? ⟨w.heap.size, 3, none⟩ = some (.int .i64 t.en)
  c4 : W.cell? ⟨w.heap.size, 4, none⟩ = some (.string t.tx)
  c5 : W.cell? ⟨w.heap.size, 5, none⟩ = some (.int .u64 t.s0)
  c6 : W.cell? ⟨w.heap.size, 6, none⟩ = some (.int .u64 t.s1)
  c7 : W.cell? ⟨w.heap.size, 7, none⟩ = some (.int .u64 t.s2)
  c8 : W.cell? ⟨w.heap.size, 8, none⟩ = some (.int .u64 t.s3)
  d0 : W.cell? ⟨w.heap.size + 1, 0, none⟩ = some (.int .i64 p)
  d1 : W.cell? ⟨w.heap.size + 1, 1, none⟩ = some (.int .i64 e)
theorem BX.fz {w W : World} {t : Tk} {p e : Int} (h : BX w W t p e) : BF w W := by
  obtain ⟨a, b, c, d, e, f, g, i, j⟩ := h.x.fz
  exact ⟨a, b, c, d, e, f, g, i, j, h.f.f0, h.f.f1⟩
theorem BX.cells {w W : World} {t : Tk} {p e : Int} (h : BX w W t p e) : BC w W t p e := by
  obtain ⟨a, b, c, d, e, f, g, i, j⟩ := h.x.cells
  exact ⟨a, b, c, d, e, f, g, i, j, h.f.c0, h.f.c1⟩
/-- Both laid. -/
abbrev stF (W : World) (b : Nat) (p e : Int) : World := (W.setCell ⟨b, 0, none⟩ (.int .i64 p)).setCell ⟨b, 1, none⟩ (.int .i64 e)
theorem stF_fx {W : World} {b : Nat} {p0 e0 : Int} (h : FX W b p0 e0) (p e : Int) : FX (stF W b p e) b p e := by
  have h := h.heap
  have h0 := heap_setCell_same _ b 0 _ 26 (.int .i64 p) h
  have h1 := heap_setCell_same _ b 1 _ 26 (.int .i64 e) h0
  refine ⟨?_⟩
  rw [h1]
  simp
theorem stF_other {W : World} {b k : Nat} (p e : Int) (hk : k ≠ b) : (stF W b p e).heap[k]? = W.heap[k]? := by
  rw [Below.heap_setCell _ _ _ _ hk, Below.heap_setCell _ _ _ _ hk]
theorem st9_other {W : World} {b k : Nat} (t : Tk) (hk : k ≠ b) : (st9 W b t).heap[k]? = W.heap[k]? := by
  rw [Below.heap_setCell _ _ _ _ hk, Below.heap_setCell _ _ _ _ hk, Below.heap_setCell _ _ _ _ hk, Below.heap_setCell _ _ _ _ hk, Below.heap_setCell _ _ _ _ hk, Below.heap_setCell _ _ _ _ hk, Below.heap_setCell _ _ _ _ hk, Below.heap_setCell _ _ _ _ hk, Below.heap_setCell _ _ _ _ hk]
theorem BX.put {w W : World} {t0 : Tk} {p0 e0 : Int} (h : BX w W t0 p0 e0) (t : Tk) (p e : Int) : BX w (stF (st9 W w.heap.size t) (w.heap.size + 1) p e) t p e := by
  refine ⟨?_, ⟨?_⟩, ?_⟩
  · exact ((st9_below h.b (Nat.le_refl _) t).setCell (p := ⟨w.heap.size + 1, 0, none⟩) (by show w.heap.size ≤ w.heap.size + 1; omega) _).setCell (p := ⟨w.heap.size + 1, 1, none⟩) (by show w.heap.size ≤ w.heap.size + 1; omega) _
  · rw [stF_other p e (by omega)]; exact (st9_tx h.x t).heap
  · exact stF_fx ⟨(st9_other t (by omega)).trans h.f.heap⟩ p e
/-- What a reader answers. -/
abbrev pairV (t : Tk) (p e : Int) : Value := .tuple #[tkG t, .agg #[.int .i64 p, .int .i64 e]]
def tokP : Sum Tk (Nat × Int) → Value
  | .inl t => pairV t 0 0
  | .inr q => pairV tk0 q.1 q.2
theorem ret_bx {fn : Func} {R : Ending → World → Prop} {a : Act} {w W : World} {t : Tk} {p e : Int} {i j : Nat} (hF : fn.results = #[.cell i 36, .cell j 26]) (hd : a.defers = []) (h4 : a.tmps.getD i undef = .pointer (some ⟨w.heap.size, 0, none⟩)) (h5 : a.tmps.getD j undef = .pointer (some ⟨w.heap.size + 1, 0, none⟩)) (hT : BX w W t p e) (hR : R (.returned (pairV t p e)) W) : bodyPost Tryd.prog fn R .ret a W := by
  obtain ⟨c0, c1, c2, c3, c4, c5, c6, c7, c8, d0, d1⟩ := hT.cells
  refine bodyPost_ret (v := pairV t p e) ?_ hd hR
  simp only [Array.getD_eq_getD_getElem?] at h4 h5
  simp [results, hF, go_sem, h4, h5, c0, c1, c2, c3, c4, c5, c6, c7, c8, d0, d1]

set_option maxRecDepth 100000 in
set_option maxHeartbeats 4000000 in
theorem fault_any (i e0 : Int) (w : World) : Calls Tryd.prog 45 #[.int .i64 i, .int .i64 e0] w fun e w' => e = .returned (pairV tk0 i e0) ∧ Below w.heap.size w w' := by
  go_enter Tryd.func45, Tryd.ntmps45
  go_wp2_with fail
  exact ret_bx rfl rfl rfl rfl (BX.made w tk0 i e0) ⟨rfl, (BX.made w tk0 i e0).b⟩
/-- Does a text of some bytes stand at a place? -/
def pfx (s : ByteArray) (i : Nat) : List UInt8 → Bool
  | [] => true
  | c :: l => chr s i == (c.toNat : Int) && pfx s (i + 1) l
theorem pfx_tail (s : ByteArray) : ∀ (p : List UInt8) (i : Nat), i ≤ s.size → p.isPrefixOf (s.extract i s.size).data.toList = pfx s i p := by
  intro p
  induction p with
  | nil => intro i _; simp [pfx]
  | cons c p ih =>
    intro i hi
    rw [pfx]
    by_cases h : i < s.size
    · have e : (s.extract i s.size).data.toList = s[i] :: (s.extract (i + 1) s.size).data.toList := by
        have h1 : s.data.size = s.size := rfl
        have hd : i < s.data.size := h
        rw [ByteArray.data_extract, ByteArray.data_extract, Array.toList_extract, Array.toList_extract, List.extract_eq_take_drop, List.extract_eq_take_drop,
          List.take_of_length_le (by rw [List.length_drop, Array.length_toList]; omega), List.take_of_length_le (by rw [List.length_drop, Array.length_toList]; omega),
          List.drop_eq_getElem_cons (by rw [Array.length_toList]; omega)]
        rfl
      rw [e, List.isPrefixOf, ih (i + 1) (by omega), chr_in h]
      congr 1
      by_cases q : c = s[i]
      · subst q; simp
      · have h2 : ¬ (s[i].toNat : Int) = (c.toNat : Int) := fun e => q (UInt8.toNat_inj.1 (by omega))
        rw [beq_eq_false_iff_ne.2 q, beq_eq_false_iff_ne.2 h2]
    · have e : (s.extract i s.size).data.toList = [] := by
        have h1 : (s.extract i s.size).size = 0 := by rw [ByteArray.size_extract]; omega
        exact List.eq_nil_of_length_eq_zero h1
      have : ((-1 : Int) == (c.toNat : Int)) = false := by rw [beq_eq_false_iff_ne]; omega
      rw [e, chr_out h, this]; rfl
set_option maxRecDepth 100000 in
set_option maxHeartbeats 4000000 in
theorem stands_any (s : ByteArray) (i : Nat) (p : ByteArray) (hi : i ≤ s.size) (w : World) : Calls Tryd.prog 15 #[.string s, .int .i64 i, .string p] w fun e w' => e = .returned (.bool (pfx s i p.data.toList)) ∧ w' = w := by
  have H : Hid (∀ w, Calls Tryd.prog 20 #[.string (s.extract i s.size), .string p] w fun e w' => e = .returned (.bool (pfx s i p.data.toList)) ∧ w' = w) := fun w => by
    have h := Tryd.strings_HasPrefix (s.extract i s.size) p w
    rw [Lib.hasPrefix, pfx_tail s _ i hi] at h
    exact h
  have z0 : (0 : Int) ≤ (i : Int) := by omega
  have z1 : (i : Int) ≤ (s.size : Int) := by omega
  go_enter Tryd.func15, Tryd.ntmps15
  go_wp2_with fail
  refine (H.out _).mono ?_
  rintro e w ⟨rfl, rfl⟩
  go_wp2_with fail
  go_ret
  exact ⟨rfl, rfl⟩
set_option maxRecDepth 100000 in
set_option maxHeartbeats 4000000 in
theorem lineEnd_any (s : ByteArray) (i : Nat) (hs : s.size ≤ 140737488355328) (hi : i ≤ s.size) (w : World) : Calls Tryd.prog 16 #[.string s, .int .i64 i] w fun e w' => e = .returned (.int .i64 (spN lnB s i)) ∧ w' = w := by
  have HN : Hid (∀ k, lnB (chr s k) = true → spN lnB s k = spN lnB s (k + 1)) := fun k h => (spN_next (by decide) h).2
  have HS : Hid (∀ k, lnB (chr s k) = false → spN lnB s k = k) := fun k h => spN_stop h
  go_enter Tryd.func16, Tryd.ntmps16
  go_wp2_with fail
  go_loopw [1] (fun t wr => ∃ k : Nat, k ≤ s.size ∧ t = .int .i64 k ∧ wr = w ∧ Hid (spN lnB s k = spN lnB s i)) (fun t _ => s.size - (intOf t).toNat)
  case atStart => exact ⟨i, hi, rfl, rfl, rfl⟩
  case round =>
    obtain ⟨k, hk, rfl, rfl, HI⟩ := hrel
    have z0 : (0 : Int) ≤ (k : Int) := by omega
    by_cases h1 : k < s.size
    · have z1 : (k : Int) < (s.size : Int) := by omega
      have hc := chr_in h1
      have hb := chr_le s k
      by_cases h10 : chr s k = 10
      · have v : ((s[k].toNat : Int) != 10) = false := by rw [← hc, h10]; rfl
        have HI2 : Hid (spN lnB s i = k) := HI.out.symm.trans (HS.out k (by rw [h10]; rfl))
        clear HN HS HI hc hb h10
        go_wp2_with fail
        go_ret
        exact ⟨by rw [HI2.out]; rfl, rfl⟩
      · have v : ((s[k].toNat : Int) != 10) = true := by rw [← hc, bne, beq_eq_false_iff_ne.2 h10]; rfl
        have HI2 : Hid (spN lnB s (k + 1) = spN lnB s i) := (HN.out k (by unfold lnB; rw [beq_eq_false_iff_ne.2 h10, decide_eq_true (show 0 ≤ chr s k by rw [hc]; omega)]; rfl)).symm.trans HI.out
        clear HN HS HI hc hb h10
        go_wp2_with fail
        go_roundw
        case rel => exact ⟨k + 1, by omega, by go_num, trivial, HI2⟩
        case measure => simp [intOf]; omega
    · have z1 : ¬ (k : Int) < (s.size : Int) := by omega
      have HI2 : Hid (spN lnB s i = k) := HI.out.symm.trans (HS.out k (by rw [chr_out h1]; rfl))
      clear HN HS HI
      go_wp2_with fail
      go_ret
      exact ⟨by rw [HI2.out]; rfl, rfl⟩
set_option maxRecDepth 100000 in
set_option maxHeartbeats 4000000 in
theorem blanks_any (s : ByteArray) (i : Nat) (hs : s.size ≤ 140737488355328) (hi : i ≤ s.size) (w : World) : Calls Tryd.prog 14 #[.string s, .int .i64 i] w fun e w' => e = .returned (.int .i64 (spN blB s i)) ∧ w' = w := by
  have HN : Hid (∀ k, blB (chr s k) = true → spN blB s k = spN blB s (k + 1)) := fun k h => (spN_next (by decide) h).2
  have HS : Hid (∀ k, blB (chr s k) = false → spN blB s k = k) := fun k h => spN_stop h
  go_enter Tryd.func14, Tryd.ntmps14
  go_wp2_with fail
  go_step3
  go_wp2_with fail
  go_step3
  go_wp2_with fail
  go_loopw [1] (fun t wr => ∃ k : Nat, k ≤ s.size ∧ t = .int .i64 k ∧ wr = w ∧ Hid (spN blB s k = spN blB s i)) (fun t _ => s.size - (intOf t).toNat)
  case atStart => exact ⟨i, hi, rfl, rfl, rfl⟩
  case round =>
    obtain ⟨k, hk, rfl, rfl, HI⟩ := hrel
    have z0 : (0 : Int) ≤ (k : Int) := by omega
    by_cases h1 : k < s.size
    · have z1 : (k : Int) < (s.size : Int) := by omega
      have hc := chr_in h1
      cases hb : blB (chr s k) with
      | true =>
        have HI2 : Hid (spN blB s (k + 1) = spN blB s i) := (HN.out k hb).symm.trans HI.out
        have hor : chr s k = 9 ∨ chr s k = 10 ∨ chr s k = 13 ∨ chr s k = 32 := by
          unfold blB at hb
          simpa [Bool.or_eq_true, or_assoc] using hb
        rw [hc] at hor
        clear HN HS HI hc hb
        rcases hor with hv | hv | hv | hv
        · have v0 : ((s[k].toNat : Int) == 9) = true := by rw [hv]; rfl
          clear hv
          go_wp2_with fail
          go_roundw
          case rel => exact ⟨k + 1, by omega, by go_num, trivial, HI2⟩
          case measure => simp [intOf]; omega
        · have v0 : ((s[k].toNat : Int) == 9) = false := by rw [hv]; rfl
          have v1 : ((s[k].toNat : Int) == 10) = true := by rw [hv]; rfl
          clear hv
          go_wp2_with fail
          go_roundw
          case rel => exact ⟨k + 1, by omega, by go_num, trivial, HI2⟩
          case measure => simp [intOf]; omega
        · have v0 : ((s[k].toNat : Int) == 9) = false := by rw [hv]; rfl
          have v1 : ((s[k].toNat : Int) == 10) = false := by rw [hv]; rfl
          have v2 : ((s[k].toNat : Int) == 13) = true := by rw [hv]; rfl
          clear hv
          go_wp2_with fail
          go_roundw
          case rel => exact ⟨k + 1, by omega, by go_num, trivial, HI2⟩
          case measure => simp [intOf]; omega
        · have v0 : ((s[k].toNat : Int) == 9) = false := by rw [hv]; rfl
          have v1 : ((s[k].toNat : Int) == 10) = false := by rw [hv]; rfl
          have v2 : ((s[k].toNat : Int) == 13) = false := by rw [hv]; rfl
          have v3 : ((s[k].toNat : Int) == 32) = true := by rw [hv]; rfl
          clear hv
          go_wp2_with fail
          go_roundw
          case rel => exact ⟨k + 1, by omega, by go_num, trivial, HI2⟩
          case measure => simp [intOf]; omega
      | false =>
        have HI2 : Hid (spN blB s i = k) := HI.out.symm.trans (HS.out k hb)
        rw [hc] at hb
        unfold blB at hb
        simp only [Bool.or_eq_false_iff] at hb
        obtain ⟨⟨⟨v1, v2⟩, v3⟩, v4⟩ := hb
        clear HN HS HI hc
        go_wp2_with fail
        rw [Exit.noGoto_ret]
        go_ret
        exact ⟨by rw [HI2.out]; rfl, rfl⟩
    · have z1 : ¬ (k : Int) < (s.size : Int) := by omega
      have HI2 : Hid (spN blB s i = k) := HI.out.symm.trans (HS.out k (by rw [chr_out h1]; rfl))
      clear HN HS HI
      go_wp2_with fail
      first | go_ret | (rw [Exit.noGoto_ret]; go_ret)
      exact ⟨by rw [HI2.out]; rfl, rfl⟩
end Go.Proofs.YthffklhojdldkaaDoor

namespace Go.Proofs.YthffklhojdldkaaDoor
open Go.RowKit
/-- The signs, in the table's order. -/
def sgTab : List (Int × List UInt8) := [(29, [37, 101]), (30, [37, 102]), (14, [94, 43]), (15, [94, 45]), (13, [94]), (6, [60, 45]), (27, [45, 62]), (7, [47]), (8, [38]), (9, [33]), (10, [63]), (11, [42]), (12, [43]), (16, [40]), (17, [41]), (18, [46]), (21, [123, 58]), (22, [58, 125]), (23, [123, 124]), (24, [124, 125]), (25, [123, 126]), (26, [126, 125]), (19, [123]), (20, [125])]
/-- The first sign that fits. -/
def sgGo (s : ByteArray) (i : Nat) : List (Int × List UInt8) → Int × List UInt8
  | [] => (0, [])
  | p :: l => if pfx s i p.2 = true then p else sgGo s i l
def sgAt (s : ByteArray) (i : Nat) : Int × List UInt8 := sgGo s i sgTab
/-- The table's cells. -/
def tabL : List Value := [.int .i64 29, .string ⟨#[37, 101]⟩, .int .i64 30, .string ⟨#[37, 102]⟩, .int .i64 14, .string ⟨#[94, 43]⟩, .int .i64 15, .string ⟨#[94, 45]⟩, .int .i64 13, .string ⟨#[94]⟩, .int .i64 6, .string ⟨#[60, 45]⟩, .int .i64 27, .string ⟨#[45, 62]⟩, .int .i64 7, .string ⟨#[47]⟩, .int .i64 8, .string ⟨#[38]⟩, .int .i64 9, .string ⟨#[33]⟩, .int .i64 10, .string ⟨#[63]⟩, .int .i64 11, .string ⟨#[42]⟩, .int .i64 12, .string ⟨#[43]⟩, .int .i64 16, .string ⟨#[40]⟩, .int .i64 17, .string ⟨#[41]⟩, .int .i64 18, .string ⟨#[46]⟩, .int .i64 21, .string ⟨#[123, 58]⟩, .int .i64 22, .string ⟨#[58, 125]⟩, .int .i64 23, .string ⟨#[123, 124]⟩, .int .i64 24, .string ⟨#[124, 125]⟩, .int .i64 25, .string ⟨#[123, 126]⟩, .int .i64 26, .string ⟨#[126, 125]⟩, .int .i64 19, .string ⟨#[123]⟩, .int .i64 20, .string ⟨#[125]⟩]
/-- The table's variable. -/
structure SG (W : World) : Prop where
  lt : 0 < W.heap.size
  rng : W.rangeAt 0 0 tabL
theorem SG.below {B : Nat} {W W' : World} (h : SG W) (hb : Below B W W') (hB : 0 < B) : SG W' :=
  ⟨Nat.lt_of_lt_of_le h.lt hb.size, fun j v hv => (hb.cell (p := ⟨0, 0 + j, none⟩) hB).trans (h.rng j v hv)⟩
theorem SG.later {W W' : World} (h : SG W) (hb : Below W.heap.size W W') : SG W' := h.below hb h.lt
theorem idx_tab (k : Nat) (p : Int × List UInt8) (h : sgTab[k]? = some p) (W : World) : (Instr.index 84 (.agg tabL.toArray) (.int .i64 (k : Int))).run Tryd.prog W = .ok (.agg #[.int .i64 p.1, .string ⟨p.2.toArray⟩]) W := by
  match k, h with
  | 0, h => cases h; simp [tabL, Instr.index, run_underlying Tryd.underlying84, asIntOf, go_sem]
  | 1, h => cases h; simp [tabL, Instr.index, run_underlying Tryd.underlying84, asIntOf, go_sem]
  | 2, h => cases h; simp [tabL, Instr.index, run_underlying Tryd.underlying84, asIntOf, go_sem]
  | 3, h => cases h; simp [tabL, Instr.index, run_underlying Tryd.underlying84, asIntOf, go_sem]
  | 4, h => cases h; simp [tabL, Instr.index, run_underlying Tryd.underlying84, asIntOf, go_sem]
  | 5, h => cases h; simp [tabL, Instr.index, run_underlying Tryd.underlying84, asIntOf, go_sem]
  | 6, h => cases h; simp [tabL, Instr.index, run_underlying Tryd.underlying84, asIntOf, go_sem]
  | 7, h => cases h; simp [tabL, Instr.index, run_underlying Tryd.underlying84, asIntOf, go_sem]
  | 8, h => cases h; simp [tabL, Instr.index, run_underlying Tryd.underlying84, asIntOf, go_sem]
  | 9, h => cases h; simp [tabL, Instr.index, run_underlying Tryd.underlying84, asIntOf, go_sem]
  | 10, h => cases h; simp [tabL, Instr.index, run_underlying Tryd.underlying84, asIntOf, go_sem]
  | 11, h => cases h; simp [tabL, Instr.index, run_underlying Tryd.underlying84, asIntOf, go_sem]
  | 12, h => cases h; simp [tabL, Instr.index, run_underlying Tryd.underlying84, asIntOf, go_sem]
  | 13, h => cases h; simp [tabL, Instr.index, run_underlying Tryd.underlying84, asIntOf, go_sem]
  | 14, h => cases h; simp [tabL, Instr.index, run_underlying Tryd.underlying84, asIntOf, go_sem]
  | 15, h => cases h; simp [tabL, Instr.index, run_underlying Tryd.underlying84, asIntOf, go_sem]
  | 16, h => cases h; simp [tabL, Instr.index, run_underlying Tryd.underlying84, asIntOf, go_sem]
  | 17, h => cases h; simp [tabL, Instr.index, run_underlying Tryd.underlying84, asIntOf, go_sem]
  | 18, h => cases h; simp [tabL, Instr.index, run_underlying Tryd.underlying84, asIntOf, go_sem]
  | 19, h => cases h; simp [tabL, Instr.index, run_underlying Tryd.underlying84, asIntOf, go_sem]
  | 20, h => cases h; simp [tabL, Instr.index, run_underlying Tryd.underlying84, asIntOf, go_sem]
  | 21, h => cases h; simp [tabL, Instr.index, run_underlying Tryd.underlying84, asIntOf, go_sem]
  | 22, h => cases h; simp [tabL, Instr.index, run_underlying Tryd.underlying84, asIntOf, go_sem]
  | 23, h => cases h; simp [tabL, Instr.index, run_underlying Tryd.underlying84, asIntOf, go_sem]
abbrev sgO (p : Int × List UInt8) : Obj := .cells #[.int .i64 p.1, .string ⟨p.2.toArray⟩] 67
/-- A sign in a box. -/
structure SX (W : World) (b : Nat) (p : Int × List UInt8) : Prop where
  heap : W.heap[b]? = some (.cells #[.int .i64 p.1, .string ⟨p.2.toArray⟩] 67 (0, 0))
theorem SX.lt {W : World} {b : Nat} {p : Int × List UInt8} (h : SX W b p) : b < W.heap.size := (Array.getElem?_eq_some_iff.1 h.heap).1
theorem SX.below {W W' : World} {b : Nat} {p : Int × List UInt8} (h : SX W b p) (hb : Below W.heap.size W W') : SX W' b p := ⟨(hb.block b h.lt).trans h.heap⟩
theorem SX.new (W : World) (p : Int × List UInt8) : SX (W.alloc (sgO p)) W.heap.size p := ⟨heap_alloc_new W _⟩
theorem SX.c0 {W : World} {b : Nat} {p : Int × List UInt8} (h : SX W b p) : W.cell? ⟨b, 0, none⟩ = some (.int .i64 p.1) := by rw [cell_of_row W b 0 _ 67 (0, 0) h.heap]; rfl
theorem SX.c1 {W : World} {b : Nat} {p : Int × List UInt8} (h : SX W b p) : W.cell? ⟨b, 1, none⟩ = some (.string ⟨p.2.toArray⟩) := by rw [cell_of_row W b 1 _ 67 (0, 0) h.heap]; rfl
theorem SX.f0 {W : World} {b : Nat} {p : Int × List UInt8} (h : SX W b p) : W.frozen? ⟨b, 0, none⟩ = false := frozen_of_row W b 0 _ 67 h.heap
theorem SX.f1 {W : World} {b : Nat} {p : Int × List UInt8} (h : SX W b p) : W.frozen? ⟨b, 1, none⟩ = false := frozen_of_row W b 1 _ 67 h.heap
theorem SX.put {W : World} {b : Nat} {p0 : Int × List UInt8} (h : SX W b p0) (p : Int × List UInt8) : SX ((W.setCell ⟨b, 0, none⟩ (.int .i64 p.1)).setCell ⟨b, 1, none⟩ (.string ⟨p.2.toArray⟩)) b p := by
  have h := h.heap
  have h0 := heap_setCell_same _ b 0 _ 67 (.int .i64 p.1) h
  have h1 := heap_setCell_same _ b 1 _ 67 (.string ⟨p.2.toArray⟩) h0
  refine ⟨?_⟩
  rw [h1]
  simp
theorem ret_sx {fn : Func} {R : Ending → World → Prop} {a : Act} {W : World} {b : Nat} {p : Int × List UInt8} (hF : fn.results = #[.cell 4 67]) (hd : a.defers = []) (h4 : a.tmps.getD 4 undef = .pointer (some ⟨b, 0, none⟩)) (hT : SX W b p) (hR : R (.returned (.agg #[.int .i64 p.1, .string ⟨p.2.toArray⟩])) W) : bodyPost Tryd.prog fn R .ret a W := by
  have c0 := hT.c0
  have c1 := hT.c1
  refine bodyPost_ret (v := .agg #[.int .i64 p.1, .string ⟨p.2.toArray⟩]) ?_ hd hR
  simp only [Array.getD_eq_getD_getElem?] at h4
  simp [results, hF, go_sem, h4, c0, c1]
/-- While the table is gone through. -/
structure AtTab (w wr : World) : Prop where
  b : Below w.heap.size w wr
  x : SX wr w.heap.size (0, [])
set_option maxRecDepth 100000 in
set_option maxHeartbeats 8000000 in
theorem signAt_any (s : ByteArray) (i : Nat) (hi : i ≤ s.size) (w : World) (hg : SG w) : Calls Tryd.prog 52 #[.string s, .int .i64 i] w fun e w' => e = .returned (.agg #[.int .i64 (sgAt s i).1, .string ⟨(sgAt s i).2.toArray⟩]) ∧ Below w.heap.size w w' := by
  have HS : Hid (∀ (l : List UInt8) w, Calls Tryd.prog 15 #[.string s, .int .i64 i, .string ⟨l.toArray⟩] w fun e w' => e = .returned (.bool (pfx s i l)) ∧ w' = w) := fun l w => by
    have e := stands_any s i ⟨l.toArray⟩ hi w
    rw [show (⟨l.toArray⟩ : ByteArray).data.toList = l from by simp] at e
    exact e
  have H0 := (show Hid (AtTab w (w.alloc (sgO (0, [])))) from ⟨below_box _ _, SX.new w (0, [])⟩)
  have HI := (show Hid (∀ (k : Nat) p, sgTab[k]? = some p → ∀ W : World, (Instr.index 84 (.agg tabL.toArray) (.int .i64 (k : Int))).run Tryd.prog W = .ok (.agg #[.int .i64 p.1, .string ⟨p.2.toArray⟩]) W) from idx_tab)
  have hR : (w.alloc (sgO (0, []))).rangeAt 0 0 tabL := (hg.later (below_box _ _)).rng
  have HL := (show Hid (sgGo s i (sgTab.drop 0) = sgAt s i) from rfl)
  clear hg
  generalize htv : tabL.toArray = TV at HI
  go_enter Tryd.func52, Tryd.ntmps52
  go_wp2_with (refine wpList_load_mid rfl 84 _ rfl 0 0 rfl tabL _ hR Tryd.underlying84 rfl (by kernel_rfl) ?_)
  clear hR htv
  go_loopw [8] (fun t wr => ∃ k : Nat, k ≤ 24 ∧ t = .int .i64 k ∧ Hid (AtTab w wr) ∧ Hid (sgGo s i (sgTab.drop k) = sgAt s i)) (fun t _ => 24 - (intOf t).toNat)
  case atStart => exact ⟨0, by omega, by go_num, H0, HL⟩
  case round =>
    obtain ⟨k, hk, rfl, HW, HD⟩ := hrel
    clear H0 HL
    by_cases hk4 : k < 24
    · obtain ⟨p, hp⟩ : ∃ p, sgTab[k]? = some p := ⟨_, List.getElem?_eq_getElem (by show k < 24; exact hk4)⟩
      have hix := HI.out k p hp
      have z1 : (k : Int) < 24 := by omega
      have HSk := (show Hid _ from HS.out p.2)
      have HU : Hid (sgAt s i = if pfx s i p.2 = true then p else sgGo s i (sgTab.drop (k + 1))) := by
        show sgAt s i = _
        have hd : sgTab.drop k = p :: sgTab.drop (k + 1) := by
          obtain ⟨h1, h2⟩ := List.getElem?_eq_some_iff.1 hp
          rw [List.drop_eq_getElem_cons h1, h2]
        rw [← HD.out, hd, sgGo]
      clear HS hp HD
      cases hf : pfx s i p.2 with
      | true =>
        have HE : Hid (sgAt s i = p) := by show sgAt s i = p; rw [HU.out, if_pos hf]
        rw [hf] at HSk
        clear HU hf
        go_wp2_with fail
        refine (HSk.out _).mono ?_
        rintro e w3 ⟨rfl, hw3⟩
        have HX3 := (show Hid (SX w3 w.heap.size (0, [])) from by rw [hw3]; exact HW.out.x.below (below_box _ _))
        have HY3 := (show Hid (SX w3 wr.heap.size p) from by rw [hw3]; exact SX.new wr p)
        have HB3 := (show Hid (Below w.heap.size w w3) from by rw [hw3]; exact HW.out.b.alloc HW.out.b.size _)
        clear hw3 HW HSk hix HI
        have f0 := HX3.out.f0
        have f1' := HX3.out.f1
        have c0 := HX3.out.c0
        have c1 := HX3.out.c1
        have d0 := HY3.out.c0
        have d1 := HY3.out.c1
        go_wp2_with fail
        exact ret_sx rfl rfl rfl (HX3.out.put p) ⟨by rw [HE.out], (HB3.out.setCell (p := ⟨w.heap.size, 0, none⟩) (Nat.le_refl _) _).setCell (p := ⟨w.heap.size, 1, none⟩) (Nat.le_refl _) _⟩
      | false =>
        have HE : Hid (sgGo s i (sgTab.drop (k + 1)) = sgAt s i) := by show _ = sgAt s i; rw [HU.out, if_neg (by rw [hf]; decide)]
        rw [hf] at HSk
        clear HU hf
        go_wp2_with fail
        refine (HSk.out _).mono ?_
        rintro e w3 ⟨rfl, hw3⟩
        have HW3 := (show Hid (AtTab w w3) from by rw [hw3]; exact ⟨HW.out.b.alloc HW.out.b.size _, HW.out.x.below (below_box _ _)⟩)
        clear hw3 HW HSk hix
        go_wp2_with fail
        go_roundw
        case rel => exact ⟨k + 1, by omega, by go_num, HW3, HE⟩
        case measure => simp [intOf]; omega
    · obtain rfl : k = 24 := by omega
      have HE : Hid (sgAt s i = (0, [])) := by show sgAt s i = _; rw [← HD.out]; rfl
      have f0 := HW.out.x.f0
      have f1' := HW.out.x.f1
      have c0 := HW.out.x.c0
      have c1 := HW.out.x.c1
      clear HS HI HD
      go_wp2_with fail
      exact ret_sx rfl rfl rfl (HW.out.x.put (0, [])) ⟨by rw [HE.out], (HW.out.b.setCell (p := ⟨w.heap.size, 0, none⟩) (Nat.le_refl _) _).setCell (p := ⟨w.heap.size, 1, none⟩) (Nat.le_refl _) _⟩
end Go.Proofs.YthffklhojdldkaaDoor

namespace Go.Proofs.YthffklhojdldkaaDoor
open Go.ChangeShapes Go.WideShapes Go.ChangeAt Go.RowKit
theorem own : ownKnob Tryd.prog.godebug = none := by kernel_rfl
theorem laidOut : laidOutB Tryd.prog = true := by kernel_rfl
theorem gTab : Tryd.prog.globalNamed "harrow/token.signs" = some 0 := by kernel_rfl
theorem gTabType : (Tryd.prog.globals[0]?).map (·.type) = some 84 := by kernel_rfl
theorem Tryd.cells67 : Tryd.prog.cellsOf 67 = 2 := by kernel_rfl
theorem Tryd.cellsInt : Tryd.prog.cellsOf 3 = 1 := by kernel_rfl
theorem Tryd.cellsStr : Tryd.prog.cellsOf 9 = 1 := by kernel_rfl
theorem run_trod {H : Type} {enc : TypeId × Value → H} {W : World} {base fuel : Nat} {sp : Nat → Bool} {held : Bool} {cs : List Value} {z : DataW H × List MemPlace}
    (h : DataW.trod enc Tryd.prog W base sp held fuel 67 cs = some z) : ∃ a s, cs = [.int .i64 a, .string s] ∧ z.1 = .agg [.lit (.int .i64 a), .lit (.string s.data.toList)] := by
  obtain ⟨y0, y1, n, rfl, hl, h0, h1⟩ := trod_struct2 Tryd.underlying67 h
  rw [Tryd.cells67] at hl
  match cs, hl with
  | [c0, c1], _ =>
    dsimp only at h0 h1
    rw [Tryd.cellsInt] at h0
    rw [Tryd.cellsStr] at h1
    obtain ⟨a, e0, e0', _⟩ := DataW.trod_int Tryd.underlying3 h0
    obtain ⟨b, e1, e1', _⟩ := DataW.trod_string Tryd.underlying9 h1
    have e0 : [c0] = [Value.int .i64 a] := e0
    have e1 : [c1] = [Value.string b] := e1
    cases e0
    cases e1
    exact ⟨a, b, rfl, by rw [e0', e1']⟩
theorem tab_laid {H : Type} : (Rows.laid_harrow_token_signs : DataW H) = .agg (sgTab.map fun p => .agg [.lit (.int .i64 p.1), .lit (.string p.2)]) := rfl
theorem tab_get : ∀ (i : Nat) v, tabL[i]? = some v → ∃ j p, sgTab[j]? = some p ∧ ((i = 2 * j ∧ v = .int .i64 p.1) ∨ (i = 2 * j + 1 ∧ v = .string ⟨p.2.toArray⟩)) := by
  have key : ∀ (l : List (Int × List UInt8)) (i : Nat) (v : Value), (l.flatMap fun p => [Value.int .i64 p.1, .string ⟨p.2.toArray⟩])[i]? = some v → ∃ j p, l[j]? = some p ∧ ((i = 2 * j ∧ v = .int .i64 p.1) ∨ (i = 2 * j + 1 ∧ v = .string ⟨p.2.toArray⟩)) := by
    intro l
    induction l with
    | nil => intro i v h; simp at h
    | cons p l ih =>
      intro i v h
      rw [List.flatMap_cons] at h
      match i, h with
      | 0, h => exact ⟨0, p, rfl, .inl ⟨rfl, by simpa using h.symm⟩⟩
      | 1, h => exact ⟨0, p, rfl, .inr ⟨rfl, by simpa using h.symm⟩⟩
      | i + 2, h =>
        obtain ⟨j, q, h1, h2⟩ := ih i v (by simpa using h)
        exact ⟨j + 1, q, by simpa using h1, by
          rcases h2 with ⟨x, y⟩ | ⟨x, y⟩
          · exact .inl ⟨by omega, y⟩
          · exact .inr ⟨by omega, y⟩⟩
  exact key sgTab
theorem sg_of_laid {W : World} (h : laidMetH Tryd.prog [("harrow/token.signs", Rows.laid_harrow_token_signs)] W) : SG W := by
  have h : laidMet Tryd.prog [("harrow/token.signs", Rows.laid_harrow_token_signs)] W := h
  obtain ⟨ps, ⟨g', t', cs, fuel, p, q, hg', ht', hvar, hd, _, _⟩, _⟩ := h
  obtain rfl := Option.some.inj (gTab.symm.trans hg')
  obtain rfl := Option.some.inj (gTabType.symm.trans ht')
  obtain ⟨xs, m, rfl, hx, hl, hn, hel⟩ := DataW.trod_array Tryd.underlying84 hd
  have hx1 := congrArg Prod.fst hx
  dsimp only at hx1
  rw [tab_laid] at hx1
  injection hx1 with hx1
  rw [Tryd.cells67] at hel
  have hcell := World.var?_cell gTab hvar
  have key : ∀ j p, sgTab[j]? = some p → W.cell? ⟨0, 2 * j, none⟩ = some (.int .i64 p.1) ∧ W.cell? ⟨0, 2 * j + 1, none⟩ = some (.string ⟨p.2.toArray⟩) := fun j p hp => by
    have hj : j < 24 := (List.getElem?_eq_some_iff.1 hp).1
    have k0 := hel j hj
    obtain ⟨x, hxj⟩ : ∃ x, xs[j]? = some x := ⟨_, List.getElem?_eq_getElem (by omega)⟩
    rw [hxj] at k0
    obtain ⟨a, s, e1, e2⟩ := run_trod k0
    have h3 : (xs.map (·.1))[j]? = some x.1 := by rw [List.getElem?_map, hxj]; rfl
    rw [← hx1, List.getElem?_map, hp] at h3
    have h3 : DataW.agg [.lit (.int .i64 p.1), .lit (.string p.2)] = x.1 := Option.some.inj h3
    rw [e2] at h3
    injection h3 with h3
    injection h3 with h4 h5
    injection h5 with h5 _
    injection h4 with h4
    injection h4 with h4 h4
    injection h5 with h5
    injection h5 with h5
    have hs : s = ⟨p.2.toArray⟩ := by rw [h5]
    have c0 : cs.toList[2 * j]? = some (.int .i64 p.1) := by
      have := congrArg (fun l => l[0]?) e1
      simp only [List.getElem?_take, List.getElem?_drop, List.getElem?_cons_zero] at this
      rw [if_pos (by omega), show j * 2 + 0 = 2 * j from by omega, ← h4] at this
      exact this
    have c1 : cs.toList[2 * j + 1]? = some (.string ⟨p.2.toArray⟩) := by
      have := congrArg (fun l => l[1]?) e1
      simp only [List.getElem?_take, List.getElem?_drop, List.getElem?_cons_succ, List.getElem?_cons_zero] at this
      rw [if_pos (by omega), show j * 2 + 1 = 2 * j + 1 from by omega, hs] at this
      exact this
    exact ⟨(hcell (2 * j)).trans (by simpa using c0), (hcell (2 * j + 1)).trans (by simpa using c1)⟩
  refine ⟨World.block_lt_of_cell? W _ (key 0 _ rfl).1, fun i v hv => ?_⟩
  obtain ⟨j, p, hp, hor⟩ := tab_get i v hv
  obtain ⟨h1, h2⟩ := key j p hp
  rw [Nat.zero_add]
  rcases hor with ⟨rfl, rfl⟩ | ⟨rfl, rfl⟩
  · exact h1
  · exact h2
/-- A world with the table laid. -/
def layTab (w : World) : World :=
  { w with heap := w.heap.modify 0 fun
      | .cells _ t frozen => .cells #[.int .i64 29, .string ⟨#[37, 101]⟩, .int .i64 30, .string ⟨#[37, 102]⟩, .int .i64 14, .string ⟨#[94, 43]⟩, .int .i64 15, .string ⟨#[94, 45]⟩, .int .i64 13, .string ⟨#[94]⟩, .int .i64 6, .string ⟨#[60, 45]⟩, .int .i64 27, .string ⟨#[45, 62]⟩, .int .i64 7, .string ⟨#[47]⟩, .int .i64 8, .string ⟨#[38]⟩, .int .i64 9, .string ⟨#[33]⟩, .int .i64 10, .string ⟨#[63]⟩, .int .i64 11, .string ⟨#[42]⟩, .int .i64 12, .string ⟨#[43]⟩, .int .i64 16, .string ⟨#[40]⟩, .int .i64 17, .string ⟨#[41]⟩, .int .i64 18, .string ⟨#[46]⟩, .int .i64 21, .string ⟨#[123, 58]⟩, .int .i64 22, .string ⟨#[58, 125]⟩, .int .i64 23, .string ⟨#[123, 124]⟩, .int .i64 24, .string ⟨#[124, 125]⟩, .int .i64 25, .string ⟨#[123, 126]⟩, .int .i64 26, .string ⟨#[126, 125]⟩, .int .i64 19, .string ⟨#[123]⟩, .int .i64 20, .string ⟨#[125]⟩] t frozen
      | o => o }
end Go.Proofs.YthffklhojdldkaaDoor
