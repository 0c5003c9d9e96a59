/- DERIVED. Walks: checkPlace, isMark, readHex, readEscape, readByte, by the program. -/
import Derived.Test.YtafnjidackofpaaPlA
import Derived.Test.YtafnjidackofpaaShelf
import Derived.Test.YtafnjidackofpaaRows
import Derived.WalkKit
namespace Go.Proofs.Ytafnjidackofpaa
open Go.RowKit

theorem ret_bool {a b : Bool} (h : a = b) : Ending.returned (.bool a) = .returned (.bool b) := by rw [h]

/-- What checkPlace answers. -/
def cpE (s : ByteArray) (i : Int) : Int := if 65536 < s.size then 2 else if i < 0 ∨ (s.size : Int) < i then 1 else 0

set_option maxRecDepth 100000 in
set_option maxHeartbeats 1000000 in
theorem checkPlace_any (s : ByteArray) (i : Int) (w : World) :
    Calls Try.prog 30 #[.string s, .int .i64 i] w fun e w' => e = .returned (.int .i64 (cpE s i)) ∧ w' = w := by
  by_cases h : 65536 < s.size
  · have HE : Hid (cpE s i = 2) := (by show cpE s i = 2; unfold cpE; rw [if_pos h])
    have h1 : (65536 : Int) < (s.size : Int) := by omega
    go_enter Try.func30, Try.ntmps30
    go_wp2
    go_ret
    exact ⟨by rw [HE.out]; rfl, rfl⟩
  · have h1 : ¬ (65536 : Int) < (s.size : Int) := by omega
    by_cases h0 : i < 0
    · have HE : Hid (cpE s i = 1) := (by show cpE s i = 1; unfold cpE; rw [if_neg h, if_pos (.inl h0)])
      go_enter Try.func30, Try.ntmps30
      go_wp2
      go_ret
      exact ⟨by rw [HE.out]; rfl, rfl⟩
    · by_cases h2 : (s.size : Int) < i
      · have HE : Hid (cpE s i = 1) := (by show cpE s i = 1; unfold cpE; rw [if_neg h, if_pos (.inr h2)])
        go_enter Try.func30, Try.ntmps30
        go_wp2
        go_ret
        exact ⟨by rw [HE.out]; rfl, rfl⟩
      · have HE : Hid (cpE s i = 0) := (by show cpE s i = 0; unfold cpE; rw [if_neg h, if_neg (by omega)])
        go_enter Try.func30, Try.ntmps30
        go_wp2
        go_ret
        exact ⟨by rw [HE.out]; rfl, rfl⟩

def mkB (c : Int) : Bool := c == 39 || c == 34
set_option maxRecDepth 100000 in
set_option maxHeartbeats 1000000 in
theorem isMark_any (c : Int) (w : World) :
    Calls Try.prog 31 #[.int .u8 c] w fun e w' => e = .returned (.bool (mkB c)) ∧ w' = w := by
  by_cases h : c = 39
  · have HE : Hid (mkB c = true) := (by show mkB c = true; unfold mkB; rw [beq_iff_eq.2 h]; rfl)
    have e1 : (c == 39) = true := beq_iff_eq.2 h
    clear h
    go_enter Try.func31, Try.ntmps31
    go_wp2
    go_ret
    exact ⟨by rw [HE.out]; rfl, rfl⟩
  · have e1 : (c == 39) = false := beq_eq_false_iff_ne.2 h
    have HE : Hid (mkB c = (c == 34)) := (by show mkB c = (c == 34); unfold mkB; rw [e1]; rfl)
    clear h
    go_enter Try.func31, Try.ntmps31
    go_wp2
    go_ret
    exact ⟨by rw [HE.out]; rfl, rfl⟩

/-- The digits of 16. -/
abbrev digs : ByteArray := ⟨#[48, 49, 50, 51, 52, 53, 54, 55, 56, 57, 97, 98, 99, 100, 101, 102]⟩
theorem idx_hex (c : UInt8) : Lib.indexByte digs.data.toList c = hexV (c.toNat : Int) := by
  have key : ∀ n, n < 256 → Lib.indexByte digs.data.toList (UInt8.ofNat n) = hexV (n : Int) := by decide +kernel
  have := key c.toNat c.toNat_lt
  rw [UInt8.ofNat_toNat] at this
  exact this
theorem index_hex (c : UInt8) (w : World) : Calls Try.prog 57 #[.string digs, .int .u8 (c.toNat : Int)] w fun e w' => e = .returned (.int .i64 (hexV (c.toNat : Int))) ∧ w' = w := by
  refine (Try.strings_IndexByte digs (c.toNat : Int) w).mono ?_
  rintro e w' ⟨rfl, rfl⟩
  refine ⟨?_, rfl⟩
  rw [← idx_hex]
  simp

theorem ret_es {b b' : Int} {n : Nat} {n' : Int} (hb : b' = b) (hn : n' = n) : Ending.returned (.tuple #[.int .u8 b', .int .i64 n', .int .i64 0]) = .returned (esV (some (b, n))) := by rw [hb, hn]; rfl
theorem ret_by {b b' : Int} {n : Nat} {n' : Int} (hb : b' = b) (hn : n' = n) : Ending.returned (.tuple #[.int .u8 b', .int .i64 n', .int .i64 0]) = .returned (byV (.inl (b, n))) := by rw [hb, hn]; rfl

set_option maxRecDepth 100000 in
set_option maxHeartbeats 1000000 in
theorem readHex_any (s : ByteArray) (i : Nat) (hi : i + 1 < s.size) (hs : s.size ≤ 140737488355328) (w : World) :
    Calls Try.prog 52 #[.string s, .int .i64 i] w fun e w' => e = .returned (esV (rdHex s i)) ∧ w' = w := by
  by_cases h : i + 3 < s.size
  · have h2 : i + 2 < s.size := by omega
    have hb1 := hexV_bd (s[i + 2].toNat : Int)
    have hb2 := hexV_bd (s[i + 3].toNat : Int)
    have HE : Hid (rdHex s i = if 0 ≤ hexV (s[i + 2].toNat : Int) ∧ 0 ≤ hexV (s[i + 3].toNat : Int) then some (16 * hexV (s[i + 2].toNat : Int) + hexV (s[i + 3].toNat : Int), i + 4) else none) := (by show rdHex s i = _; unfold rdHex; rw [chr_in h, chr_in h2])
    have HI : Hid (∀ w, Calls Try.prog 57 #[.string digs, .int .u8 (s[i + 2].toNat : Int)] w fun e w' => e = .returned (.int .i64 (hexV (s[i + 2].toNat : Int))) ∧ w' = w) := fun w => index_hex _ w
    have HJ : Hid (∀ w, Calls Try.prog 57 #[.string digs, .int .u8 (s[i + 3].toNat : Int)] w fun e w' => e = .returned (.int .i64 (hexV (s[i + 3].toNat : Int))) ∧ w' = w) := fun w => index_hex _ w
    go_enter Try.func52, Try.ntmps52
    go_wp2_with fail
    refine (HI.out _).mono ?_
    rintro e w' ⟨rfl, rfl⟩
    clear HI
    go_wp2_with fail
    refine (HJ.out _).mono ?_
    rintro e w' ⟨rfl, rfl⟩
    clear HJ
    generalize hexV (s[i + 2].toNat : Int) = a at *
    generalize hexV (s[i + 3].toNat : Int) = b at *
    by_cases ha : 0 ≤ a
    · by_cases hb : 0 ≤ b
      · have hw8 : IntKind.u8.wrap (16 * a + b) = 16 * a + b := by rw [IntKind.wrap_u8']; omega
        go_wp2
        go_ret3
        exact ⟨by rw [HE.out, if_pos ⟨ha, hb⟩]; exact ret_es (by omega) (by omega), rfl⟩
      · go_wp2
        go_ret3
        exact ⟨by rw [HE.out, if_neg (fun h => by omega)]; rfl, rfl⟩
    · go_wp2
      go_ret3
      exact ⟨by rw [HE.out, if_neg (fun h => by omega)]; rfl, rfl⟩
  · have h1 : ¬ (i : Int) + 3 < (s.size : Int) := by omega
    have HE : Hid (rdHex s i = none) := (by show rdHex s i = none; unfold rdHex; rw [chr_out h]; rw [if_neg]; rintro ⟨_, h2⟩; simp [hexV] at h2)
    go_enter Try.func52, Try.ntmps52
    go_wp2
    go_ret3
    exact ⟨by rw [HE.out]; rfl, rfl⟩

set_option maxRecDepth 100000 in
set_option maxHeartbeats 2000000 in
theorem readEsc_any (s : ByteArray) (i : Nat) (hi : i < s.size) (hs : s.size ≤ 140737488355328) (w : World) :
    Calls Try.prog 50 #[.string s, .int .i64 i] w fun e w' => e = .returned (esV (rdEsc s i)) ∧ w' = w := by
  by_cases h : i + 1 < s.size
  · have HX : Hid (∀ w, Calls Try.prog 52 #[.string s, .int .i64 i] w fun e w' => e = .returned (esV (rdHex s i)) ∧ w' = w) := fun w => readHex_any s i h hs w
    have hb : (0 : Int) ≤ (s[i + 1].toNat : Int) ∧ (s[i + 1].toNat : Int) ≤ 255 := by have := s[i + 1].toNat_lt; omega
    have HE : Hid (rdEsc s i = if (s[i + 1].toNat : Int) = 110 then some (10, i + 2) else if (s[i + 1].toNat : Int) = 114 then some (13, i + 2) else if (s[i + 1].toNat : Int) = 116 then some (9, i + 2) else
  if (s[i + 1].toNat : Int) = 92 ∨ (s[i + 1].toNat : Int) = 39 ∨ (s[i + 1].toNat : Int) = 34 then some ((s[i + 1].toNat : Int), i + 2) else if (s[i + 1].toNat : Int) = 120 then rdHex s i else none) := (by show rdEsc s i = _; unfold rdEsc; rw [chr_in h])
    by_cases h110 : (s[i + 1].toNat : Int) = 110
    · have HF := (show Hid (rdEsc s i = some (10, i + 2)) from (by show rdEsc s i = _; rw [HE.out]; rw [if_pos h110]))
      clear HE HX
      have e110 : ((s[i + 1].toNat : Int) == 110) = true := beq_iff_eq.2 h110
      clear h110
      go_enter Try.func50, Try.ntmps50
      go_wp2
      go_ret3
      exact ⟨by rw [HF.out]; exact ret_es rfl (by omega), rfl⟩
    have e110 : ((s[i + 1].toNat : Int) == 110) = false := beq_eq_false_iff_ne.2 h110
    by_cases h114 : (s[i + 1].toNat : Int) = 114
    · have HF := (show Hid (rdEsc s i = some (13, i + 2)) from (by show rdEsc s i = _; rw [HE.out]; rw [if_neg h110, if_pos h114]))
      clear HE HX
      have e114 : ((s[i + 1].toNat : Int) == 114) = true := beq_iff_eq.2 h114
      clear h114
      go_enter Try.func50, Try.ntmps50
      go_wp2
      go_ret3
      exact ⟨by rw [HF.out]; exact ret_es rfl (by omega), rfl⟩
    have e114 : ((s[i + 1].toNat : Int) == 114) = false := beq_eq_false_iff_ne.2 h114
    by_cases h116 : (s[i + 1].toNat : Int) = 116
    · have HF := (show Hid (rdEsc s i = some (9, i + 2)) from (by show rdEsc s i = _; rw [HE.out]; rw [if_neg h110, if_neg h114, if_pos h116]))
      clear HE HX
      have e116 : ((s[i + 1].toNat : Int) == 116) = true := beq_iff_eq.2 h116
      clear h116
      go_enter Try.func50, Try.ntmps50
      go_wp2
      go_ret3
      exact ⟨by rw [HF.out]; exact ret_es rfl (by omega), rfl⟩
    have e116 : ((s[i + 1].toNat : Int) == 116) = false := beq_eq_false_iff_ne.2 h116
    by_cases hg : (s[i + 1].toNat : Int) = 92 ∨ (s[i + 1].toNat : Int) = 39 ∨ (s[i + 1].toNat : Int) = 34
    · have HF := (show Hid (rdEsc s i = some ((s[i + 1].toNat : Int), i + 2)) from (by show rdEsc s i = _; rw [HE.out]; rw [if_neg h110, if_neg h114, if_neg h116, if_pos hg]))
      clear HE HX h110 h114 h116
      rcases hg with hg | hg | hg
      · have e92 : ((s[i + 1].toNat : Int) == 92) = true := beq_iff_eq.2 hg
        clear hg
        go_enter Try.func50, Try.ntmps50
        go_wp2
        go_ret3
        exact ⟨by rw [HF.out]; exact ret_es rfl (by omega), rfl⟩
      · have e92 : ((s[i + 1].toNat : Int) == 92) = false := beq_eq_false_iff_ne.2 (by omega)
        have e39 : ((s[i + 1].toNat : Int) == 39) = true := beq_iff_eq.2 hg
        clear hg
        go_enter Try.func50, Try.ntmps50
        go_wp2
        go_ret3
        exact ⟨by rw [HF.out]; exact ret_es rfl (by omega), rfl⟩
      · have e92 : ((s[i + 1].toNat : Int) == 92) = false := beq_eq_false_iff_ne.2 (by omega)
        have e39 : ((s[i + 1].toNat : Int) == 39) = false := beq_eq_false_iff_ne.2 (by omega)
        have e34 : ((s[i + 1].toNat : Int) == 34) = true := beq_iff_eq.2 hg
        clear hg
        go_enter Try.func50, Try.ntmps50
        go_wp2
        go_ret3
        exact ⟨by rw [HF.out]; exact ret_es rfl (by omega), rfl⟩
    have e92 : ((s[i + 1].toNat : Int) == 92) = false := beq_eq_false_iff_ne.2 (by omega)
    have e39 : ((s[i + 1].toNat : Int) == 39) = false := beq_eq_false_iff_ne.2 (by omega)
    have e34 : ((s[i + 1].toNat : Int) == 34) = false := beq_eq_false_iff_ne.2 (by omega)
    by_cases h120 : (s[i + 1].toNat : Int) = 120
    · have HF := (show Hid (rdEsc s i = rdHex s i) from (by show rdEsc s i = _; rw [HE.out]; rw [if_neg h110, if_neg h114, if_neg h116, if_neg hg, if_pos h120]))
      have e120 : ((s[i + 1].toNat : Int) == 120) = true := beq_iff_eq.2 h120
      clear HE h110 h114 h116 h120 hg
      go_enter Try.func50, Try.ntmps50
      go_wp2_with fail
      refine (HX.out _).mono ?_
      rintro e w' ⟨rfl, rfl⟩
      cases hq : rdHex s i with
      | none =>
        rw [hq] at HF
        clear HX hq
        dsimp only [esV]
        go_wp2
        go_ret3
        exact ⟨by rw [HF.out]; rfl, rfl⟩
      | some q =>
        obtain ⟨qb, qn⟩ := q
        rw [hq] at HF
        clear HX hq
        dsimp only [esV]
        go_wp2
        go_ret3
        exact ⟨by rw [HF.out]; rfl, rfl⟩
    have e120 : ((s[i + 1].toNat : Int) == 120) = false := beq_eq_false_iff_ne.2 h120
    have HF := (show Hid (rdEsc s i = none) from (by show rdEsc s i = _; rw [HE.out]; rw [if_neg h110, if_neg h114, if_neg h116, if_neg hg, if_neg h120]))
    clear HE HX h110 h114 h116 h120 hg
    go_enter Try.func50, Try.ntmps50
    go_wp2
    go_ret3
    exact ⟨by rw [HF.out]; rfl, rfl⟩
  · have HE : Hid (rdEsc s i = none) := (by show rdEsc s i = none; unfold rdEsc; rw [chr_out h]; rfl)
    have h1 : ¬ (i : Int) + 1 < (s.size : Int) := by omega
    go_enter Try.func50, Try.ntmps50
    go_wp2
    go_ret3
    exact ⟨by rw [HE.out]; rfl, rfl⟩

set_option maxRecDepth 100000 in
set_option maxHeartbeats 2000000 in
theorem readByte_any (s : ByteArray) (i : Nat) (h : i < s.size) (hs : s.size ≤ 140737488355328) (w : World) :
    Calls Try.prog 40 #[.string s, .int .i64 i] w fun e w' => e = .returned (byV (rdByte s i)) ∧ w' = w := by
  have HX : Hid (∀ w, Calls Try.prog 50 #[.string s, .int .i64 i] w fun e w' => e = .returned (esV (rdEsc s i)) ∧ w' = w) := fun w => readEsc_any s i h hs w
  have hb : (0 : Int) ≤ (s[i].toNat : Int) ∧ (s[i].toNat : Int) ≤ 255 := by have := s[i].toNat_lt; omega
  have HE : Hid (rdByte s i = if (s[i].toNat : Int) = 92 then (match rdEsc s i with | none => .inr (i, 21) | some p => .inl p) else if (s[i].toNat : Int) < 32 ∨ (s[i].toNat : Int) = 127 then .inr (i, 22) else .inl ((s[i].toNat : Int), i + 1)) := (by show rdByte s i = _; unfold rdByte; rw [chr_in h]; rfl)
  by_cases h92 : (s[i].toNat : Int) = 92
  · have e92 : ((s[i].toNat : Int) == 92) = true := beq_iff_eq.2 h92
    have HF := (show Hid (rdByte s i = (match rdEsc s i with | none => .inr (i, 21) | some p => .inl p)) from (by show rdByte s i = _; rw [HE.out, if_pos h92]))
    clear HE h92
    go_enter Try.func40, Try.ntmps40
    go_wp2_with fail
    refine (HX.out _).mono ?_
    rintro e w' ⟨rfl, rfl⟩
    cases hq : rdEsc s i with
    | none =>
      rw [hq] at HF
      clear HX hq
      dsimp only [esV]
      go_wp2
      go_ret3
      exact ⟨by rw [HF.out]; rfl, rfl⟩
    | some q =>
      obtain ⟨qb, qn⟩ := q
      rw [hq] at HF
      clear HX hq
      dsimp only [esV]
      go_wp2
      go_ret3
      exact ⟨by rw [HF.out]; rfl, rfl⟩
  · have e92 : ((s[i].toNat : Int) == 92) = false := beq_eq_false_iff_ne.2 h92
    clear HX
    by_cases h32 : (s[i].toNat : Int) < 32
    · have HF := (show Hid (rdByte s i = .inr (i, 22)) from (by show rdByte s i = _; rw [HE.out, if_neg h92, if_pos (.inl h32)]))
      clear HE h92
      go_enter Try.func40, Try.ntmps40
      go_wp2
      go_ret3
      exact ⟨by rw [HF.out]; rfl, rfl⟩
    by_cases h127 : (s[i].toNat : Int) = 127
    · have HF := (show Hid (rdByte s i = .inr (i, 22)) from (by show rdByte s i = _; rw [HE.out, if_neg h92, if_pos (.inr h127)]))
      have e127 : ((s[i].toNat : Int) == 127) = true := beq_iff_eq.2 h127
      clear HE h92 h127
      go_enter Try.func40, Try.ntmps40
      go_wp2
      go_ret3
      exact ⟨by rw [HF.out]; rfl, rfl⟩
    · have HF := (show Hid (rdByte s i = .inl ((s[i].toNat : Int), i + 1)) from (by show rdByte s i = _; rw [HE.out, if_neg h92, if_neg (by omega)]))
      have e127 : ((s[i].toNat : Int) == 127) = false := beq_eq_false_iff_ne.2 h127
      clear HE h92 h127
      go_enter Try.func40, Try.ntmps40
      go_wp2
      go_ret3
      exact ⟨by rw [HF.out]; exact ret_by rfl (by omega), rfl⟩
end Go.Proofs.Ytafnjidackofpaa
