/- DERIVED. Walks: names, inBounds, isPoint, Is, Size, begins, Encode. -/
import Derived.Test.YtiillgahnbimjaaDoorPlC
import Derived.Test.YtiillgahnbimjaaDoorShelf
import Derived.BigQuiet
namespace Go.Proofs.YtiillgahnbimjaaDoor
open Go.RowKit

set_option maxHeartbeats 1000000 in
theorem names_any (w : World) : Calls Tryd.prog 8 #[] w fun e w' => e = .returned (.bool true) ∧ w' = w := by
  go_enter Tryd.func8, Tryd.ntmps8
  go_wp2
  go_ret
  exact ⟨rfl, rfl⟩

set_option maxHeartbeats 1000000 in
theorem inBounds_any (n : Int) (w : World) : Calls Tryd.prog 38 #[.int .i64 n] w fun e w' => e = .returned (.bool (bdB n)) ∧ w' = w := by
  by_cases h0 : 0 ≤ n
  · by_cases h1 : n ≤ 1114111
    · have HE := (show Hid (bdB n = true) from bdB_t ⟨h0, h1⟩)
      go_enter Tryd.func38, Tryd.ntmps38
      go_wp2
      go_ret
      exact ⟨by rw [HE.out]; rfl, rfl⟩
    · have HE := (show Hid (bdB n = false) from bdB_f (fun h => h1 h.2))
      go_enter Tryd.func38, Tryd.ntmps38
      go_wp2
      go_ret
      exact ⟨by rw [HE.out]; rfl, rfl⟩
  · have HE := (show Hid (bdB n = false) from bdB_f (fun h => h0 h.1))
    go_enter Tryd.func38, Tryd.ntmps38
    go_wp2
    go_ret
    exact ⟨by rw [HE.out]; rfl, rfl⟩

set_option maxHeartbeats 2000000 in
theorem isPoint_any (n : Int) (w : World) : Calls Tryd.prog 35 #[.int .i64 n] w fun e w' => e = .returned (.bool (cpB n)) ∧ w' = w := by
  have HB : Hid (∀ w, Calls Tryd.prog 38 #[.int .i64 n] w fun e w' => e = .returned (.bool (bdB n)) ∧ w' = w) := fun w => inBounds_any n w
  by_cases hb : 0 ≤ n ∧ n ≤ 1114111
  · rw [bdB_t hb] at HB
    by_cases h0 : n < 55296
    · have HE := (show Hid (cpB n = true) from cpB_t (by unfold cp; omega))
      clear hb
      go_enter Tryd.func35, Tryd.ntmps35
      go_wp2_with fail
      refine (HB.out _).mono ?_
      rintro e w' ⟨rfl, rfl⟩
      go_wp2
      go_ret
      exact ⟨by rw [HE.out]; rfl, rfl⟩
    · by_cases h1 : 57343 < n
      · have HE := (show Hid (cpB n = true) from cpB_t (by unfold cp; omega))
        clear hb
        go_enter Tryd.func35, Tryd.ntmps35
        go_wp2_with fail
        refine (HB.out _).mono ?_
        rintro e w' ⟨rfl, rfl⟩
        go_wp2
        go_ret
        exact ⟨by rw [HE.out]; rfl, rfl⟩
      · have HE := (show Hid (cpB n = false) from cpB_f (by unfold cp; omega))
        have d0 : decide (n < 55296) = false := decide_eq_false h0
        have d1 : decide (57343 < n) = false := decide_eq_false h1
        clear hb h0 h1
        go_enter Tryd.func35, Tryd.ntmps35
        go_wp2_with fail
        refine (HB.out _).mono ?_
        rintro e w' ⟨rfl, rfl⟩
        go_wp2
        go_ret
        exact ⟨by rw [HE.out]; rfl, rfl⟩
  · rw [bdB_f hb] at HB
    have HE := (show Hid (cpB n = false) from cpB_f (by unfold cp; omega))
    clear hb
    go_enter Tryd.func35, Tryd.ntmps35
    go_wp2_with fail
    refine (HB.out _).mono ?_
    rintro e w' ⟨rfl, rfl⟩
    go_wp2
    go_ret
    exact ⟨by rw [HE.out]; rfl, rfl⟩

set_option maxHeartbeats 2000000 in
theorem isR_any (n : Int) (w : World) : Calls Tryd.prog 36 #[.int .i64 n] w fun e w' => e = .returned (.bool (cpB n)) ∧ w' = w := by
  by_cases h0 : 0 ≤ n
  · by_cases h1 : n ≤ 1114111
    · by_cases h2 : 55296 ≤ n
      · by_cases h3 : n ≤ 57343
        · have HE := (show Hid (cpB n = false) from cpB_f (by unfold cp; omega))
          go_enter Tryd.func36, Tryd.ntmps36
          go_wp2
          go_ret
          exact ⟨by rw [HE.out]; rfl, rfl⟩
        · have HE := (show Hid (cpB n = true) from cpB_t (by unfold cp; omega))
          go_enter Tryd.func36, Tryd.ntmps36
          go_wp2
          go_ret
          exact ⟨by rw [HE.out]; rfl, rfl⟩
      · have HE := (show Hid (cpB n = true) from cpB_t (by unfold cp; omega))
        go_enter Tryd.func36, Tryd.ntmps36
        go_wp2
        go_ret
        exact ⟨by rw [HE.out]; rfl, rfl⟩
    · have HE := (show Hid (cpB n = false) from cpB_f (by unfold cp; omega))
      go_enter Tryd.func36, Tryd.ntmps36
      go_wp2
      go_ret
      exact ⟨by rw [HE.out]; rfl, rfl⟩
  · have HE := (show Hid (cpB n = false) from cpB_f (by unfold cp; omega))
    go_enter Tryd.func36, Tryd.ntmps36
    go_wp2
    go_ret
    exact ⟨by rw [HE.out]; rfl, rfl⟩

set_option maxHeartbeats 2000000 in
theorem sizeR_any (n : Int) (w : World) : Calls Tryd.prog 45 #[.int .i64 n] w fun e w' => e = .returned (.int .i64 (szI n : Int)) ∧ w' = w := by
  by_cases h0 : n ≤ 127
  · have HE := (show Hid (szI n = 1) from (by show szI n = 1; unfold szI; rw [if_pos h0]))
    go_enter Tryd.func45, Tryd.ntmps45
    go_wp2
    go_ret
    exact ⟨by rw [HE.out]; rfl, rfl⟩
  · by_cases h1 : n ≤ 2047
    · have HE := (show Hid (szI n = 2) from (by show szI n = 2; unfold szI; rw [if_neg h0, if_pos h1]))
      go_enter Tryd.func45, Tryd.ntmps45
      go_wp2
      go_ret
      exact ⟨by rw [HE.out]; rfl, rfl⟩
    · by_cases h2 : n ≤ 65535
      · have HE := (show Hid (szI n = 3) from (by show szI n = 3; unfold szI; rw [if_neg h0, if_neg h1, if_pos h2]))
        go_enter Tryd.func45, Tryd.ntmps45
        go_wp2
        go_ret
        exact ⟨by rw [HE.out]; rfl, rfl⟩
      · have HE := (show Hid (szI n = 4) from (by show szI n = 4; unfold szI; rw [if_neg h0, if_neg h1, if_neg h2]))
        go_enter Tryd.func45, Tryd.ntmps45
        go_wp2
        go_ret
        exact ⟨by rw [HE.out]; rfl, rfl⟩

set_option maxHeartbeats 2000000 in
theorem begins_any (s : ByteArray) (r : Int) (w : World) : Calls Tryd.prog 32 #[.string s, .int .i32 r] w fun e w' => e = .returned (.bool (decide (r ≠ 65533) || Lib.hasPrefix s.data.toList [239, 191, 189])) ∧ w' = w := by
  have HP : Hid (∀ w, Calls Tryd.prog 44 #[.string s, .string ⟨#[239, 191, 189]⟩] w fun e w' => e = .returned (.bool (Lib.hasPrefix s.data.toList [239, 191, 189])) ∧ w' = w) := fun w => Tryd.strings_HasPrefix s ⟨#[239, 191, 189]⟩ w
  generalize Lib.hasPrefix s.data.toList [239, 191, 189] = b at *
  by_cases h : r = 65533
  · have HE := (show Hid ((decide (r ≠ 65533) || b) = b) from (by show _ = b; rw [decide_eq_false (by omega)]; rfl))
    have e1 : (r != 65533) = false := by rw [h]; rfl
    clear h
    go_enter Tryd.func32, Tryd.ntmps32
    go_wp2_with fail
    refine (HP.out _).mono ?_
    rintro e w' ⟨rfl, rfl⟩
    go_wp2
    go_ret
    exact ⟨by rw [HE.out]; rfl, rfl⟩
  · have HE := (show Hid ((decide (r ≠ 65533) || b) = true) from (by show _ = true; rw [decide_eq_true h]; rfl))
    have e1 : (r != 65533) = true := bne_iff_ne.2 h
    clear h
    go_enter Tryd.func32, Tryd.ntmps32
    go_wp2
    go_ret
    exact ⟨by rw [HE.out]; rfl, rfl⟩

set_option maxHeartbeats 2000000 in
theorem encode_any (n : Int) (w : World) : Calls Tryd.prog 30 #[.int .i64 n] w fun e w' => e = .returned (enV n) ∧ w' = w := by
  have HB : Hid (∀ w, Calls Tryd.prog 35 #[.int .i64 n] w fun e w' => e = .returned (.bool (cpB n)) ∧ w' = w) := fun w => isPoint_any n w
  by_cases h : cp n
  · rw [cpB_t h] at HB
    have HE := (show Hid _ from enV_t h)
    have q1 : IntKind.i32.wrap n = n := by unfold cp at h; rw [IntKind.wrap_i32]; omega
    clear h
    go_enter Tryd.func30, Tryd.ntmps30
    go_wp2_with fail
    refine (HB.out _).mono ?_
    rintro e w' ⟨rfl, rfl⟩
    go_wp2
    go_ret2
    exact ⟨by rw [HE.out]; rfl, rfl⟩
  · rw [cpB_f h] at HB
    have HE := (show Hid _ from enV_f h)
    clear h
    go_enter Tryd.func30, Tryd.ntmps30
    go_wp2_with fail
    refine (HB.out _).mono ?_
    rintro e w' ⟨rfl, rfl⟩
    go_wp2
    go_ret2
    exact ⟨by rw [HE.out]; rfl, rfl⟩
end Go.Proofs.YtiillgahnbimjaaDoor
