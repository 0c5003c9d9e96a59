/- DERIVED. Walks: names, inBounds, isPoint, Is, Size, begins, Encode. -/
import Derived.Test.YtiillgahnbimjabDoorPlC
import Derived.Test.YtiillgahnbimjabDoorShelf
import Derived.BigQuiet
namespace Go.Proofs.YtiillgahnbimjabDoor
open Go.RowKit

set_option maxHeartbeats 1000000 in
theorem inBounds_any (n : Int) (w : World) : Calls Tryd.prog 10 #[.int .i64 n] w fun e w' => e = .returned (.bool (bdB n)) ∧ w' = w := by
  by_cases h0 : 0 ≤ n
  · by_cases h1 : n ≤ 1114111
    · have HE := (show Hid (bdB n = true) from bdB_t ⟨h0, h1⟩)
      go_enter Tryd.func10, Tryd.ntmps10
      go_wp2
      go_ret
      exact ⟨by rw [HE.out]; rfl, rfl⟩
    · have HE := (show Hid (bdB n = false) from bdB_f (fun h => h1 h.2))
      go_enter Tryd.func10, Tryd.ntmps10
      go_wp2
      go_ret
      exact ⟨by rw [HE.out]; rfl, rfl⟩
  · have HE := (show Hid (bdB n = false) from bdB_f (fun h => h0 h.1))
    go_enter Tryd.func10, Tryd.ntmps10
    go_wp2
    go_ret
    exact ⟨by rw [HE.out]; rfl, rfl⟩

set_option maxHeartbeats 2000000 in
theorem isPoint_any (n : Int) (w : World) : Calls Tryd.prog 12 #[.int .i64 n] w fun e w' => e = .returned (.bool (cpB n)) ∧ w' = w := by
  have HB : Hid (∀ w, Calls Tryd.prog 10 #[.int .i64 n] w fun e w' => e = .returned (.bool (bdB n)) ∧ w' = w) := fun w => inBounds_any n w
  by_cases hb : 0 ≤ n ∧ n ≤ 1114111
  · rw [bdB_t hb] at HB
    by_cases h0 : n < 55296
    · have HE := (show Hid (cpB n = true) from cpB_t (by unfold cp; omega))
      clear hb
      go_enter Tryd.func12, Tryd.ntmps12
      go_wp2_with fail
      refine (HB.out _).mono ?_
      rintro e w' ⟨rfl, rfl⟩
      go_wp2
      go_ret
      exact ⟨by rw [HE.out]; rfl, rfl⟩
    · by_cases h1 : 57343 < n
      · have HE := (show Hid (cpB n = true) from cpB_t (by unfold cp; omega))
        clear hb
        go_enter Tryd.func12, Tryd.ntmps12
        go_wp2_with fail
        refine (HB.out _).mono ?_
        rintro e w' ⟨rfl, rfl⟩
        go_wp2
        go_ret
        exact ⟨by rw [HE.out]; rfl, rfl⟩
      · have HE := (show Hid (cpB n = false) from cpB_f (by unfold cp; omega))
        have d0 : decide (n < 55296) = false := decide_eq_false h0
        have d1 : decide (57343 < n) = false := decide_eq_false h1
        clear hb h0 h1
        go_enter Tryd.func12, Tryd.ntmps12
        go_wp2_with fail
        refine (HB.out _).mono ?_
        rintro e w' ⟨rfl, rfl⟩
        go_wp2
        go_ret
        exact ⟨by rw [HE.out]; rfl, rfl⟩
  · rw [bdB_f hb] at HB
    have HE := (show Hid (cpB n = false) from cpB_f (by unfold cp; omega))
    clear hb
    go_enter Tryd.func12, Tryd.ntmps12
    go_wp2_with fail
    refine (HB.out _).mono ?_
    rintro e w' ⟨rfl, rfl⟩
    go_wp2
    go_ret
    exact ⟨by rw [HE.out]; rfl, rfl⟩

set_option maxHeartbeats 2000000 in
theorem begins_any (s : ByteArray) (r : Int) (w : World) : Calls Tryd.prog 13 #[.string s, .int .i32 r] w fun e w' => e = .returned (.bool (decide (r ≠ 65533) || Lib.hasPrefix s.data.toList [239, 191, 189])) ∧ w' = w := by
  have HP : Hid (∀ w, Calls Tryd.prog 18 #[.string s, .string ⟨#[239, 191, 189]⟩] w fun e w' => e = .returned (.bool (Lib.hasPrefix s.data.toList [239, 191, 189])) ∧ w' = w) := fun w => Tryd.strings_HasPrefix s ⟨#[239, 191, 189]⟩ w
  generalize Lib.hasPrefix s.data.toList [239, 191, 189] = b at *
  by_cases h : r = 65533
  · have HE := (show Hid ((decide (r ≠ 65533) || b) = b) from (by show _ = b; rw [decide_eq_false (by omega)]; rfl))
    have e1 : (r != 65533) = false := by rw [h]; rfl
    clear h
    go_enter Tryd.func13, Tryd.ntmps13
    go_wp2_with fail
    refine (HP.out _).mono ?_
    rintro e w' ⟨rfl, rfl⟩
    go_wp2
    go_ret
    exact ⟨by rw [HE.out]; rfl, rfl⟩
  · have HE := (show Hid ((decide (r ≠ 65533) || b) = true) from (by show _ = true; rw [decide_eq_true h]; rfl))
    have e1 : (r != 65533) = true := bne_iff_ne.2 h
    clear h
    go_enter Tryd.func13, Tryd.ntmps13
    go_wp2
    go_ret
    exact ⟨by rw [HE.out]; rfl, rfl⟩

set_option maxHeartbeats 2000000 in
theorem encode_any (n : Int) (w : World) : Calls Tryd.prog 6 #[.int .i64 n] w fun e w' => e = .returned (enV n) ∧ w' = w := by
  have HB : Hid (∀ w, Calls Tryd.prog 12 #[.int .i64 n] w fun e w' => e = .returned (.bool (cpB n)) ∧ w' = w) := fun w => isPoint_any n w
  by_cases h : cp n
  · rw [cpB_t h] at HB
    have HE := (show Hid _ from enV_t h)
    have q1 : IntKind.i32.wrap n = n := by unfold cp at h; rw [IntKind.wrap_i32]; omega
    clear h
    go_enter Tryd.func6, Tryd.ntmps6
    go_wp2_with fail
    refine (HB.out _).mono ?_
    rintro e w' ⟨rfl, rfl⟩
    go_wp2
    go_ret2
    exact ⟨by rw [HE.out]; rfl, rfl⟩
  · rw [cpB_f h] at HB
    have HE := (show Hid _ from enV_f h)
    clear h
    go_enter Tryd.func6, Tryd.ntmps6
    go_wp2_with fail
    refine (HB.out _).mono ?_
    rintro e w' ⟨rfl, rfl⟩
    go_wp2
    go_ret2
    exact ⟨by rw [HE.out]; rfl, rfl⟩
end Go.Proofs.YtiillgahnbimjabDoor
