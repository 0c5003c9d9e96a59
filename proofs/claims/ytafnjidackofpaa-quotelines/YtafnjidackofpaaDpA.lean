/- DERIVED. Walks: tail, length, begins, by the document. -/
import Derived.Test.YtafnjidackofpaaPlI
import Derived.Test.YtafnjidackofpaaRdA
namespace Go.Proofs.Ytafnjidackofpaa
open Go.RowKit

set_option maxRecDepth 100000 in
set_option maxHeartbeats 1000000 in
theorem tail_any (s : ByteArray) (i : Nat) (w : World) :
    Calls Try.prog 44 #[.string s, .int .i64 i] w fun e w' => e = .returned (.bool (tlB (chr s i))) ∧ w' = w := by
  by_cases h : i < s.size
  · have hI : (i : Int) < (s.size : Int) := by omega
    by_cases h1 : 128 ≤ (s[i].toNat : Int)
    · by_cases h2 : (s[i].toNat : Int) < 192
      · have HE : Hid (tlB (chr s i) = true) := (by show _ = _; rw [tlB_iff, chr_in h]; exact ⟨h1, h2⟩)
        go_enter Try.func44, Try.ntmps44
        go_wp2
        go_ret
        exact ⟨ret_bool HE.out.symm, rfl⟩
      · have HE : Hid (tlB (chr s i) = false) := (by show _ = _; rw [← Bool.not_eq_true, tlB_iff, chr_in h]; omega)
        go_enter Try.func44, Try.ntmps44
        go_wp2
        go_ret
        exact ⟨ret_bool HE.out.symm, rfl⟩
    · have HE : Hid (tlB (chr s i) = false) := (by show _ = _; rw [← Bool.not_eq_true, tlB_iff, chr_in h]; omega)
      go_enter Try.func44, Try.ntmps44
      go_wp2
      go_ret
      exact ⟨ret_bool HE.out.symm, rfl⟩
  · have hI : ¬ (i : Int) < (s.size : Int) := by omega
    have HE : Hid (tlB (chr s i) = false) := (by show _ = _; rw [← Bool.not_eq_true, tlB_iff, chr_out h]; omega)
    go_enter Try.func44, Try.ntmps44
    go_wp2
    go_ret
    exact ⟨ret_bool HE.out.symm, rfl⟩

set_option maxRecDepth 100000 in
set_option maxHeartbeats 4000000 in
theorem length_low (s : ByteArray) (i : Nat) (hi : i < s.size) (_hs : s.size ≤ 65536) (h : (s[i].toNat : Int) < 194 ∨ 244 < (s[i].toNat : Int)) (w : World) :
    Calls Try.prog 36 #[.string s, .int .i64 i] w fun e w' => e = .returned (.int .i64 (chW s i)) ∧ w' = w := by
  have hiI : (i : Int) < (s.size : Int) := by omega
  have HE := (show Hid (chW s i = 1) from (by show _ = _; unfold chW wdB; rw [chr_in hi]; rw [if_neg (by omega), if_neg (by omega), if_neg (by omega)]))
  rcases h with h | h
  · have n1 : ¬ 194 ≤ (s[i].toNat : Int) := by omega
    have n2 : ¬ 224 ≤ (s[i].toNat : Int) := by omega
    have n3 : ¬ 240 ≤ (s[i].toNat : Int) := by omega
    go_enter Try.func36, Try.ntmps36
    go_wp2
    go_ret
    exact ⟨by rw [HE.out]; rfl, rfl⟩
  · have n1 : 194 ≤ (s[i].toNat : Int) := by omega
    have n2 : 224 ≤ (s[i].toNat : Int) := by omega
    have n3 : 240 ≤ (s[i].toNat : Int) := by omega
    have m1 : ¬ (s[i].toNat : Int) ≤ 223 := by omega
    have m2 : ¬ (s[i].toNat : Int) ≤ 239 := by omega
    have m3 : ¬ (s[i].toNat : Int) ≤ 244 := by omega
    go_enter Try.func36, Try.ntmps36
    go_wp2
    go_ret
    exact ⟨by rw [HE.out]; rfl, rfl⟩

set_option maxRecDepth 100000 in
set_option maxHeartbeats 4000000 in
theorem length_two (s : ByteArray) (i : Nat) (hi : i < s.size) (hs : s.size ≤ 65536) (h1 : 194 ≤ (s[i].toNat : Int)) (h2 : (s[i].toNat : Int) ≤ 223) (w : World) :
    Calls Try.prog 36 #[.string s, .int .i64 i] w fun e w' => e = .returned (.int .i64 (chW s i)) ∧ w' = w := by
  have hiI : (i : Int) < (s.size : Int) := by omega
  have n2 : ¬ 224 ≤ (s[i].toNat : Int) := by omega
  have n3 : ¬ 240 ≤ (s[i].toNat : Int) := by omega
  cases q1 : tlB (chr s (i + 1))
  · have HE := (show Hid (chW s i = 1) from (by show _ = _; unfold chW wdB; rw [chr_in hi]; rw [if_neg (by rw [q1]; simp), if_neg (by omega), if_neg (by omega)]))
    have T1 : Hid (∀ w, Calls Try.prog 44 #[.string s, .int .i64 ((i : Int) + 1)] w fun e w' => e = .returned (.bool false) ∧ w' = w) := fun w => by have h := tail_any s (i + 1) w; rw [q1] at h; exact h
    clear q1
    go_enter Try.func36, Try.ntmps36
    go_wp2_with fail
    refine (T1.out _).mono ?_
    rintro e w' ⟨rfl, rfl⟩
    go_wp2
    go_ret
    exact ⟨by rw [HE.out]; rfl, rfl⟩
  · have HE := (show Hid (chW s i = 2) from (by show _ = _; unfold chW wdB; rw [chr_in hi]; rw [if_pos ⟨⟨h1, h2⟩, q1⟩]))
    have T1 : Hid (∀ w, Calls Try.prog 44 #[.string s, .int .i64 ((i : Int) + 1)] w fun e w' => e = .returned (.bool true) ∧ w' = w) := fun w => by have h := tail_any s (i + 1) w; rw [q1] at h; exact h
    clear q1
    go_enter Try.func36, Try.ntmps36
    go_wp2_with fail
    refine (T1.out _).mono ?_
    rintro e w' ⟨rfl, rfl⟩
    go_wp2
    go_ret
    exact ⟨by rw [HE.out]; rfl, rfl⟩

set_option maxRecDepth 100000 in
set_option maxHeartbeats 4000000 in
theorem length_three (s : ByteArray) (i : Nat) (hi : i < s.size) (hs : s.size ≤ 65536) (h1 : 224 ≤ (s[i].toNat : Int)) (h2 : (s[i].toNat : Int) ≤ 239) (w : World) :
    Calls Try.prog 36 #[.string s, .int .i64 i] w fun e w' => e = .returned (.int .i64 (chW s i)) ∧ w' = w := by
  have hiI : (i : Int) < (s.size : Int) := by omega
  have n1 : 194 ≤ (s[i].toNat : Int) := by omega
  have m1 : ¬ (s[i].toNat : Int) ≤ 223 := by omega
  have n3 : ¬ 240 ≤ (s[i].toNat : Int) := by omega
  cases q1 : tlB (chr s (i + 1))
  · have HE := (show Hid (chW s i = 1) from (by show _ = _; unfold chW wdB; rw [chr_in hi]; rw [if_neg (by omega), if_neg (by rw [q1]; simp), if_neg (by omega)]))
    have T1 : Hid (∀ w, Calls Try.prog 44 #[.string s, .int .i64 ((i : Int) + 1)] w fun e w' => e = .returned (.bool false) ∧ w' = w) := fun w => by have h := tail_any s (i + 1) w; rw [q1] at h; exact h
    clear q1
    go_enter Try.func36, Try.ntmps36
    go_wp2_with fail
    refine (T1.out _).mono ?_
    rintro e w' ⟨rfl, rfl⟩
    go_wp2
    go_ret
    exact ⟨by rw [HE.out]; rfl, rfl⟩
  have T1 : Hid (∀ w, Calls Try.prog 44 #[.string s, .int .i64 ((i : Int) + 1)] w fun e w' => e = .returned (.bool true) ∧ w' = w) := fun w => by have h := tail_any s (i + 1) w; rw [q1] at h; exact h
  cases q2 : tlB (chr s (i + 2))
  · have HE := (show Hid (chW s i = 1) from (by show _ = _; unfold chW wdB; rw [chr_in hi]; rw [if_neg (by omega), if_neg (by rw [q2]; simp), if_neg (by omega)]))
    have T2 : Hid (∀ w, Calls Try.prog 44 #[.string s, .int .i64 ((i : Int) + 2)] w fun e w' => e = .returned (.bool false) ∧ w' = w) := fun w => by have h := tail_any s (i + 2) w; rw [q2] at h; exact h
    clear q1 q2
    go_enter Try.func36, Try.ntmps36
    go_wp2_with fail
    refine (T1.out _).mono ?_
    rintro e w' ⟨rfl, rfl⟩
    go_wp2_with fail
    refine (T2.out _).mono ?_
    rintro e w' ⟨rfl, rfl⟩
    go_wp2
    go_ret
    exact ⟨by rw [HE.out]; rfl, rfl⟩
  have T2 : Hid (∀ w, Calls Try.prog 44 #[.string s, .int .i64 ((i : Int) + 2)] w fun e w' => e = .returned (.bool true) ∧ w' = w) := fun w => by have h := tail_any s (i + 2) w; rw [q2] at h; exact h
  have hi1 : i + 1 < s.size := chr_lt (by rw [tlB_iff] at q1; omega)
  have hi1I : (i : Int) + 1 < (s.size : Int) := by omega
  have hc := chr_in hi1
  by_cases g1 : (s[i].toNat : Int) = 224
  · have e1 : ((s[i].toNat : Int) != 224) = false := bne_eq_false_iff_eq.2 g1
    have e2 : ((s[i].toNat : Int) != 237) = true := bne_iff_ne.2 (by omega)
    by_cases g2 : 160 ≤ (s[i + 1].toNat : Int)
    · have HE := (show Hid (chW s i = 3) from (by show _ = _; unfold chW wdB; rw [chr_in hi]; rw [if_neg (by omega), if_pos ⟨⟨h1, h2⟩, q1, q2, by rw [hc]; omega, by rw [hc]; omega⟩]))
      clear q1 q2 hc g1
      go_enter Try.func36, Try.ntmps36
      go_wp2_with fail
      refine (T1.out _).mono ?_
      rintro e w' ⟨rfl, rfl⟩
      go_wp2_with fail
      refine (T2.out _).mono ?_
      rintro e w' ⟨rfl, rfl⟩
      go_wp2
      go_ret
      exact ⟨by rw [HE.out]; rfl, rfl⟩
    · have HE := (show Hid (chW s i = 1) from (by show _ = _; unfold chW wdB; rw [chr_in hi]; rw [if_neg (by omega), if_neg (by rw [hc]; omega), if_neg (by omega)]))
      clear q1 q2 hc g1
      go_enter Try.func36, Try.ntmps36
      go_wp2_with fail
      refine (T1.out _).mono ?_
      rintro e w' ⟨rfl, rfl⟩
      go_wp2_with fail
      refine (T2.out _).mono ?_
      rintro e w' ⟨rfl, rfl⟩
      go_wp2
      go_ret
      exact ⟨by rw [HE.out]; rfl, rfl⟩
  have e1 : ((s[i].toNat : Int) != 224) = true := bne_iff_ne.2 g1
  by_cases g3 : (s[i].toNat : Int) = 237
  · have e2 : ((s[i].toNat : Int) != 237) = false := bne_eq_false_iff_eq.2 g3
    by_cases g2 : (s[i + 1].toNat : Int) < 160
    · have HE := (show Hid (chW s i = 3) from (by show _ = _; unfold chW wdB; rw [chr_in hi]; rw [if_neg (by omega), if_pos ⟨⟨h1, h2⟩, q1, q2, by rw [hc]; omega, by rw [hc]; omega⟩]))
      clear q1 q2 hc g1 g3
      go_enter Try.func36, Try.ntmps36
      go_wp2_with fail
      refine (T1.out _).mono ?_
      rintro e w' ⟨rfl, rfl⟩
      go_wp2_with fail
      refine (T2.out _).mono ?_
      rintro e w' ⟨rfl, rfl⟩
      go_wp2
      go_ret
      exact ⟨by rw [HE.out]; rfl, rfl⟩
    · have HE := (show Hid (chW s i = 1) from (by show _ = _; unfold chW wdB; rw [chr_in hi]; rw [if_neg (by omega), if_neg (by rw [hc]; omega), if_neg (by omega)]))
      clear q1 q2 hc g1 g3
      go_enter Try.func36, Try.ntmps36
      go_wp2_with fail
      refine (T1.out _).mono ?_
      rintro e w' ⟨rfl, rfl⟩
      go_wp2_with fail
      refine (T2.out _).mono ?_
      rintro e w' ⟨rfl, rfl⟩
      go_wp2
      go_ret
      exact ⟨by rw [HE.out]; rfl, rfl⟩
  have e2 : ((s[i].toNat : Int) != 237) = true := bne_iff_ne.2 g3
  have HE := (show Hid (chW s i = 3) from (by show _ = _; unfold chW wdB; rw [chr_in hi]; rw [if_neg (by omega), if_pos ⟨⟨h1, h2⟩, q1, q2, by rw [hc]; omega, by rw [hc]; omega⟩]))
  clear q1 q2 hc g1 g3
  go_enter Try.func36, Try.ntmps36
  go_wp2_with fail
  refine (T1.out _).mono ?_
  rintro e w' ⟨rfl, rfl⟩
  go_wp2_with fail
  refine (T2.out _).mono ?_
  rintro e w' ⟨rfl, rfl⟩
  go_wp2
  go_ret
  exact ⟨by rw [HE.out]; rfl, rfl⟩

set_option maxRecDepth 100000 in
set_option maxHeartbeats 4000000 in
theorem length_four (s : ByteArray) (i : Nat) (hi : i < s.size) (hs : s.size ≤ 65536) (h1 : 240 ≤ (s[i].toNat : Int)) (h2 : (s[i].toNat : Int) ≤ 244) (w : World) :
    Calls Try.prog 36 #[.string s, .int .i64 i] w fun e w' => e = .returned (.int .i64 (chW s i)) ∧ w' = w := by
  have hiI : (i : Int) < (s.size : Int) := by omega
  have n1 : 194 ≤ (s[i].toNat : Int) := by omega
  have m1 : ¬ (s[i].toNat : Int) ≤ 223 := by omega
  have n2 : 224 ≤ (s[i].toNat : Int) := by omega
  have m2 : ¬ (s[i].toNat : Int) ≤ 239 := by omega
  cases q1 : tlB (chr s (i + 1))
  · have HE := (show Hid (chW s i = 1) from (by show _ = _; unfold chW wdB; rw [chr_in hi]; rw [if_neg (by omega), if_neg (by omega), if_neg (by rw [q1]; simp)]))
    have T1 : Hid (∀ w, Calls Try.prog 44 #[.string s, .int .i64 ((i : Int) + 1)] w fun e w' => e = .returned (.bool false) ∧ w' = w) := fun w => by have h := tail_any s (i + 1) w; rw [q1] at h; exact h
    clear q1
    go_enter Try.func36, Try.ntmps36
    go_wp2_with fail
    refine (T1.out _).mono ?_
    rintro e w' ⟨rfl, rfl⟩
    go_wp2
    go_ret
    exact ⟨by rw [HE.out]; rfl, rfl⟩
  have T1 : Hid (∀ w, Calls Try.prog 44 #[.string s, .int .i64 ((i : Int) + 1)] w fun e w' => e = .returned (.bool true) ∧ w' = w) := fun w => by have h := tail_any s (i + 1) w; rw [q1] at h; exact h
  cases q2 : tlB (chr s (i + 2))
  · have HE := (show Hid (chW s i = 1) from (by show _ = _; unfold chW wdB; rw [chr_in hi]; rw [if_neg (by omega), if_neg (by omega), if_neg (by rw [q2]; simp)]))
    have T2 : Hid (∀ w, Calls Try.prog 44 #[.string s, .int .i64 ((i : Int) + 2)] w fun e w' => e = .returned (.bool false) ∧ w' = w) := fun w => by have h := tail_any s (i + 2) w; rw [q2] at h; exact h
    clear q1 q2
    go_enter Try.func36, Try.ntmps36
    go_wp2_with fail
    refine (T1.out _).mono ?_
    rintro e w' ⟨rfl, rfl⟩
    go_wp2_with fail
    refine (T2.out _).mono ?_
    rintro e w' ⟨rfl, rfl⟩
    go_wp2
    go_ret
    exact ⟨by rw [HE.out]; rfl, rfl⟩
  have T2 : Hid (∀ w, Calls Try.prog 44 #[.string s, .int .i64 ((i : Int) + 2)] w fun e w' => e = .returned (.bool true) ∧ w' = w) := fun w => by have h := tail_any s (i + 2) w; rw [q2] at h; exact h
  cases q3 : tlB (chr s (i + 3))
  · have HE := (show Hid (chW s i = 1) from (by show _ = _; unfold chW wdB; rw [chr_in hi]; rw [if_neg (by omega), if_neg (by omega), if_neg (by rw [q3]; simp)]))
    have T3 : Hid (∀ w, Calls Try.prog 44 #[.string s, .int .i64 ((i : Int) + 3)] w fun e w' => e = .returned (.bool false) ∧ w' = w) := fun w => by have h := tail_any s (i + 3) w; rw [q3] at h; exact h
    clear q1 q2 q3
    go_enter Try.func36, Try.ntmps36
    go_wp2_with fail
    refine (T1.out _).mono ?_
    rintro e w' ⟨rfl, rfl⟩
    go_wp2_with fail
    refine (T2.out _).mono ?_
    rintro e w' ⟨rfl, rfl⟩
    go_wp2_with fail
    refine (T3.out _).mono ?_
    rintro e w' ⟨rfl, rfl⟩
    go_wp2
    go_ret
    exact ⟨by rw [HE.out]; rfl, rfl⟩
  have T3 : Hid (∀ w, Calls Try.prog 44 #[.string s, .int .i64 ((i : Int) + 3)] w fun e w' => e = .returned (.bool true) ∧ w' = w) := fun w => by have h := tail_any s (i + 3) w; rw [q3] at h; exact h
  have hi1 : i + 1 < s.size := chr_lt (by rw [tlB_iff] at q1; omega)
  have hi1I : (i : Int) + 1 < (s.size : Int) := by omega
  have hc := chr_in hi1
  by_cases g1 : (s[i].toNat : Int) = 240
  · have e1 : ((s[i].toNat : Int) != 240) = false := bne_eq_false_iff_eq.2 g1
    have e2 : ((s[i].toNat : Int) != 244) = true := bne_iff_ne.2 (by omega)
    by_cases g2 : 144 ≤ (s[i + 1].toNat : Int)
    · have HE := (show Hid (chW s i = 4) from (by show _ = _; unfold chW wdB; rw [chr_in hi]; rw [if_neg (by omega), if_neg (by omega), if_pos ⟨⟨h1, h2⟩, q1, q2, q3, by rw [hc]; omega, by rw [hc]; omega⟩]))
      clear q1 q2 q3 hc g1
      go_enter Try.func36, Try.ntmps36
      go_wp2_with fail
      refine (T1.out _).mono ?_
      rintro e w' ⟨rfl, rfl⟩
      go_wp2_with fail
      refine (T2.out _).mono ?_
      rintro e w' ⟨rfl, rfl⟩
      go_wp2_with fail
      refine (T3.out _).mono ?_
      rintro e w' ⟨rfl, rfl⟩
      go_wp2
      go_ret
      exact ⟨by rw [HE.out]; rfl, rfl⟩
    · have HE := (show Hid (chW s i = 1) from (by show _ = _; unfold chW wdB; rw [chr_in hi]; rw [if_neg (by omega), if_neg (by omega), if_neg (by rw [hc]; omega)]))
      clear q1 q2 q3 hc g1
      go_enter Try.func36, Try.ntmps36
      go_wp2_with fail
      refine (T1.out _).mono ?_
      rintro e w' ⟨rfl, rfl⟩
      go_wp2_with fail
      refine (T2.out _).mono ?_
      rintro e w' ⟨rfl, rfl⟩
      go_wp2_with fail
      refine (T3.out _).mono ?_
      rintro e w' ⟨rfl, rfl⟩
      go_wp2
      go_ret
      exact ⟨by rw [HE.out]; rfl, rfl⟩
  have e1 : ((s[i].toNat : Int) != 240) = true := bne_iff_ne.2 g1
  by_cases g3 : (s[i].toNat : Int) = 244
  · have e2 : ((s[i].toNat : Int) != 244) = false := bne_eq_false_iff_eq.2 g3
    by_cases g2 : (s[i + 1].toNat : Int) < 144
    · have HE := (show Hid (chW s i = 4) from (by show _ = _; unfold chW wdB; rw [chr_in hi]; rw [if_neg (by omega), if_neg (by omega), if_pos ⟨⟨h1, h2⟩, q1, q2, q3, by rw [hc]; omega, by rw [hc]; omega⟩]))
      clear q1 q2 q3 hc g1 g3
      go_enter Try.func36, Try.ntmps36
      go_wp2_with fail
      refine (T1.out _).mono ?_
      rintro e w' ⟨rfl, rfl⟩
      go_wp2_with fail
      refine (T2.out _).mono ?_
      rintro e w' ⟨rfl, rfl⟩
      go_wp2_with fail
      refine (T3.out _).mono ?_
      rintro e w' ⟨rfl, rfl⟩
      go_wp2
      go_ret
      exact ⟨by rw [HE.out]; rfl, rfl⟩
    · have HE := (show Hid (chW s i = 1) from (by show _ = _; unfold chW wdB; rw [chr_in hi]; rw [if_neg (by omega), if_neg (by omega), if_neg (by rw [hc]; omega)]))
      clear q1 q2 q3 hc g1 g3
      go_enter Try.func36, Try.ntmps36
      go_wp2_with fail
      refine (T1.out _).mono ?_
      rintro e w' ⟨rfl, rfl⟩
      go_wp2_with fail
      refine (T2.out _).mono ?_
      rintro e w' ⟨rfl, rfl⟩
      go_wp2_with fail
      refine (T3.out _).mono ?_
      rintro e w' ⟨rfl, rfl⟩
      go_wp2
      go_ret
      exact ⟨by rw [HE.out]; rfl, rfl⟩
  have e2 : ((s[i].toNat : Int) != 244) = true := bne_iff_ne.2 g3
  have HE := (show Hid (chW s i = 4) from (by show _ = _; unfold chW wdB; rw [chr_in hi]; rw [if_neg (by omega), if_neg (by omega), if_pos ⟨⟨h1, h2⟩, q1, q2, q3, by rw [hc]; omega, by rw [hc]; omega⟩]))
  clear q1 q2 q3 hc g1 g3
  go_enter Try.func36, Try.ntmps36
  go_wp2_with fail
  refine (T1.out _).mono ?_
  rintro e w' ⟨rfl, rfl⟩
  go_wp2_with fail
  refine (T2.out _).mono ?_
  rintro e w' ⟨rfl, rfl⟩
  go_wp2_with fail
  refine (T3.out _).mono ?_
  rintro e w' ⟨rfl, rfl⟩
  go_wp2
  go_ret
  exact ⟨by rw [HE.out]; rfl, rfl⟩

theorem length_any (s : ByteArray) (i : Nat) (hi : i < s.size) (hs : s.size ≤ 65536) (w : World) :
    Calls Try.prog 36 #[.string s, .int .i64 i] w fun e w' => e = .returned (.int .i64 (chW s i)) ∧ w' = w := by
  by_cases h1 : (s[i].toNat : Int) < 194 ∨ 244 < (s[i].toNat : Int)
  · exact length_low s i hi hs h1 w
  by_cases h2 : (s[i].toNat : Int) ≤ 223
  · exact length_two s i hi hs (by omega) h2 w
  by_cases h3 : (s[i].toNat : Int) ≤ 239
  · exact length_three s i hi hs (by omega) h3 w
  exact length_four s i hi hs (by omega) (by omega) w
end Go.Proofs.Ytafnjidackofpaa
