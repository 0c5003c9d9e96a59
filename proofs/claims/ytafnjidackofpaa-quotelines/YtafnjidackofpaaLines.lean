/- DERIVED. Walks: Lines, Line, by the document; the law QuoteLines. -/
import Derived.Test.YtafnjidackofpaaLiB
import Derived.Test.YtafnjidackofpaaDpB
import Derived.Test.YtafnjidackofpaaRdC
namespace Go.Proofs.Ytafnjidackofpaa
open Go.RowKit

set_option maxRecDepth 100000 in
set_option maxHeartbeats 2000000 in
theorem linesR_any (s : ByteArray) (w : World) :
    Calls Try.prog 21 #[.string s] w fun e w' => e = .returned (linesV s) ∧ w' = w := by
  by_cases h : 65536 < s.size
  · have HE := (show Hid (linesV s = .tuple #[.int .i64 0, .int .i64 2]) from (by show _ = _; unfold linesV; rw [if_pos h]))
    have hI : (65536 : Int) < (s.size : Int) := by omega
    clear h
    go_enter Try.func21, Try.ntmps21
    go_wp2
    go_ret2
    exact ⟨by rw [HE.out]; rfl, rfl⟩
  · have HE := (show Hid (linesV s = .tuple #[.int .i64 ((cnt10 s s.size + 1 : Nat) : Int), .int .i64 0]) from (by show _ = _; unfold linesV; rw [if_neg h]))
    have t1 : decide ((65536 : Int) < (s.size : Int)) = false := decide_eq_false (by omega)
    go_enter Try.func21, Try.ntmps21
    go_wp2_with fail
    go_loop [4, 5] (fun u v => ∃ k : Nat, k ≤ s.size ∧ u = .int .i64 ((cnt10 s k + 1 : Nat) : Int) ∧ v = .int .i64 k) (fun _ v => s.size - (intOf v).toNat)
    case atStart => exact ⟨0, by omega, rfl, rfl⟩
    case round =>
      obtain ⟨k, hk, rfl, rfl⟩ := hrel
      have hcl := cnt10_le s k
      by_cases hks : k < s.size
      · have HC := (show Hid (cnt10 s (k + 1) = if chr s k = 10 then cnt10 s k + 1 else cnt10 s k) from rfl)
        by_cases h10 : chr s k = 10
        · have HD := (show Hid (cnt10 s (k + 1) = cnt10 s k + 1) from (HC.out.trans (if_pos h10)))
          have e10 : ((s[k].toNat : Int) == 10) = true := beq_iff_eq.2 (by rw [← chr_in hks]; exact h10)
          clear HC h10
          go_wp2
          go_round
          case rel => exact ⟨k + 1, by omega, by rw [HD.out]; go_num, by go_num⟩
          case measure => simp [intOf]; omega
        · have HD := (show Hid (cnt10 s (k + 1) = cnt10 s k) from (HC.out.trans (if_neg h10)))
          have e10 : ((s[k].toNat : Int) == 10) = false := beq_eq_false_iff_ne.2 (by rw [← chr_in hks]; exact h10)
          clear HC h10
          go_wp2
          go_round
          case rel => exact ⟨k + 1, by omega, by rw [HD.out], by go_num⟩
          case measure => simp [intOf]; omega
      · obtain rfl : k = s.size := by omega
        go_wp2
        go_ret2
        exact ⟨by rw [HE.out]; rfl, rfl⟩

set_option maxRecDepth 100000 in
set_option maxHeartbeats 2000000 in
theorem lineR_any (s : ByteArray) (n : Int) (w : World) :
    Calls Try.prog 23 #[.string s, .int .i64 n] w fun e w' => e = .returned (lineV s n) ∧ w' = w := by
  by_cases h : 65536 < s.size
  · have HE := (show Hid (lineV s n = .tuple #[.string ⟨#[]⟩, .int .i64 2]) from (by show _ = _; unfold lineV; rw [if_pos h]))
    have hI : (65536 : Int) < (s.size : Int) := by omega
    clear h
    go_enter Try.func23, Try.ntmps23
    go_wp2
    go_ret2
    exact ⟨by rw [HE.out]; rfl, rfl⟩
  · have hI : ¬ (65536 : Int) < (s.size : Int) := by omega
    have HB : Hid (∀ w, Calls Try.prog 35 #[.string s, .int .i64 n] w fun e w' => e = .returned (bgV (begins s n)) ∧ w' = w) := fun w => begins_any s n (by omega) w
    have HE := (show Hid (lineV s n = lineN s (begins s n)) from (by show _ = _; unfold lineV; rw [if_neg h]))
    cases hb : begins s n with
    | none =>
      rw [hb] at HB HE
      dsimp only [bgV] at HB
      clear hb
      go_enter Try.func23, Try.ntmps23
      go_wp2_with fail
      refine (HB.out _).mono ?_
      rintro e w1 ⟨rfl, rfl⟩
      go_wp2
      go_ret2
      exact ⟨by rw [HE.out]; rfl, rfl⟩
    | some p =>
      obtain ⟨f, t⟩ := p
      obtain ⟨b1, b2, b3⟩ := begins_bd hb
      have z0 : (0 : Int) ≤ (f : Int) := by omega
      have z1 : (f : Int) ≤ (t : Int) := by omega
      have z2 : (t : Int) ≤ (s.size : Int) := by omega
      rw [hb] at HB HE
      dsimp only [bgV] at HB
      clear hb b3
      go_enter Try.func23, Try.ntmps23
      go_wp2_with fail
      refine (HB.out _).mono ?_
      rintro e w1 ⟨rfl, rfl⟩
      go_wp2
      go_ret2
      exact ⟨by rw [HE.out]; rfl, rfl⟩

theorem lines_some (s : ByteArray) : ∃ L E, linesV s = .tuple #[.int .i64 L, .int .i64 E] := by
  unfold linesV; split
  · exact ⟨_, _, rfl⟩
  · exact ⟨_, _, rfl⟩
theorem line_some (s : ByteArray) (n : Int) : ∃ L E, lineV s n = .tuple #[.string L, .int .i64 E] := by
  unfold lineV; split
  · exact ⟨_, _, rfl⟩
  · cases begins s n with
    | none => exact ⟨_, _, rfl⟩
    | some p => obtain ⟨f, t⟩ := p; exact ⟨_, _, rfl⟩

set_option maxRecDepth 100000 in
set_option maxHeartbeats 4000000 in
theorem lawLines_any (s : ByteArray) (n : Int) (w : World) :
    Calls Try.prog 6 #[.string s, .int .i64 n] w fun e w' => e = .returned (.bool true) ∧ Below w.heap.size w w' := by
  obtain ⟨L, E, hl⟩ := lines_some s
  obtain ⟨S, F, hn⟩ := line_some s n
  have H1 : Hid (∀ w, Calls Try.prog 20 #[.string s] w fun e w' => e = .returned (.tuple #[.int .i64 L, .int .i64 E]) ∧ w' = w) := fun w => by rw [← hl]; exact lines_any s w
  have H2 : Hid (∀ w, Calls Try.prog 21 #[.string s] w fun e w' => e = .returned (.tuple #[.int .i64 L, .int .i64 E]) ∧ w' = w) := fun w => by rw [← hl]; exact linesR_any s w
  have H3 : Hid (∀ w, Calls Try.prog 22 #[.string s, .int .i64 n] w fun e w' => e = .returned (.tuple #[.string S, .int .i64 F]) ∧ Below w.heap.size w w') := fun w => by rw [← hn]; exact line_any s n w
  have H4 : Hid (∀ w, Calls Try.prog 23 #[.string s, .int .i64 n] w fun e w' => e = .returned (.tuple #[.string S, .int .i64 F]) ∧ w' = w) := fun w => by rw [← hn]; exact lineR_any s n w
  clear hl hn
  go_enter Try.func6, Try.ntmps6
  go_wp2_with fail
  refine (H1.out _).mono ?_
  rintro e w1 ⟨rfl, rfl⟩
  go_wp2_with fail
  refine (H2.out _).mono ?_
  rintro e w1 ⟨rfl, rfl⟩
  go_wp2_with fail
  refine (H3.out _).mono ?_
  rintro e w2 ⟨rfl, hb2⟩
  go_wp2_with fail
  refine (H4.out _).mono ?_
  rintro e w3 ⟨rfl, rfl⟩
  go_wp2_with fail
  refine (lives_any _).mono ?_
  rintro e w4 ⟨rfl, hb4⟩
  have HB := (show Hid _ from hb2.trans (hb4.mono hb2.size))
  clear hb2 hb4
  go_wp2_with fail
  go_ret
  exact ⟨rfl, HB.out⟩
end Go.Proofs.Ytafnjidackofpaa
