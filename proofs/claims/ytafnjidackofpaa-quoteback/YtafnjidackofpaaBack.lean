/- DERIVED. The law QuoteBack, walked. -/
import Derived.Test.YtafnjidackofpaaPlD
import Derived.Test.YtafnjidackofpaaWrB
namespace Go.Proofs.Ytafnjidackofpaa
open Go.RowKit

set_option maxRecDepth 100000 in
set_option maxHeartbeats 4000000 in
theorem back_any (s : ByteArray) (w : World) :
    Calls Try.prog 7 #[.string s] w fun e w' => e = .returned (.bool true) ∧ Below w.heap.size w w' := by
  have heq := eq28w
  by_cases h : 65536 < s.size ∨ 65536 < (qT s).length
  · have H1 : Hid (∀ w, Calls Try.prog 9 #[.string s] w fun e w' => e = .returned (.tuple #[.string ⟨#[]⟩, .int .i64 2]) ∧ Below w.heap.size w w') := fun w => by rw [← quV_long h]; exact quote_any s w
    have hl := qT_len s
    have hs : (10000 : Int) < (s.size : Int) := by omega
    clear h hl
    go_enter Try.func7, Try.ntmps7
    go_wp2_with fail
    refine (H1.out _).mono ?_
    rintro e w1 ⟨rfl, hb1⟩
    go_wp2_with fail
    refine (lives_any _).mono ?_
    rintro e w2 ⟨rfl, hb2⟩
    have HB := (show Hid _ from (hb1.trans (hb2.mono hb1.size)))
    clear hb1 hb2
    go_wp2_with fail
    go_ret
    exact ⟨rfl, HB.out⟩
  · have H1 : Hid (∀ w, Calls Try.prog 9 #[.string s] w fun e w' => e = .returned (.tuple #[.string (asText (qT s)), .int .i64 0]) ∧ Below w.heap.size w w') := fun w => by rw [← quV_fits h]; exact quote_any s w
    have H2 : Hid (∀ w, Calls Try.prog 14 #[.string (asText (qT s))] w fun e w' => e = .returned (.tuple #[.string s, .agg #[.int .i64 0, .int .i64 0]]) ∧ Below w.heap.size w w') := fun w => by
      have h2 := unquote_any (asText (qT s)) w
      rw [unq_reads s (by omega)] at h2
      dsimp only [unV] at h2
      rw [asText_byl] at h2
      exact h2
    have HP := (show Hid _ from text_prn s)
    have hsz : (asText (qT s)).size ≤ 65536 := by rw [asText_size]; omega
    clear h
    generalize asText (qT s) = T at *
    go_enter Try.func7, Try.ntmps7
    go_wp2_with fail
    refine (H1.out _).mono ?_
    rintro e w1 ⟨rfl, hb1⟩
    go_wp2_with fail
    go_loopw [5] (fun t wr => ∃ k : Nat, k ≤ T.size ∧ t = .int .i64 k ∧ wr = w1) (fun t _ => T.size - (intOf t).toNat)
    case atStart => exact ⟨0, by omega, rfl, rfl⟩
    case round =>
      obtain ⟨k, hk, rfl, rfl⟩ := hrel
      by_cases hlt : k < T.size
      · obtain ⟨p1, p2⟩ := HP.out k hlt
        have p3 : ¬ (T[k].toNat : Int) < 32 := by omega
        have p4 : ¬ 126 < (T[k].toNat : Int) := by omega
        go_wp2
        go_roundw
        case rel => exact ⟨k + 1, by omega, by go_num, trivial⟩
        case measure => simp [intOf]; omega
      · go_wp2_with fail
        refine (H2.out _).mono ?_
        rintro e w2 ⟨rfl, hb2⟩
        have F1 := (show Hid _ from FHolds.new w2 0 0)
        have B1 := (show Hid _ from (hb1.trans (hb2.mono hb1.size)).alloc (hb1.trans (hb2.mono hb1.size)).size (.cells #[.int .i64 0, .int .i64 0] 28))
        clear hb1 hb2
        go_wp2_with fail
        refine (lives_any _).mono ?_
        rintro e w3 ⟨rfl, hb3⟩
        have F2 := (show Hid _ from F1.out.below hb3 F1.out.lt)
        have B2 := (show Hid _ from B1.out.trans (hb3.mono B1.out.size))
        clear hb3 F1 B1
        obtain ⟨_, a0, a1, _, _⟩ := F2.out
        go_wp2_with fail
        go_ret
        exact ⟨rfl, B2.out⟩
end Go.Proofs.Ytafnjidackofpaa
