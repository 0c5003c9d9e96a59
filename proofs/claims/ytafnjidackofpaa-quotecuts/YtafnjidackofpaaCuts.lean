/- DERIVED. The law QuoteCuts, walked. -/
import Derived.Test.YtafnjidackofpaaPlB
namespace Go.Proofs.Ytafnjidackofpaa
open Go.RowKit

set_option maxRecDepth 100000 in
set_option maxHeartbeats 4000000 in
theorem cuts_any (s : ByteArray) (i : Int) (w : World) :
    Calls Try.prog 8 #[.string s, .int .i64 i] w fun e w' => e = .returned (.bool true) ∧ Below w.heap.size w w' := by
  have heq := eq28w
  have H1 : Hid (∀ w, Calls Try.prog 12 #[.string s, .int .i64 i] w fun e w' => e = .returned (cuV (rdCut s i)) ∧ Below w.heap.size w w') := fun w => cut_any s i w
  cases hR : rdCut s i with
  | inr pq =>
    obtain ⟨a, c⟩ := pq
    have hc : (c != 0) = true := bne_iff_ne.2 (rdCut_code hR)
    rw [hR] at H1
    dsimp only [cuV] at H1
    clear hR
    go_enter Try.func8, Try.ntmps8
    go_wp2_with fail
    refine (H1.out _).mono ?_
    rintro e w1 ⟨rfl, hb1⟩
    have F1 := (show Hid _ from FHolds.new w1 a c)
    have B1 := (show Hid _ from hb1.alloc hb1.size (.cells #[.int .i64 a, .int .i64 c] 28))
    clear hb1 H1
    obtain ⟨_, a0, a1, _, _⟩ := F1.out
    go_wp2_with fail
    refine (lives_any _).mono ?_
    rintro e w2 ⟨rfl, hb2⟩
    go_wp2_with fail
    go_ret
    exact ⟨rfl, B1.out.trans (hb2.mono B1.out.size)⟩
  | inl p =>
    obtain ⟨l, e⟩ := p
    obtain ⟨b0, b1, b2, b3⟩ := rdCut_bd hR
    obtain ⟨n, rfl⟩ := Int.eq_ofNat_of_zero_le b0
    have hn2 : n + 2 ≤ e := by omega
    have HU : Hid (∀ w, Calls Try.prog 14 #[.string (s.extract n e)] w fun e w' => e = .returned (.tuple #[.string (asText l), .agg #[.int .i64 0, .int .i64 0]]) ∧ Below w.heap.size w w') := fun w => by
      have h := unquote_any (s.extract n e) w
      rw [rdUnq_sub hR] at h
      exact h
    have HV : Hid (∀ w, Calls Try.prog 12 #[.string (s.extract 0 e), .int .i64 n] w fun e' w' => e' = .returned (.tuple #[.string (asText l), .int .i64 e, .agg #[.int .i64 0, .int .i64 0]]) ∧ Below w.heap.size w w') := fun w => by
      have h := cut_any (s.extract 0 e) n w
      have h2 := rdCut_sub hR (Nat.zero_le n)
      rw [Nat.sub_zero, Nat.sub_zero] at h2
      rw [h2] at h
      exact h
    rw [hR] at H1
    dsimp only [cuV] at H1
    clear hR
    generalize asText l = S at *
    have hs0 : ¬ (n : Int) < 0 := by omega
    have hs3 : (0 : Int) ≤ (n : Int) := by omega
    have hs4 : (n : Int) ≤ (e : Int) := by omega
    have hs5 : (e : Int) ≤ (s.size : Int) := by omega
    have hs6 : (0 : Int) ≤ (e : Int) := by omega
    have hs7 : n ≤ e := by omega
    have hs1 : ¬ (e : Int) < (n : Int) + 2 := by omega
    have hs2 : ¬ (s.size : Int) < (e : Int) := by omega
    go_enter Try.func8, Try.ntmps8
    go_wp2_with fail
    refine (H1.out _).mono ?_
    rintro e w1 ⟨rfl, hb1⟩
    have F1 := (show Hid _ from FHolds.new w1 0 0)
    have B1 := (show Hid _ from hb1.alloc hb1.size (.cells #[.int .i64 0, .int .i64 0] 28))
    clear hb1 H1
    obtain ⟨_, a0, a1, _, _⟩ := F1.out
    go_wp2_with fail
    refine (HU.out _).mono ?_
    rintro e w2 ⟨rfl, hb2⟩
    have F12 := (show Hid _ from (F1.out.below hb2 F1.out.lt).alloc (.cells #[.int .i64 0, .int .i64 0] 28))
    have F2 := (show Hid _ from FHolds.new w2 0 0)
    have B2 := (show Hid _ from (B1.out.trans (hb2.mono B1.out.size)).alloc (B1.out.trans (hb2.mono B1.out.size)).size (.cells #[.int .i64 0, .int .i64 0] 28))
    clear hb2 HU F1 B1 a0 a1
    go_wp2_with fail
    refine (HV.out _).mono ?_
    rintro e w3 ⟨rfl, hb3⟩
    have F13 := (show Hid _ from (F12.out.below hb3 F12.out.lt).alloc (.cells #[.int .i64 0, .int .i64 0] 28))
    have F23 := (show Hid _ from (F2.out.below hb3 F2.out.lt).alloc (.cells #[.int .i64 0, .int .i64 0] 28))
    have F3 := (show Hid _ from FHolds.new w3 0 0)
    have B3 := (show Hid _ from (B2.out.trans (hb3.mono B2.out.size)).alloc (B2.out.trans (hb3.mono B2.out.size)).size (.cells #[.int .i64 0, .int .i64 0] 28))
    clear hb3 HV F12 F2 B2
    go_wp2_with fail
    refine (lives_any _).mono ?_
    rintro e w4 ⟨rfl, hb4⟩
    have F24 := (show Hid _ from F23.out.below hb4 F23.out.lt)
    have F34 := (show Hid _ from F3.out.below hb4 F3.out.lt)
    have B4 := (show Hid _ from B3.out.trans (hb4.mono B3.out.size))
    clear hb4 F13 F23 F3 B3
    obtain ⟨_, a0, a1, _, _⟩ := F24.out
    obtain ⟨_, c0, c1, _, _⟩ := F34.out
    go_wp2_with fail
    go_ret
    exact ⟨rfl, B4.out⟩
end Go.Proofs.Ytafnjidackofpaa
