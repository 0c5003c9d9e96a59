/- DERIVED. Walks: the law RunesCodes. -/
import Derived.Test.YtiillgahnbimjaaRcC
import Derived.Test.YtiillgahnbimjaaRcD
namespace Go.Proofs.Ytiillgahnbimjaa
open Go.RowKit

theorem enV_cases (n : Int) : ∃ x c, enV n = .tuple #[.string x, .int .i64 c] := by
  by_cases h : cp n
  · exact ⟨_, _, enV_t h⟩
  · exact ⟨_, _, enV_f h⟩
theorem deV_cases (o : Option (Int × Nat)) : ∃ a b c, deV o = .tuple #[.int .i64 a, .int .i64 b, .bool c] := by
  cases o with
  | none => exact ⟨_, _, _, rfl⟩
  | some p => exact ⟨_, _, _, rfl⟩

set_option maxRecDepth 100000 in
set_option maxHeartbeats 4000000 in
theorem codes_any (n : Int) (s : ByteArray) (a : Int) (hs : s.size ≤ 140737488355328) (w : World) :
    Calls Try.prog 3 #[.int .i64 n, .string s, .int .i64 a] w fun e w' => e = .returned (.bool true) ∧ Below w.heap.size w w' := by
  have H1 : Hid (∀ w, Calls Try.prog 4 #[] w fun e w' => e = .returned (.bool true) ∧ w' = w) := fun w => names_any w
  have H2 : Hid (∀ w, Calls Try.prog 5 #[.int .i64 n] w fun e w' => e = .returned (enV n) ∧ w' = w) := fun w => encode_any n w
  have H3 : Hid (∀ w, Calls Try.prog 6 #[.int .i64 n] w fun e w' => e = .returned (enV n) ∧ Below w.heap.size w w') := fun w => encodeR_any n w
  have H4 : Hid (∀ w, Calls Try.prog 7 #[.string s, .int .i64 a] w fun e w' => e = .returned (deV (dcI s a)) ∧ Below w.heap.size w w') := fun w => decode_any s a w
  have H5 : Hid (∀ w, Calls Try.prog 8 #[.string s, .int .i64 a] w fun e w' => e = .returned (deV (dcI s a)) ∧ Below w.heap.size w w') := fun w => decodeR_any s a hs w
  obtain ⟨x, c, hE⟩ := enV_cases n
  obtain ⟨r, m, ok, hD⟩ := deV_cases (dcI s a)
  rw [hE] at H2 H3
  rw [hD] at H4 H5
  clear hE hD hs
  go_enter Try.func3, Try.ntmps3
  go_wp2_with fail
  refine (H1.out _).mono ?_
  rintro e w' ⟨rfl, rfl⟩
  go_wp2_with fail
  refine (H2.out _).mono ?_
  rintro e w' ⟨rfl, rfl⟩
  go_wp2_with fail
  refine (H3.out _).mono ?_
  rintro e w1 ⟨rfl, hb1⟩
  go_wp2_with fail
  refine (H4.out _).mono ?_
  rintro e w2 ⟨rfl, hb2⟩
  go_wp2_with fail
  refine (H5.out _).mono ?_
  rintro e w3 ⟨rfl, hb3⟩
  have HB := (show Hid (Below w'.heap.size w' w3) from (hb1.trans (hb2.mono hb1.size)).trans (hb3.mono (Nat.le_trans hb1.size hb2.size)))
  clear hb1 hb2 hb3
  go_wp2
  go_ret
  exact ⟨rfl, HB.out⟩
end Go.Proofs.Ytiillgahnbimjaa
