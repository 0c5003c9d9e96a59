/- DERIVED. The law QuotePlaces, walked. -/
import Derived.Test.YtafnjidackofpaaDpC
namespace Go.Proofs.Ytafnjidackofpaa
open Go.RowKit

/-- The box of the law's argument. -/
structure Box4 (W : World) (b : Nat) (s : ByteArray) (a l c : Int) : Prop where
  lt : b < W.heap.size
  c0 : W.cell? ⟨b, 0, none⟩ = some (.string s)
  c1 : W.cell? ⟨b, 1, none⟩ = some (.int .i64 a)
  c2 : W.cell? ⟨b, 2, none⟩ = some (.int .i64 l)
  c3 : W.cell? ⟨b, 3, none⟩ = some (.int .i64 c)
theorem Box4.new (w : World) (s : ByteArray) (a l c : Int) : Box4 (w.alloc (.cells #[.string s, .int .i64 a, .int .i64 l, .int .i64 c] 35)) w.heap.size s a l c := by
  constructor <;> simp [go_sem]
theorem Box4.below {W W' : World} {b : Nat} {s : ByteArray} {a l c : Int} (h : Box4 W b s a l c) (hb : Below W.heap.size W W') : Box4 W' b s a l c :=
  ⟨Nat.lt_of_lt_of_le h.lt hb.size, (hb.cell (p := ⟨b, 0, none⟩) h.lt).trans h.c0, (hb.cell (p := ⟨b, 1, none⟩) h.lt).trans h.c1, (hb.cell (p := ⟨b, 2, none⟩) h.lt).trans h.c2, (hb.cell (p := ⟨b, 3, none⟩) h.lt).trans h.c3⟩
theorem pl_some (s : ByteArray) (i : Int) : ∃ L C E, placeV s i = .tuple #[.int .i64 L, .int .i64 C, .int .i64 E] := by
  unfold placeV; split
  · exact ⟨_, _, _, rfl⟩
  · exact ⟨_, _, _, rfl⟩
theorem at_some (s : ByteArray) (l c : Int) : ∃ P E, atVV s l c = .tuple #[.int .i64 P, .int .i64 E] := by
  unfold atVV; split
  · exact ⟨_, _, rfl⟩
  · cases atP s l c
    · exact ⟨_, _, rfl⟩
    · exact ⟨_, _, rfl⟩

set_option maxRecDepth 100000 in
set_option maxHeartbeats 4000000 in
theorem places_any (s : ByteArray) (a l c : Int) (w : World) :
    Calls Try.prog 5 #[.agg #[.string s, .int .i64 a, .int .i64 l, .int .i64 c]] w fun e w' => e = .returned (.bool true) ∧ Below w.heap.size w w' := by
  obtain ⟨L, C, E, hp⟩ := pl_some s a
  obtain ⟨P, F, ha⟩ := at_some s l c
  have H1 : Hid (∀ w, Calls Try.prog 16 #[.string s, .int .i64 a] w fun e w' => e = .returned (.tuple #[.int .i64 L, .int .i64 C, .int .i64 E]) ∧ Below w.heap.size w w') := fun w => by rw [← hp]; exact place_any s a w
  have H2 : Hid (∀ w, Calls Try.prog 17 #[.string s, .int .i64 a] w fun e w' => e = .returned (.tuple #[.int .i64 L, .int .i64 C, .int .i64 E]) ∧ w' = w) := fun w => by rw [← hp]; exact placeR_any s a w
  have H3 : Hid (∀ w, Calls Try.prog 18 #[.string s, .int .i64 l, .int .i64 c] w fun e w' => e = .returned (.tuple #[.int .i64 P, .int .i64 F]) ∧ Below w.heap.size w w') := fun w => by rw [← ha]; exact at_any s l c w
  have H4 : Hid (∀ w, Calls Try.prog 19 #[.string s, .int .i64 l, .int .i64 c] w fun e w' => e = .returned (.tuple #[.int .i64 P, .int .i64 F]) ∧ w' = w) := fun w => by rw [← ha]; exact atR_any s l c w
  clear hp ha
  have HX := (show Hid _ from Box4.new w s a l c)
  have HB := (show Hid _ from (Below.refl w.heap.size w).alloc (Nat.le_refl _) (.cells #[.string s, .int .i64 a, .int .i64 l, .int .i64 c] 35))
  go_enter Try.func5, Try.ntmps5
  go_wp2_with fail
  refine (H1.out _).mono ?_
  rintro e w1 ⟨rfl, hb1⟩
  have HX1 := (show Hid _ from HX.out.below hb1)
  have HB1 := (show Hid _ from HB.out.trans (hb1.mono HB.out.size))
  clear hb1 HX HB H1
  obtain ⟨_, c0, c1, c2, c3⟩ := HX1.out
  go_wp2_with fail
  refine (H2.out _).mono ?_
  rintro e w2 ⟨rfl, rfl⟩
  go_wp2_with fail
  refine (H3.out _).mono ?_
  rintro e w3 ⟨rfl, hb3⟩
  have HX3 := (show Hid _ from HX1.out.below hb3)
  have HB3 := (show Hid _ from HB1.out.trans (hb3.mono HB1.out.size))
  clear hb3 HX1 HB1 H3 H2 c0 c1 c2 c3
  obtain ⟨_, c0, c1, c2, c3⟩ := HX3.out
  go_wp2_with fail
  refine (H4.out _).mono ?_
  rintro e w4 ⟨rfl, rfl⟩
  go_wp2_with fail
  refine (lives_any _).mono ?_
  rintro e w5 ⟨rfl, hb5⟩
  have HB5 := (show Hid _ from HB3.out.trans (hb5.mono HB3.out.size))
  clear hb5 HX3 HB3 H4 c0 c1 c2 c3
  go_wp2_with fail
  go_ret
  exact ⟨rfl, HB5.out⟩
end Go.Proofs.Ytafnjidackofpaa
