/- DERIVED. Walks: the law RunesCleans. -/
import Derived.Test.YtiillgahnbimjaaDoorTxA
import Derived.Test.YtiillgahnbimjaaDoorPlH
namespace Go.Proofs.YtiillgahnbimjaaDoor
open Go.RowKit

theorem pt_cases (s : ByteArray) : ptT s = ([], 0, 2) ∨ (∃ p : Nat, ptT s = ([], (p : Int), 6) ∧ vld s = false) ∨ ∃ l, ptT s = (l, 0, 0) ∧ vld s = true ∧ l.length ≤ 65536 ∧ (l.length ≤ 4000 → fpV l = .tuple #[.string s, .int .i64 0]) := by
  have hlen := ptT_len s
  unfold ptT at *
  by_cases h : 65536 < s.size
  · left; rw [if_pos h]
  · rw [if_neg h] at *
    right
    cases hp : pts s with
    | inr p => exact .inl ⟨p, rfl, vld_inr hp⟩
    | inl l =>
      rw [hp] at hlen
      refine .inr ⟨l, rfl, vld_inl hp, hlen, fun h4 => ?_⟩
      obtain ⟨h1, h2, _⟩ := pts_back hp
      unfold fpV
      rw [if_neg (by omega), if_pos (okL_iff.2 h1), h2]

set_option maxRecDepth 100000 in
set_option maxHeartbeats 8000000 in
theorem cleans_long (s : ByteArray) (hs : s.size ≤ 1048576) (w : World) (hv : VB w) (hp : ptT s = ([], 0, 2)) : Calls Tryd.prog 7 #[.string s] w fun e w' => e = .returned (.bool true) ∧ Below w.heap.size w w' := by
  have H1 : Hid (Calls Tryd.prog 17 #[] w fun e w' => e = .returned (.bool true) ∧ Below w.heap.size w w') := works_any w hv
  have H2 : Hid (∀ w, Calls Tryd.prog 14 #[.string s] w fun e w' => e = .returned (.string (asText (cln s))) ∧ Below w.heap.size w w') := fun w => clean_any s (by omega) w
  have H3 : Hid (∀ w, Calls Tryd.prog 12 #[.string (asText (cln s))] w fun e w' => e = .returned (.bool true) ∧ Below w.heap.size w w') := fun w => by
    have e := valid_any (asText (cln s)) w
    rwa [cln_vld] at e
  have H4 : Hid (∀ w, Calls Tryd.prog 14 #[.string (asText (cln s))] w fun e w' => e = .returned (.string (asText (cln s))) ∧ Below w.heap.size w w') := fun w => by
    have e := clean_any (asText (cln s)) (by have := cln_len s; rw [asText_size]; omega) w
    rwa [cln_twice] at e
  have H5 : Hid (∀ w, Calls Tryd.prog 12 #[.string s] w fun e w' => e = .returned (.bool (vld s)) ∧ Below w.heap.size w w') := fun w => valid_any s w
  have H6 : Hid (∀ w, Calls Tryd.prog 9 #[.string s] w fun e w' => (∃ v, e = .returned (.tuple #[v, .agg #[.int .i64 (ptT s).2.1, .int .i64 (ptT s).2.2]]) ∧ w'.ownsRow w.heap.size 3 1 v (ptT s).1.length (inc (ptT s).1)) ∧ Below w.heap.size w w') := fun w => (points_any s w).mono fun e w' ⟨h1, h2⟩ => ⟨h1.get, h2⟩
  have em := cln_same s
  rw [hp] at H6
  dsimp only at H6
  clear hv hs hp
  generalize vld s = vb at *
  generalize asText (cln s) = X at *
  go_enter Tryd.func7, Tryd.ntmps7
  go_wp2_with fail
  refine H1.out.mono ?_
  rintro e w1 ⟨rfl, hb1⟩
  have HB1 := (show Hid _ from hb1)
  clear hb1 H1
  go_wp2_with fail
  refine (H2.out _).mono ?_
  rintro e w2 ⟨rfl, hb2⟩
  have HB2 := (show Hid (Below w.heap.size w w2) from HB1.out.trans (hb2.mono HB1.out.size))
  clear hb2 HB1 H2
  go_wp2_with fail
  refine (H3.out _).mono ?_
  rintro e w3 ⟨rfl, hb3⟩
  have HB3 := (show Hid (Below w.heap.size w w3) from HB2.out.trans (hb3.mono HB2.out.size))
  clear hb3 HB2 H3
  go_wp2_with fail
  refine (H4.out _).mono ?_
  rintro e w4 ⟨rfl, hb4⟩
  have HB4 := (show Hid (Below w.heap.size w w4) from HB3.out.trans (hb4.mono HB3.out.size))
  clear hb4 HB3 H4
  go_wp2_with fail
  refine (H5.out _).mono ?_
  rintro e w5 ⟨rfl, hb5⟩
  have HB5 := (show Hid (Below w.heap.size w w5) from HB4.out.trans (hb5.mono HB4.out.size))
  clear hb5 HB4
  go_wp2_with fail
  refine (H6.out _).mono ?_
  rintro e w6 ⟨⟨v, rfl, hown⟩, hb6⟩
  have HB6 := (show Hid (Below w.heap.size w w6) from HB5.out.trans (hb6.mono HB5.out.size))
  clear HB5 hb6 H6
  obtain ⟨A2, c2, rfl, _⟩ := own_rd hown rfl
  clear hown
  dsimp only [List.length_nil]
  have HB7 := (show Hid (Below w.heap.size w (w6.alloc (.cells #[.int .i64 0, .int .i64 2] 26))) from HB6.out.alloc HB6.out.size _)
  clear HB6
  go_wp2
  go_ret
  exact ⟨rfl, HB7.out⟩

set_option maxRecDepth 100000 in
set_option maxHeartbeats 8000000 in
theorem cleans_bad (s : ByteArray) (hs : s.size ≤ 1048576) (w : World) (hv : VB w) (p : Nat) (hp : ptT s = ([], (p : Int), 6)) (hvl : vld s = false) : Calls Tryd.prog 7 #[.string s] w fun e w' => e = .returned (.bool true) ∧ Below w.heap.size w w' := by
  have H1 : Hid (Calls Tryd.prog 17 #[] w fun e w' => e = .returned (.bool true) ∧ Below w.heap.size w w') := works_any w hv
  have H2 : Hid (∀ w, Calls Tryd.prog 14 #[.string s] w fun e w' => e = .returned (.string (asText (cln s))) ∧ Below w.heap.size w w') := fun w => clean_any s (by omega) w
  have H3 : Hid (∀ w, Calls Tryd.prog 12 #[.string (asText (cln s))] w fun e w' => e = .returned (.bool true) ∧ Below w.heap.size w w') := fun w => by
    have e := valid_any (asText (cln s)) w
    rwa [cln_vld] at e
  have H4 : Hid (∀ w, Calls Tryd.prog 14 #[.string (asText (cln s))] w fun e w' => e = .returned (.string (asText (cln s))) ∧ Below w.heap.size w w') := fun w => by
    have e := clean_any (asText (cln s)) (by have := cln_len s; rw [asText_size]; omega) w
    rwa [cln_twice] at e
  have H5 : Hid (∀ w, Calls Tryd.prog 12 #[.string s] w fun e w' => e = .returned (.bool (vld s)) ∧ Below w.heap.size w w') := fun w => valid_any s w
  have H6 : Hid (∀ w, Calls Tryd.prog 9 #[.string s] w fun e w' => (∃ v, e = .returned (.tuple #[v, .agg #[.int .i64 (ptT s).2.1, .int .i64 (ptT s).2.2]]) ∧ w'.ownsRow w.heap.size 3 1 v (ptT s).1.length (inc (ptT s).1)) ∧ Below w.heap.size w w') := fun w => (points_any s w).mono fun e w' ⟨h1, h2⟩ => ⟨h1.get, h2⟩
  have em := cln_same s
  rw [hp] at H6
  rw [hvl] at H5 em
  dsimp only at H6
  clear hv hs hp hvl
  generalize asText (cln s) = X at *
  go_enter Tryd.func7, Tryd.ntmps7
  go_wp2_with fail
  refine H1.out.mono ?_
  rintro e w1 ⟨rfl, hb1⟩
  have HB1 := (show Hid _ from hb1)
  clear hb1 H1
  go_wp2_with fail
  refine (H2.out _).mono ?_
  rintro e w2 ⟨rfl, hb2⟩
  have HB2 := (show Hid (Below w.heap.size w w2) from HB1.out.trans (hb2.mono HB1.out.size))
  clear hb2 HB1 H2
  go_wp2_with fail
  refine (H3.out _).mono ?_
  rintro e w3 ⟨rfl, hb3⟩
  have HB3 := (show Hid (Below w.heap.size w w3) from HB2.out.trans (hb3.mono HB2.out.size))
  clear hb3 HB2 H3
  go_wp2_with fail
  refine (H4.out _).mono ?_
  rintro e w4 ⟨rfl, hb4⟩
  have HB4 := (show Hid (Below w.heap.size w w4) from HB3.out.trans (hb4.mono HB3.out.size))
  clear hb4 HB3 H4
  go_wp2_with fail
  refine (H5.out _).mono ?_
  rintro e w5 ⟨rfl, hb5⟩
  have HB5 := (show Hid (Below w.heap.size w w5) from HB4.out.trans (hb5.mono HB4.out.size))
  clear hb5 HB4
  go_wp2_with fail
  refine (H6.out _).mono ?_
  rintro e w6 ⟨⟨v, rfl, hown⟩, hb6⟩
  have HB6 := (show Hid (Below w.heap.size w w6) from HB5.out.trans (hb6.mono HB5.out.size))
  clear HB5 hb6 H6
  obtain ⟨A2, c2, rfl, _⟩ := own_rd hown rfl
  clear hown
  dsimp only [List.length_nil]
  have HB7 := (show Hid (Below w.heap.size w (w6.alloc (.cells #[.int .i64 (p : Int), .int .i64 6] 26))) from HB6.out.alloc HB6.out.size _)
  clear HB6
  go_wp2_with fail
  refine (H5.out _).mono ?_
  rintro e w8 ⟨rfl, hb8⟩
  have HB8 := (show Hid (Below w.heap.size w w8) from HB7.out.trans (hb8.mono HB7.out.size))
  clear HB7 hb8
  go_wp2
  go_ret
  exact ⟨rfl, HB8.out⟩

set_option maxRecDepth 100000 in
set_option maxHeartbeats 8000000 in
theorem cleans_many (s : ByteArray) (hs : s.size ≤ 1048576) (w : World) (hv : VB w) (l : List Int) (hp : ptT s = (l, 0, 0)) (hvl : vld s = true) (h4 : 4000 < l.length) : Calls Tryd.prog 7 #[.string s] w fun e w' => e = .returned (.bool true) ∧ Below w.heap.size w w' := by
  have H1 : Hid (Calls Tryd.prog 17 #[] w fun e w' => e = .returned (.bool true) ∧ Below w.heap.size w w') := works_any w hv
  have H2 : Hid (∀ w, Calls Tryd.prog 14 #[.string s] w fun e w' => e = .returned (.string (asText (cln s))) ∧ Below w.heap.size w w') := fun w => clean_any s (by omega) w
  have H3 : Hid (∀ w, Calls Tryd.prog 12 #[.string (asText (cln s))] w fun e w' => e = .returned (.bool true) ∧ Below w.heap.size w w') := fun w => by
    have e := valid_any (asText (cln s)) w
    rwa [cln_vld] at e
  have H4 : Hid (∀ w, Calls Tryd.prog 14 #[.string (asText (cln s))] w fun e w' => e = .returned (.string (asText (cln s))) ∧ Below w.heap.size w w') := fun w => by
    have e := clean_any (asText (cln s)) (by have := cln_len s; rw [asText_size]; omega) w
    rwa [cln_twice] at e
  have H5 : Hid (∀ w, Calls Tryd.prog 12 #[.string s] w fun e w' => e = .returned (.bool (vld s)) ∧ Below w.heap.size w w') := fun w => valid_any s w
  have H6 : Hid (∀ w, Calls Tryd.prog 9 #[.string s] w fun e w' => (∃ v, e = .returned (.tuple #[v, .agg #[.int .i64 (ptT s).2.1, .int .i64 (ptT s).2.2]]) ∧ w'.ownsRow w.heap.size 3 1 v (ptT s).1.length (inc (ptT s).1)) ∧ Below w.heap.size w w') := fun w => (points_any s w).mono fun e w' ⟨h1, h2⟩ => ⟨h1.get, h2⟩
  have em := cln_same s
  rw [hp] at H6
  rw [hvl] at H5 em
  dsimp only at H6
  have z4 : (4000 : Int) < (l.length : Int) := by omega
  clear hv hs hp hvl
  generalize asText (cln s) = X at *
  go_enter Tryd.func7, Tryd.ntmps7
  go_wp2_with fail
  refine H1.out.mono ?_
  rintro e w1 ⟨rfl, hb1⟩
  have HB1 := (show Hid _ from hb1)
  clear hb1 H1
  go_wp2_with fail
  refine (H2.out _).mono ?_
  rintro e w2 ⟨rfl, hb2⟩
  have HB2 := (show Hid (Below w.heap.size w w2) from HB1.out.trans (hb2.mono HB1.out.size))
  clear hb2 HB1 H2
  go_wp2_with fail
  refine (H3.out _).mono ?_
  rintro e w3 ⟨rfl, hb3⟩
  have HB3 := (show Hid (Below w.heap.size w w3) from HB2.out.trans (hb3.mono HB2.out.size))
  clear hb3 HB2 H3
  go_wp2_with fail
  refine (H4.out _).mono ?_
  rintro e w4 ⟨rfl, hb4⟩
  have HB4 := (show Hid (Below w.heap.size w w4) from HB3.out.trans (hb4.mono HB3.out.size))
  clear hb4 HB3 H4
  go_wp2_with fail
  refine (H5.out _).mono ?_
  rintro e w5 ⟨rfl, hb5⟩
  have HB5 := (show Hid (Below w.heap.size w w5) from HB4.out.trans (hb5.mono HB4.out.size))
  clear hb5 HB4
  go_wp2_with fail
  refine (H6.out _).mono ?_
  rintro e w6 ⟨⟨v, rfl, hown⟩, hb6⟩
  have HB6 := (show Hid (Below w.heap.size w w6) from HB5.out.trans (hb6.mono HB5.out.size))
  clear HB5 hb6 H6
  obtain ⟨A2, c2, rfl, _⟩ := own_rd hown rfl
  have HB7 := (show Hid (Below w.heap.size w (w6.alloc (.cells #[.int .i64 0, .int .i64 0] 26))) from HB6.out.alloc HB6.out.size _)
  clear HB6 hown h4
  generalize l.length = m at *
  go_wp2_with fail
  refine (H5.out _).mono ?_
  rintro e w8 ⟨rfl, hb8⟩
  have HB8 := (show Hid (Below w.heap.size w w8) from HB7.out.trans (hb8.mono HB7.out.size))
  clear HB7 hb8
  go_wp2
  go_ret
  exact ⟨rfl, HB8.out⟩

set_option maxRecDepth 100000 in
set_option maxHeartbeats 8000000 in
theorem cleans_few (s : ByteArray) (hs : s.size ≤ 1048576) (w : World) (hv : VB w) (l : List Int) (hp : ptT s = (l, 0, 0)) (hvl : vld s = true) (h4 : l.length ≤ 4000) (hE : fpV l = .tuple #[.string s, .int .i64 0]) : Calls Tryd.prog 7 #[.string s] w fun e w' => e = .returned (.bool true) ∧ Below w.heap.size w w' := by
  have H1 : Hid (Calls Tryd.prog 17 #[] w fun e w' => e = .returned (.bool true) ∧ Below w.heap.size w w') := works_any w hv
  have H2 : Hid (∀ w, Calls Tryd.prog 14 #[.string s] w fun e w' => e = .returned (.string (asText (cln s))) ∧ Below w.heap.size w w') := fun w => clean_any s (by omega) w
  have H3 : Hid (∀ w, Calls Tryd.prog 12 #[.string (asText (cln s))] w fun e w' => e = .returned (.bool true) ∧ Below w.heap.size w w') := fun w => by
    have e := valid_any (asText (cln s)) w
    rwa [cln_vld] at e
  have H4 : Hid (∀ w, Calls Tryd.prog 14 #[.string (asText (cln s))] w fun e w' => e = .returned (.string (asText (cln s))) ∧ Below w.heap.size w w') := fun w => by
    have e := clean_any (asText (cln s)) (by have := cln_len s; rw [asText_size]; omega) w
    rwa [cln_twice] at e
  have H5 : Hid (∀ w, Calls Tryd.prog 12 #[.string s] w fun e w' => e = .returned (.bool (vld s)) ∧ Below w.heap.size w w') := fun w => valid_any s w
  have H6 : Hid (∀ w, Calls Tryd.prog 9 #[.string s] w fun e w' => (∃ v, e = .returned (.tuple #[v, .agg #[.int .i64 (ptT s).2.1, .int .i64 (ptT s).2.2]]) ∧ w'.ownsRow w.heap.size 3 1 v (ptT s).1.length (inc (ptT s).1)) ∧ Below w.heap.size w w') := fun w => (points_any s w).mono fun e w' ⟨h1, h2⟩ => ⟨h1.get, h2⟩
  have em := cln_same s
  rw [hp] at H6
  rw [hvl] at H5 em
  dsimp only at H6
  have z4 : ¬ (4000 : Int) < (l.length : Int) := by omega
  have HE := (show Hid _ from hE)
  clear hv hs hp hvl hE
  generalize asText (cln s) = X at *
  go_enter Tryd.func7, Tryd.ntmps7
  go_wp2_with fail
  refine H1.out.mono ?_
  rintro e w1 ⟨rfl, hb1⟩
  have HB1 := (show Hid _ from hb1)
  clear hb1 H1
  go_wp2_with fail
  refine (H2.out _).mono ?_
  rintro e w2 ⟨rfl, hb2⟩
  have HB2 := (show Hid (Below w.heap.size w w2) from HB1.out.trans (hb2.mono HB1.out.size))
  clear hb2 HB1 H2
  go_wp2_with fail
  refine (H3.out _).mono ?_
  rintro e w3 ⟨rfl, hb3⟩
  have HB3 := (show Hid (Below w.heap.size w w3) from HB2.out.trans (hb3.mono HB2.out.size))
  clear hb3 HB2 H3
  go_wp2_with fail
  refine (H4.out _).mono ?_
  rintro e w4 ⟨rfl, hb4⟩
  have HB4 := (show Hid (Below w.heap.size w w4) from HB3.out.trans (hb4.mono HB3.out.size))
  clear hb4 HB3 H4
  go_wp2_with fail
  refine (H5.out _).mono ?_
  rintro e w5 ⟨rfl, hb5⟩
  have HB5 := (show Hid (Below w.heap.size w w5) from HB4.out.trans (hb5.mono HB4.out.size))
  clear hb5 HB4
  go_wp2_with fail
  refine (H6.out _).mono ?_
  rintro e w6 ⟨⟨v, rfl, hown⟩, hb6⟩
  have HB6 := (show Hid (Below w.heap.size w w6) from HB5.out.trans (hb6.mono HB5.out.size))
  clear HB5 hb6 H6
  obtain ⟨A2, c2, rfl, hr⟩ := own_rd hown rfl
  have k67 := ((Below.refl w6.heap.size w6).alloc (Nat.le_refl _) (.cells #[.int .i64 0, .int .i64 0] 26))
  have HB7 := (show Hid (Below w.heap.size w (w6.alloc (.cells #[.int .i64 0, .int .i64 0] 26))) from HB6.out.alloc HB6.out.size _)
  have H7 : Hid (Calls Tryd.prog 19 #[.slice A2 l.length c2] (w6.alloc (.cells #[.int .i64 0, .int .i64 0] 26)) fun e w' => e = .returned (.tuple #[.string s, .int .i64 0]) ∧ Below (w6.alloc (.cells #[.int .i64 0, .int .i64 0] 26)).heap.size (w6.alloc (.cells #[.int .i64 0, .int .i64 0] 26)) w') := by
    have e := fromPoints_any A2 c2 l _ (hr.below k67)
    rw [HE.out] at e
    exact e
  clear HB6 hown h4 hr k67 HE
  generalize l.length = m at *
  go_wp2_with fail
  refine H7.out.mono ?_
  rintro e w8 ⟨rfl, hb8⟩
  have HB8 := (show Hid (Below w.heap.size w w8) from HB7.out.trans (hb8.mono HB7.out.size))
  clear HB7 hb8 H7
  go_wp2
  go_ret
  exact ⟨rfl, HB8.out⟩

theorem cleans_any (s : ByteArray) (hs : s.size ≤ 1048576) (w : World) (hv : VB w) : Calls Tryd.prog 7 #[.string s] w fun e w' => e = .returned (.bool true) ∧ Below w.heap.size w w' := by
  rcases pt_cases s with h | ⟨p, h1, h2⟩ | ⟨l, h1, h2, h3, h4⟩
  · exact cleans_long s hs w hv h
  · exact cleans_bad s hs w hv p h1 h2
  · by_cases q : l.length ≤ 4000
    · exact cleans_few s hs w hv l h1 h2 q (h4 q)
    · exact cleans_many s hs w hv l h1 h2 (by omega)
end Go.Proofs.YtiillgahnbimjaaDoor
