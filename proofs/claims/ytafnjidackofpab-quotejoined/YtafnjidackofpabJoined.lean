/- DERIVED. The law QuoteJoined, walked. -/
import Derived.Test.YtafnjidackofpabPlL
import Derived.Test.YtafnjidackofpabLiB
import Derived.Test.YtafnjidackofpabRdC
import Derived.Test.YtafnjidackofpabDrB
import Derived.Lib.Builder
namespace Go.Proofs.Ytafnjidackofpab
open Go.RowKit

/-- The first lines, joined. -/
def St (u : ByteArray) (i : Nat) (l : List Int) : Prop := (i = 1 ∧ l = []) ∨ (2 ≤ i ∧ ∃ f t, begins u ((i - 1 : Nat) : Int) = some (f, t) ∧ l = (byl u).take t)
theorem line_some {u : ByteArray} {n : Nat} {f t : Nat} (hu : u.size ≤ 3000) (h : begins u (n : Int) = some (f, t)) (w : World) :
    Calls Try.prog 9 #[.string u, .int .i64 n] w fun e w' => e = .returned (.tuple #[.string (u.extract f t), .int .i64 0]) ∧ Below w.heap.size w w' := by
  have h2 := line_any u n w
  rw [show lineV u (n : Int) = .tuple #[.string (u.extract f t), .int .i64 0] from by unfold lineV; rw [if_neg (by omega), h]; rfl] at h2
  exact h2
theorem line_none {u : ByteArray} {n : Nat} (hu : u.size ≤ 3000) (h : begins u (n : Int) = none) (w : World) :
    Calls Try.prog 9 #[.string u, .int .i64 n] w fun e w' => e = .returned (.tuple #[.string ⟨#[]⟩, .int .i64 1]) ∧ Below w.heap.size w w' := by
  have h2 := line_any u n w
  rw [show lineV u (n : Int) = .tuple #[.string ⟨#[]⟩, .int .i64 1] from by unfold lineV; rw [if_neg (by omega), h]; rfl] at h2
  exact h2
theorem lines_num {u : ByteArray} (hu : u.size ≤ 3000) (w : World) :
    Calls Try.prog 8 #[.string u] w fun e w' => e = .returned (.tuple #[.int .i64 ((cnt10 u u.size + 1 : Nat) : Int), .int .i64 0]) ∧ w' = w := by
  have h2 := lines_any u w
  rw [show linesV u = .tuple #[.int .i64 ((cnt10 u u.size + 1 : Nat) : Int), .int .i64 0] from by unfold linesV; rw [if_neg (by omega)]] at h2
  exact h2
theorem take_len (u : ByteArray) (t : Nat) : ((byl u).take t).length ≤ u.size := by rw [List.length_take, byl_len]; omega

set_option maxRecDepth 100000 in
set_option maxHeartbeats 8000000 in
theorem joined_any (s : ByteArray) (w : World) :
    Calls Try.prog 4 #[.string s] w fun e w' => e = .returned (.bool true) ∧ Below w.heap.size w w' := by
  obtain ⟨i0, hinf, hz0, hz1, hz2⟩ := info_parts Try.info5
  obtain ⟨u, hu, hcase⟩ : ∃ u : ByteArray, u.size ≤ 3000 ∧ ((¬ (3000 : Int) < (s.size : Int) ∧ u = s) ∨ ((3000 : Int) < (s.size : Int) ∧ s.extract 0 3000 = u)) := by
    by_cases h : 3000 < s.size
    · exact ⟨s.extract 0 3000, by rw [ext_size _ _ _ (by omega)]; omega, .inr ⟨by omega, rfl⟩⟩
    · exact ⟨s, by omega, .inl ⟨by omega, rfl⟩⟩
  have HL := (show Hid _ from (lines_num hu))
  have hN := cnt10_le u u.size
  generalize hNN : cnt10 u u.size + 1 = N at HL
  have HN := (show Hid _ from hNN)
  have hN1 : N ≤ u.size + 1 := by omega
  have hN0 : 1 ≤ N := by omega
  clear hNN hN
  have t1 : decide ((N : Int) < 1) = false := decide_eq_false (by omega)
  have t2 : decide ((u.size : Int) + 1 < (N : Int)) = false := decide_eq_false (by omega)
  have t3 : decide (u.size + 1 < N) = false := decide_eq_false (by omega)
  rcases hcase with ⟨hI, hE⟩ | ⟨hI, hE⟩
  · subst hE
    have t0 : decide ((3000 : Int) < (u.size : Int)) = false := decide_eq_false hI
    go_enter Try.func4, Try.ntmps4
    go_wp2_with fail
    refine (HL.out _).mono ?_
    rintro e w1 ⟨rfl, rfl⟩
    go_wp2_with fail
    refine (lives_any _).mono ?_
    rintro e w2 ⟨rfl, hb2⟩
    have HB := (show Hid _ from hb2.alloc hb2.size (.cells #[] 5))
    have hsz := hb2.size
    clear hb2 HL
    go_wp2_with fail
    go_loopw [5, 6] (fun v t wr => ∃ i : Nat, ∃ l : List Int, (1 ≤ i ∧ i ≤ N + 1) ∧ l.length ≤ u.size ∧ t = .int .i64 i ∧ Hid (St u i l) ∧ Hid (wr.ownsRow w2.heap.size 5 1 v l.length (l.map (Value.int .u8)) ∧ Below w1.heap.size w1 wr ∧ w2.heap.size < wr.heap.size)) (fun _ t _ => N + 1 - (intOf t).toNat)
    case atStart => exact ⟨1, [], by omega, by simp, rfl, .inl ⟨rfl, rfl⟩, own_empty w2, HB.out, by simp⟩
    case round =>
      obtain ⟨i, l, ⟨hi1, hi2⟩, hl, rfl, HS, HI⟩ := hrel
      clear HB
      by_cases hiN : i ≤ N
      · have hiI : (i : Int) ≤ (N : Int) := by omega
        by_cases h1 : i = 1
        · subst h1
          have HLn := (show Hid _ from (line_some hu (begins_one u)))
          have HE1 := (show Hid (St u 2 (l ++ byl (u.extract 0 (lnE u 0))) ∧ (l ++ byl (u.extract 0 (lnE u 0))).length ≤ u.size) from (by
            rcases HS.out with ⟨_, rfl⟩ | ⟨h2, _⟩
            · have e : [] ++ byl (u.extract 0 (lnE u 0)) = (byl u).take (lnE u 0) := by rw [take_line u (Nat.zero_le (lnE u 0))]; rfl
              rw [e]
              exact ⟨.inr ⟨by omega, 0, lnE u 0, begins_one u, rfl⟩, take_len u _⟩
            · omega))
          have hSz : (u.extract 0 (lnE u 0)).size ≤ u.size := by rw [ByteArray.size_extract]; omega
          clear HS
          generalize u.extract 0 (lnE u 0) = S at *
          go_wp2_with fail
          refine (HLn.out _).mono ?_
          rintro e w3 ⟨rfl, hb3⟩
          have HJ := (show Hid _ from (⟨own_below HI.out.1 hb3, HI.out.2.1.trans (hb3.mono HI.out.2.1.size), Nat.lt_of_lt_of_le HI.out.2.2 hb3.size⟩ : w3.ownsRow w2.heap.size 5 1 u5 l.length (l.map (Value.int .u8)) ∧ Below w1.heap.size w1 w3 ∧ w2.heap.size < w3.heap.size))
          clear hb3 HI HLn
          have hsw3 := HJ.out.2.2
          go_wp2_with (at_builtin; refine Lib.wpList_append_own_string _ rfl _ _ 30 9 rfl w2.heap.size 5 i0 Try.underlying30 Try.underlying9 hinf hz0 hz1 hz2 _ _ _ rfl HJ.out.1 S rfl ?d3 ?d4 ?d5 ?_)
          case d3 => unfold maxLen; first | omega | (simp; omega)
          case d4 => first | omega | (simp; omega)
          case d5 => first | omega | (simp; omega)
          intro v2 w5 hown2 hgrow2 _
          have hle2 := fun j e => (HJ.out.1.lt j e).1
          have HM := (show Hid (w5.ownsRow w2.heap.size 5 1 v2 (l ++ byl S).length ((l ++ byl S).map (Value.int .u8)) ∧ Below w1.heap.size w1 w5 ∧ w2.heap.size < w5.heap.size) from (by
            refine ⟨?_, HJ.out.2.1.grown hgrow2 (by have := HJ.out.2.1.size; omega) (fun j e => by have := hle2 j e; omega), ?_⟩
            · rw [List.length_append, List.map_append, byl_len, ← str_byl]; simpa using hown2
            · have := hgrow2.size; have := HJ.out.2.2; omega))
          clear hown2 hgrow2 hle2 HJ
          go_wp2
          go_roundw
          case rel => exact ⟨2, l ++ byl S, by omega, HE1.out.2, by go_num, HE1.out.1, HM⟩
          case measure => simp [intOf]; omega
        · have h1I : (1 : Int) < (i : Int) := by omega
          obtain ⟨f, t, hb, hlt⟩ : ∃ f t, begins u ((i - 1 : Nat) : Int) = some (f, t) ∧ l = (byl u).take t := by
            rcases HS.out with ⟨h2, _⟩ | ⟨_, h2⟩
            · exact absurd h2 h1
            · exact h2
          obtain ⟨b1, b2, b3⟩ := begins_bd hb
          have hts : t < u.size := by
            by_cases q : t < u.size
            · exact q
            · have := (begins_last hb).2 q; have := HN.out; omega
          have hnx := begins_next (by omega) hb
          rw [if_pos hts, show i - 1 + 1 = i from by omega] at hnx
          have HLn := (show Hid _ from (line_some hu hnx))
          have hge := lnE_ge (s := u) (p := t + 1) (by omega)
          have HE1 := (show Hid (St u (i + 1) ((l ++ [10]) ++ byl (u.extract (t + 1) (lnE u (t + 1)))) ∧ ((l ++ [10]) ++ byl (u.extract (t + 1) (lnE u (t + 1)))).length ≤ u.size ∧ (l ++ [10]).length ≤ u.size) from (by
            have e1 : l ++ [10] = (byl u).take (t + 1) := by rw [hlt, take_ten hts (by omega) b3]
            have e2 : (l ++ [10]) ++ byl (u.extract (t + 1) (lnE u (t + 1))) = (byl u).take (lnE u (t + 1)) := by rw [e1, take_line u hge]
            rw [e2, e1]
            exact ⟨.inr ⟨by omega, t + 1, lnE u (t + 1), by rw [show i + 1 - 1 = i from by omega]; exact hnx, rfl⟩, take_len u _, take_len u _⟩))
          have hSz : (u.extract (t + 1) (lnE u (t + 1))).size ≤ u.size := by rw [ByteArray.size_extract]; omega
          have hl10 : (l ++ [10]).length ≤ u.size := HE1.out.2.2
          rw [List.length_append, List.length_singleton] at hl10
          clear HS hb hlt b1 b2 b3 hts hnx hge h1
          generalize u.extract (t + 1) (lnE u (t + 1)) = S at *
          go_wp2_with fail
          refine (HLn.out _).mono ?_
          rintro e w3 ⟨rfl, hb3⟩
          have HJ := (show Hid _ from (⟨own_below HI.out.1 hb3, HI.out.2.1.trans (hb3.mono HI.out.2.1.size), Nat.lt_of_lt_of_le HI.out.2.2 hb3.size⟩ : w3.ownsRow w2.heap.size 5 1 u5 l.length (l.map (Value.int .u8)) ∧ Below w1.heap.size w1 w3 ∧ w2.heap.size < w3.heap.size))
          clear hb3 HI HLn
          have hsw3 := HJ.out.2.2
          go_wp2_with (at_builtin; refine wpList_append_own _ rfl _ _ 30 rfl w2.heap.size 5 i0 (.int .u8 0) 1 1 Try.underlying30 hinf hz0 hz1 hz2 rfl (by decide) _ _ _ rfl (HJ.out.1.alloc _) ⟨w3.heap.size, 0, none⟩ 1 1 [.int .u8 10] rfl rfl (cell_one_new _ _ _) ?c2 ?c3 ?c4 ?c5 ?_)
          case c2 => first | rfl | (intro x hx; simp at hx; subst hx; rfl)
          case c3 => unfold maxLen; omega
          case c4 => omega
          case c5 => first | omega | (simp; omega)
          intro v' w4 hown' hgrow _
          have hle := fun j e => (HJ.out.1.lt j e).1
          have HK := (show Hid (w4.ownsRow w2.heap.size 5 1 v' (l ++ [10]).length ((l ++ [10]).map (Value.int .u8)) ∧ Below w1.heap.size w1 w4 ∧ w2.heap.size < w4.heap.size) from (by
            refine ⟨?_, (HJ.out.2.1.alloc HJ.out.2.1.size (.cells #[.int .u8 10] 5)).grown hgrow (by have := HJ.out.2.1.size; simp; omega) (fun j e => by have := hle j e; omega), ?_⟩
            · rw [List.length_append, List.map_append]; exact hown'
            · have := hgrow.size; simp at this; have := HJ.out.2.2; omega))
          clear hown' hgrow hle HJ
          have hsw4 := HK.out.2.2
          go_wp2_with (at_builtin; refine Lib.wpList_append_own_string _ rfl _ _ 30 9 rfl w2.heap.size 5 i0 Try.underlying30 Try.underlying9 hinf hz0 hz1 hz2 _ _ _ rfl HK.out.1 S rfl ?d3 ?d4 ?d5 ?_)
          case d3 => unfold maxLen; first | omega | (simp; omega)
          case d4 => first | omega | (simp; omega)
          case d5 => first | omega | (simp; omega)
          intro v2 w5 hown2 hgrow2 _
          have hle2 := fun j e => (HK.out.1.lt j e).1
          have HM := (show Hid (w5.ownsRow w2.heap.size 5 1 v2 ((l ++ [10]) ++ byl S).length (((l ++ [10]) ++ byl S).map (Value.int .u8)) ∧ Below w1.heap.size w1 w5 ∧ w2.heap.size < w5.heap.size) from (by
            refine ⟨?_, HK.out.2.1.grown hgrow2 (by have := HK.out.2.1.size; omega) (fun j e => by have := hle2 j e; omega), ?_⟩
            · rw [List.length_append, List.map_append, byl_len, ← str_byl]; simpa using hown2
            · have := hgrow2.size; have := HK.out.2.2; omega))
          clear hown2 hgrow2 hle2 HK
          go_wp2
          go_roundw
          case rel => exact ⟨i + 1, (l ++ [10]) ++ byl S, by omega, HE1.out.2.1, by go_num, HE1.out.1, HM⟩
          case measure => simp [intOf]; omega
      · have hiI : ¬ (i : Int) ≤ (N : Int) := by omega
        obtain rfl : i = N + 1 := by omega
        obtain ⟨f, t, hb, hlt⟩ : ∃ f t, begins u ((N : Nat) : Int) = some (f, t) ∧ l = (byl u).take t := by
          rcases HS.out with ⟨h2, _⟩ | ⟨_, h2⟩
          · omega
          · exact h2
        obtain ⟨b1, b2, b3⟩ := begins_bd hb
        have hts : ¬ t < u.size := fun q => by have := (begins_last hb).1 q; have := HN.out; omega
        have hnx := begins_next hN0 hb
        rw [if_neg hts] at hnx
        have HLn : Hid (∀ w, Calls Try.prog 9 #[.string u, .int .i64 ((N : Int) + 1)] w fun e w' => e = .returned (.tuple #[.string ⟨#[]⟩, .int .i64 1]) ∧ Below w.heap.size w w') := fun w => line_none hu hnx w
        have hall : l = byl u := by rw [hlt, show t = u.size from by omega, byl_all]
        subst hall
        clear HS hb hlt b1 b2 b3 hts hnx
        go_wp2_with fail
        refine (HLn.out _).mono ?_
        rintro e w3 ⟨rfl, hb3⟩
        have ht := text_own (own_below HI.out.1 hb3)
        rw [asText_byl] at ht
        have HB3 := (show Hid _ from HI.out.2.1.trans (hb3.mono HI.out.2.1.size))
        clear hb3 HI HLn
        go_wp2
        go_ret
        exact ⟨rfl, HB3.out⟩
  · have HE := (show Hid _ from hE)
    have t0 : decide ((3000 : Int) < (s.size : Int)) = true := decide_eq_true hI
    have t4 : (3000 : Int) ≤ (s.size : Int) := by omega
    clear hE
    go_enter Try.func4, Try.ntmps4
    go_wp2_with fail
    rw [HE.out]
    refine (HL.out _).mono ?_
    rintro e w1 ⟨rfl, rfl⟩
    go_wp2_with fail
    refine (lives_any _).mono ?_
    rintro e w2 ⟨rfl, hb2⟩
    have HB := (show Hid _ from hb2.alloc hb2.size (.cells #[] 5))
    have hsz := hb2.size
    clear hb2 HL
    go_wp2_with fail
    go_loopw [5, 6] (fun v t wr => ∃ i : Nat, ∃ l : List Int, (1 ≤ i ∧ i ≤ N + 1) ∧ l.length ≤ u.size ∧ t = .int .i64 i ∧ Hid (St u i l) ∧ Hid (wr.ownsRow w2.heap.size 5 1 v l.length (l.map (Value.int .u8)) ∧ Below w1.heap.size w1 wr ∧ w2.heap.size < wr.heap.size)) (fun _ t _ => N + 1 - (intOf t).toNat)
    case atStart => exact ⟨1, [], by omega, by simp, rfl, .inl ⟨rfl, rfl⟩, own_empty w2, HB.out, by simp⟩
    case round =>
      obtain ⟨i, l, ⟨hi1, hi2⟩, hl, rfl, HS, HI⟩ := hrel
      clear HB
      by_cases hiN : i ≤ N
      · have hiI : (i : Int) ≤ (N : Int) := by omega
        by_cases h1 : i = 1
        · subst h1
          have HLn := (show Hid _ from (line_some hu (begins_one u)))
          have HE1 := (show Hid (St u 2 (l ++ byl (u.extract 0 (lnE u 0))) ∧ (l ++ byl (u.extract 0 (lnE u 0))).length ≤ u.size) from (by
            rcases HS.out with ⟨_, rfl⟩ | ⟨h2, _⟩
            · have e : [] ++ byl (u.extract 0 (lnE u 0)) = (byl u).take (lnE u 0) := by rw [take_line u (Nat.zero_le (lnE u 0))]; rfl
              rw [e]
              exact ⟨.inr ⟨by omega, 0, lnE u 0, begins_one u, rfl⟩, take_len u _⟩
            · omega))
          have hSz : (u.extract 0 (lnE u 0)).size ≤ u.size := by rw [ByteArray.size_extract]; omega
          clear HS
          generalize u.extract 0 (lnE u 0) = S at *
          go_wp2_with fail
          refine (HLn.out _).mono ?_
          rintro e w3 ⟨rfl, hb3⟩
          have HJ := (show Hid _ from (⟨own_below HI.out.1 hb3, HI.out.2.1.trans (hb3.mono HI.out.2.1.size), Nat.lt_of_lt_of_le HI.out.2.2 hb3.size⟩ : w3.ownsRow w2.heap.size 5 1 u5 l.length (l.map (Value.int .u8)) ∧ Below w1.heap.size w1 w3 ∧ w2.heap.size < w3.heap.size))
          clear hb3 HI HLn
          have hsw3 := HJ.out.2.2
          go_wp2_with (at_builtin; refine Lib.wpList_append_own_string _ rfl _ _ 30 9 rfl w2.heap.size 5 i0 Try.underlying30 Try.underlying9 hinf hz0 hz1 hz2 _ _ _ rfl HJ.out.1 S rfl ?d3 ?d4 ?d5 ?_)
          case d3 => unfold maxLen; first | omega | (simp; omega)
          case d4 => first | omega | (simp; omega)
          case d5 => first | omega | (simp; omega)
          intro v2 w5 hown2 hgrow2 _
          have hle2 := fun j e => (HJ.out.1.lt j e).1
          have HM := (show Hid (w5.ownsRow w2.heap.size 5 1 v2 (l ++ byl S).length ((l ++ byl S).map (Value.int .u8)) ∧ Below w1.heap.size w1 w5 ∧ w2.heap.size < w5.heap.size) from (by
            refine ⟨?_, HJ.out.2.1.grown hgrow2 (by have := HJ.out.2.1.size; omega) (fun j e => by have := hle2 j e; omega), ?_⟩
            · rw [List.length_append, List.map_append, byl_len, ← str_byl]; simpa using hown2
            · have := hgrow2.size; have := HJ.out.2.2; omega))
          clear hown2 hgrow2 hle2 HJ
          go_wp2
          go_roundw
          case rel => exact ⟨2, l ++ byl S, by omega, HE1.out.2, by go_num, HE1.out.1, HM⟩
          case measure => simp [intOf]; omega
        · have h1I : (1 : Int) < (i : Int) := by omega
          obtain ⟨f, t, hb, hlt⟩ : ∃ f t, begins u ((i - 1 : Nat) : Int) = some (f, t) ∧ l = (byl u).take t := by
            rcases HS.out with ⟨h2, _⟩ | ⟨_, h2⟩
            · exact absurd h2 h1
            · exact h2
          obtain ⟨b1, b2, b3⟩ := begins_bd hb
          have hts : t < u.size := by
            by_cases q : t < u.size
            · exact q
            · have := (begins_last hb).2 q; have := HN.out; omega
          have hnx := begins_next (by omega) hb
          rw [if_pos hts, show i - 1 + 1 = i from by omega] at hnx
          have HLn := (show Hid _ from (line_some hu hnx))
          have hge := lnE_ge (s := u) (p := t + 1) (by omega)
          have HE1 := (show Hid (St u (i + 1) ((l ++ [10]) ++ byl (u.extract (t + 1) (lnE u (t + 1)))) ∧ ((l ++ [10]) ++ byl (u.extract (t + 1) (lnE u (t + 1)))).length ≤ u.size ∧ (l ++ [10]).length ≤ u.size) from (by
            have e1 : l ++ [10] = (byl u).take (t + 1) := by rw [hlt, take_ten hts (by omega) b3]
            have e2 : (l ++ [10]) ++ byl (u.extract (t + 1) (lnE u (t + 1))) = (byl u).take (lnE u (t + 1)) := by rw [e1, take_line u hge]
            rw [e2, e1]
            exact ⟨.inr ⟨by omega, t + 1, lnE u (t + 1), by rw [show i + 1 - 1 = i from by omega]; exact hnx, rfl⟩, take_len u _, take_len u _⟩))
          have hSz : (u.extract (t + 1) (lnE u (t + 1))).size ≤ u.size := by rw [ByteArray.size_extract]; omega
          have hl10 : (l ++ [10]).length ≤ u.size := HE1.out.2.2
          rw [List.length_append, List.length_singleton] at hl10
          clear HS hb hlt b1 b2 b3 hts hnx hge h1
          generalize u.extract (t + 1) (lnE u (t + 1)) = S at *
          go_wp2_with fail
          refine (HLn.out _).mono ?_
          rintro e w3 ⟨rfl, hb3⟩
          have HJ := (show Hid _ from (⟨own_below HI.out.1 hb3, HI.out.2.1.trans (hb3.mono HI.out.2.1.size), Nat.lt_of_lt_of_le HI.out.2.2 hb3.size⟩ : w3.ownsRow w2.heap.size 5 1 u5 l.length (l.map (Value.int .u8)) ∧ Below w1.heap.size w1 w3 ∧ w2.heap.size < w3.heap.size))
          clear hb3 HI HLn
          have hsw3 := HJ.out.2.2
          go_wp2_with (at_builtin; refine wpList_append_own _ rfl _ _ 30 rfl w2.heap.size 5 i0 (.int .u8 0) 1 1 Try.underlying30 hinf hz0 hz1 hz2 rfl (by decide) _ _ _ rfl (HJ.out.1.alloc _) ⟨w3.heap.size, 0, none⟩ 1 1 [.int .u8 10] rfl rfl (cell_one_new _ _ _) ?c2 ?c3 ?c4 ?c5 ?_)
          case c2 => first | rfl | (intro x hx; simp at hx; subst hx; rfl)
          case c3 => unfold maxLen; omega
          case c4 => omega
          case c5 => first | omega | (simp; omega)
          intro v' w4 hown' hgrow _
          have hle := fun j e => (HJ.out.1.lt j e).1
          have HK := (show Hid (w4.ownsRow w2.heap.size 5 1 v' (l ++ [10]).length ((l ++ [10]).map (Value.int .u8)) ∧ Below w1.heap.size w1 w4 ∧ w2.heap.size < w4.heap.size) from (by
            refine ⟨?_, (HJ.out.2.1.alloc HJ.out.2.1.size (.cells #[.int .u8 10] 5)).grown hgrow (by have := HJ.out.2.1.size; simp; omega) (fun j e => by have := hle j e; omega), ?_⟩
            · rw [List.length_append, List.map_append]; exact hown'
            · have := hgrow.size; simp at this; have := HJ.out.2.2; omega))
          clear hown' hgrow hle HJ
          have hsw4 := HK.out.2.2
          go_wp2_with (at_builtin; refine Lib.wpList_append_own_string _ rfl _ _ 30 9 rfl w2.heap.size 5 i0 Try.underlying30 Try.underlying9 hinf hz0 hz1 hz2 _ _ _ rfl HK.out.1 S rfl ?d3 ?d4 ?d5 ?_)
          case d3 => unfold maxLen; first | omega | (simp; omega)
          case d4 => first | omega | (simp; omega)
          case d5 => first | omega | (simp; omega)
          intro v2 w5 hown2 hgrow2 _
          have hle2 := fun j e => (HK.out.1.lt j e).1
          have HM := (show Hid (w5.ownsRow w2.heap.size 5 1 v2 ((l ++ [10]) ++ byl S).length (((l ++ [10]) ++ byl S).map (Value.int .u8)) ∧ Below w1.heap.size w1 w5 ∧ w2.heap.size < w5.heap.size) from (by
            refine ⟨?_, HK.out.2.1.grown hgrow2 (by have := HK.out.2.1.size; omega) (fun j e => by have := hle2 j e; omega), ?_⟩
            · rw [List.length_append, List.map_append, byl_len, ← str_byl]; simpa using hown2
            · have := hgrow2.size; have := HK.out.2.2; omega))
          clear hown2 hgrow2 hle2 HK
          go_wp2
          go_roundw
          case rel => exact ⟨i + 1, (l ++ [10]) ++ byl S, by omega, HE1.out.2.1, by go_num, HE1.out.1, HM⟩
          case measure => simp [intOf]; omega
      · have hiI : ¬ (i : Int) ≤ (N : Int) := by omega
        obtain rfl : i = N + 1 := by omega
        obtain ⟨f, t, hb, hlt⟩ : ∃ f t, begins u ((N : Nat) : Int) = some (f, t) ∧ l = (byl u).take t := by
          rcases HS.out with ⟨h2, _⟩ | ⟨_, h2⟩
          · omega
          · exact h2
        obtain ⟨b1, b2, b3⟩ := begins_bd hb
        have hts : ¬ t < u.size := fun q => by have := (begins_last hb).1 q; have := HN.out; omega
        have hnx := begins_next hN0 hb
        rw [if_neg hts] at hnx
        have HLn : Hid (∀ w, Calls Try.prog 9 #[.string u, .int .i64 ((N : Int) + 1)] w fun e w' => e = .returned (.tuple #[.string ⟨#[]⟩, .int .i64 1]) ∧ Below w.heap.size w w') := fun w => line_none hu hnx w
        have hall : l = byl u := by rw [hlt, show t = u.size from by omega, byl_all]
        subst hall
        clear HS hb hlt b1 b2 b3 hts hnx
        go_wp2_with fail
        refine (HLn.out _).mono ?_
        rintro e w3 ⟨rfl, hb3⟩
        have ht := text_own (own_below HI.out.1 hb3)
        rw [asText_byl] at ht
        have HB3 := (show Hid _ from HI.out.2.1.trans (hb3.mono HI.out.2.1.size))
        clear hb3 HI HLn
        go_wp2
        go_ret
        exact ⟨rfl, HB3.out⟩
end Go.Proofs.Ytafnjidackofpab
