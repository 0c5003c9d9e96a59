/- DERIVED. Walks: Lines, Line, by the program. -/
import Derived.Test.YtafnjidackofpabLiA
import Derived.Test.YtafnjidackofpabSpC
import Derived.Test.YtafnjidackofpabRdB
import Derived.Test.YtafnjidackofpabPlC
import Derived.Lib.ConvBytes
import Derived.Lib.AtoiErrMem
namespace Go.Proofs.Ytafnjidackofpab
open Go.RowKit

set_option maxRecDepth 100000 in
set_option maxHeartbeats 1000000 in
theorem lines_any (s : ByteArray) (w : World) :
    Calls Try.prog 8 #[.string s] w fun e w' => e = .returned (linesV s) ∧ w' = w := by
  by_cases h : 65536 < s.size
  · have HE := (show Hid (linesV s = .tuple #[.int .i64 0, .int .i64 2]) from (by show _ = _; unfold linesV; rw [if_pos h]))
    have hI : (65536 : Int) < (s.size : Int) := by omega
    clear h
    go_enter Try.func8, Try.ntmps8
    go_wp2
    go_ret2
    exact ⟨by rw [HE.out]; rfl, rfl⟩
  · have HE := (show Hid (linesV s = .tuple #[.int .i64 ((cnt10 s s.size + 1 : Nat) : Int), .int .i64 0]) from (by show _ = _; unfold linesV; rw [if_neg h]))
    have hI : ¬ (65536 : Int) < (s.size : Int) := by omega
    have hle := cnt10_le s s.size
    have HC : Hid (∀ w, Calls Try.prog 13 #[.string s, .string ⟨#[10]⟩] w fun e w' => e = .returned (.int .i64 (cnt10 s s.size : Int)) ∧ w' = w) := fun w => count_any s w
    generalize cnt10 s s.size = c at *
    clear h
    go_enter Try.func8, Try.ntmps8
    go_wp2_with fail
    refine (HC.out _).mono ?_
    rintro e w' ⟨rfl, rfl⟩
    go_wp2
    go_ret2
    exact ⟨by rw [HE.out]; exact congrArg Ending.returned (by go_num), rfl⟩

/-- A text, as new bytes, and as a text again. -/
theorem conv_bytes (s : ByteArray) (w : World) : (convert 9 30 (.string s)).run Try.prog w = .ok (.slice (some ⟨w.heap.size, 0, none⟩) s.size (grownCap w s.size 0 5)) (Lib.bytesWorld w 5 s) :=
  Lib.run_convert_string_bytes w 9 30 5 s Try.underlying9 Try.underlying30 Try.underlying5
theorem conv_again (s : ByteArray) (w : World) (c : Nat) : (convert 30 9 (.slice (some ⟨w.heap.size, 0, none⟩) s.size c)).run Try.prog (Lib.bytesWorld w 5 s) = .ok (.string s) (Lib.bytesWorld w 5 s) := by
  rw [run_convert_bytes_string _ 30 9 5 _ _ _ Try.underlying30 Try.underlying5 Try.underlying9]
  have h := run_bytesToString (P := Try.prog) (Lib.bytesWorld w 5 s) ⟨w.heap.size, 0, none⟩ s.size c (byl s) ?_
  · rw [h]; exact congrArg (fun x => Result.ok (Value.string x) _) (asText_byl s)
  · have h2 := run_loadCells_list (P := Try.prog) (w := Lib.bytesWorld w 5 s) ⟨w.heap.size, 0, none⟩ ((byl s).map (Value.int .u8)) (fun j u hj => by
      rw [List.getElem?_map] at hj
      have hlt : j < s.size := by
        by_cases q : j < s.size
        · exact q
        · rw [List.getElem?_eq_none (by rw [byl_len]; omega)] at hj; cases hj
      rw [byl_get s j hlt] at hj
      cases hj
      have h3 := Lib.bytesWorld_cell w 5 s j hlt
      rw [Addr.add_lit, Nat.zero_add, h3]
      have : s.data.toList.getD j 0 = s[j] := by
        rw [List.getD_eq_getElem?_getD, List.getElem?_eq_getElem (by simpa using hlt)]; rfl
      rw [this])
    rwa [List.length_map, byl_len] at h2

theorem at_first (s : ByteArray) (n : Int) (h : ¬ 65536 < s.size) {f t : Nat} (hb : begins s n = some (f, t)) : atVV s n 1 = .tuple #[.int .i64 (f : Int), .int .i64 0] := by
  have h1 := atP_ref s n 1
  rw [hb] at h1
  dsimp only [raP] at h1
  rw [raF_first s f t (begins_bd hb).1] at h1
  unfold atVV
  rw [if_neg h]
  cases hq : atP s n 1 with
  | none => rw [hq] at h1; cases h1
  | some x => rw [hq] at h1; simp at h1; subst h1; rfl
theorem at_none (s : ByteArray) (n : Int) (h : ¬ 65536 < s.size) (hb : begins s n = none) : atVV s n 1 = .tuple #[.int .i64 0, .int .i64 1] := by
  have h1 := atP_ref s n 1
  rw [hb] at h1
  unfold atVV
  rw [if_neg h]
  cases hq : atP s n 1 with
  | none => rfl
  | some x => rw [hq] at h1; cases h1

set_option maxRecDepth 100000 in
set_option maxHeartbeats 2000000 in
theorem line_any (s : ByteArray) (n : Int) (w : World) :
    Calls Try.prog 9 #[.string s, .int .i64 n] w fun e w' => e = .returned (lineV s n) ∧ Below w.heap.size w w' := by
  by_cases h : 65536 < s.size
  · have HE := (show Hid (lineV s n = .tuple #[.string ⟨#[]⟩, .int .i64 2]) from (by show _ = _; unfold lineV; rw [if_pos h]))
    have HA : Hid (∀ w, Calls Try.prog 7 #[.string s, .int .i64 n, .int .i64 1] w fun e w' => e = .returned (.tuple #[.int .i64 0, .int .i64 2]) ∧ Below w.heap.size w w') := fun w => by
      have h2 := at_any s n 1 w
      rw [show atVV s n 1 = .tuple #[.int .i64 0, .int .i64 2] from by unfold atVV; rw [if_pos h]] at h2
      exact h2
    clear h
    go_enter Try.func9, Try.ntmps9
    go_wp2_with fail
    refine (HA.out _).mono ?_
    rintro e w1 ⟨rfl, hb1⟩
    go_wp2
    go_ret2
    exact ⟨by rw [HE.out]; rfl, hb1⟩
  · cases hb : begins s n with
    | none =>
      have HE := (show Hid (lineV s n = .tuple #[.string ⟨#[]⟩, .int .i64 1]) from (by show _ = _; unfold lineV; rw [if_neg h, hb]; rfl))
      have HA : Hid (∀ w, Calls Try.prog 7 #[.string s, .int .i64 n, .int .i64 1] w fun e w' => e = .returned (.tuple #[.int .i64 0, .int .i64 1]) ∧ Below w.heap.size w w') := fun w => by
        have h2 := at_any s n 1 w
        rw [at_none s n h hb] at h2
        exact h2
      clear h hb
      go_enter Try.func9, Try.ntmps9
      go_wp2_with fail
      refine (HA.out _).mono ?_
      rintro e w1 ⟨rfl, hb1⟩
      go_wp2
      go_ret2
      exact ⟨by rw [HE.out]; rfl, hb1⟩
    | some p =>
      obtain ⟨f, t⟩ := p
      obtain ⟨b1, b2, b3⟩ := begins_bd hb
      have HE := (show Hid (lineV s n = .tuple #[.string (s.extract f t), .int .i64 0]) from (by show _ = _; unfold lineV; rw [if_neg h, hb]; rfl))
      have HA : Hid (∀ w, Calls Try.prog 7 #[.string s, .int .i64 n, .int .i64 1] w fun e w' => e = .returned (.tuple #[.int .i64 (f : Int), .int .i64 0]) ∧ Below w.heap.size w w') := fun w => by
        have h2 := at_any s n 1 w
        rw [at_first s n h hb] at h2
        exact h2
      have HC : Hid (∀ w, Calls Try.prog 14 #[.string (s.extract f s.size), .string ⟨#[10]⟩] w fun e w' => (∃ A b, e = .returned (.tuple #[.string (s.extract f t), .string A, .bool b])) ∧ Below w.heap.size w w') := fun w => by
        have h2 := sCut_any (s.extract f s.size) (by rw [ext_size _ _ _ (Nat.le_refl _)]; omega) w
        rw [cutB_tail (by omega), b3] at h2
        exact h2
      have z0 : (0 : Int) ≤ (f : Int) := by omega
      have z1 : (f : Int) ≤ (s.size : Int) := by omega
      have hc1 := conv_bytes (s.extract f t)
      have hc2 := conv_again (s.extract f t)
      clear h hb b3
      generalize s.extract f t = L at *
      go_enter Try.func9, Try.ntmps9
      go_wp2_with fail
      refine (HA.out _).mono ?_
      rintro e w1 ⟨rfl, hb1⟩
      go_wp2_with fail
      refine (HC.out _).mono ?_
      rintro e w2 ⟨⟨A, b, rfl⟩, hb2⟩
      have HB := (show Hid _ from hb1.trans (hb2.mono hb1.size))
      clear hb1 hb2
      go_wp2
      go_ret2
      exact ⟨by rw [HE.out]; rfl, HB.out.trans ((Lib.bytesWorld_below w2 5 L).mono HB.out.size)⟩
end Go.Proofs.Ytafnjidackofpab
