/- DERIVED. Plain mathematics and walks, laid together (12). -/
import Derived.Test.YtnpifgcgjgddoaaGreatDoorRows
import Derived.WalkKit
import Derived.Maps.AppendAt
import Derived.ProofKit
import Derived.Test.YtnpifgcgjgddoaaGreatDoorPw11
namespace Go.Proofs.YtnpifgcgjgddoaaGreatDoor.Q
open Go.RowKit
/-- What checkPlace answers. -/
def cpE (s : ByteArray) (i : Int) : Int := if 65536 < s.size then 2 else if i < 0 ∨ (s.size : Int) < i then 1 else 0

set_option maxRecDepth 100000 in
set_option maxHeartbeats 1000000 in
theorem checkPlace_any (s : ByteArray) (i : Int) (w : World) :
    Calls Tryz.prog 154 #[.string s, .int .i64 i] w fun e w' => e = .returned (.int .i64 (cpE s i)) ∧ w' = w := by
  by_cases h : 65536 < s.size
  · have HE : Hid (cpE s i = 2) := (by show cpE s i = 2; unfold cpE; rw [if_pos h])
    have h1 : (65536 : Int) < (s.size : Int) := by omega
    go_enter Tryz.func154, Tryz.ntmps154
    go_wp2
    go_ret
    exact ⟨by rw [HE.out]; rfl, rfl⟩
  · have h1 : ¬ (65536 : Int) < (s.size : Int) := by omega
    by_cases h0 : i < 0
    · have HE : Hid (cpE s i = 1) := (by show cpE s i = 1; unfold cpE; rw [if_neg h, if_pos (.inl h0)])
      go_enter Tryz.func154, Tryz.ntmps154
      go_wp2
      go_ret
      exact ⟨by rw [HE.out]; rfl, rfl⟩
    · by_cases h2 : (s.size : Int) < i
      · have HE : Hid (cpE s i = 1) := (by show cpE s i = 1; unfold cpE; rw [if_neg h, if_pos (.inr h2)])
        go_enter Tryz.func154, Tryz.ntmps154
        go_wp2
        go_ret
        exact ⟨by rw [HE.out]; rfl, rfl⟩
      · have HE : Hid (cpE s i = 0) := (by show cpE s i = 0; unfold cpE; rw [if_neg h, if_neg (by omega)])
        go_enter Tryz.func154, Tryz.ntmps154
        go_wp2
        go_ret
        exact ⟨by rw [HE.out]; rfl, rfl⟩

def mkB (c : Int) : Bool := c == 39 || c == 34
set_option maxRecDepth 100000 in
set_option maxHeartbeats 1000000 in
theorem isMark_any (c : Int) (w : World) :
    Calls Tryz.prog 155 #[.int .u8 c] w fun e w' => e = .returned (.bool (mkB c)) ∧ w' = w := by
  by_cases h : c = 39
  · have HE : Hid (mkB c = true) := (by show mkB c = true; unfold mkB; rw [beq_iff_eq.2 h]; rfl)
    have e1 : (c == 39) = true := beq_iff_eq.2 h
    clear h
    go_enter Tryz.func155, Tryz.ntmps155
    go_wp2
    go_ret
    exact ⟨by rw [HE.out]; rfl, rfl⟩
  · have e1 : (c == 39) = false := beq_eq_false_iff_ne.2 h
    have HE : Hid (mkB c = (c == 34)) := (by show mkB c = (c == 34); unfold mkB; rw [e1]; rfl)
    clear h
    go_enter Tryz.func155, Tryz.ntmps155
    go_wp2
    go_ret
    exact ⟨by rw [HE.out]; rfl, rfl⟩

/-- The digits of 16. -/
abbrev digs : ByteArray := ⟨#[48, 49, 50, 51, 52, 53, 54, 55, 56, 57, 97, 98, 99, 100, 101, 102]⟩
theorem idx_hex (c : UInt8) : Lib.indexByte digs.data.toList c = hexV (c.toNat : Int) := by
  have key : ∀ n, n < 256 → Lib.indexByte digs.data.toList (UInt8.ofNat n) = hexV (n : Int) := by decide +kernel
  have := key c.toNat c.toNat_lt
  rw [UInt8.ofNat_toNat] at this
  exact this
theorem index_hex (c : UInt8) (w : World) : Calls Tryz.prog 153 #[.string digs, .int .u8 (c.toNat : Int)] w fun e w' => e = .returned (.int .i64 (hexV (c.toNat : Int))) ∧ w' = w := by
  refine (Tryz.strings_IndexByte digs (c.toNat : Int) w).mono ?_
  rintro e w' ⟨rfl, rfl⟩
  refine ⟨?_, rfl⟩
  rw [← idx_hex]
  simp

theorem ret_es {b b' : Int} {n : Nat} {n' : Int} (hb : b' = b) (hn : n' = n) : Ending.returned (.tuple #[.int .u8 b', .int .i64 n', .int .i64 0]) = .returned (esV (some (b, n))) := by rw [hb, hn]; rfl
theorem ret_by {b b' : Int} {n : Nat} {n' : Int} (hb : b' = b) (hn : n' = n) : Ending.returned (.tuple #[.int .u8 b', .int .i64 n', .int .i64 0]) = .returned (byV (.inl (b, n))) := by rw [hb, hn]; rfl

set_option maxRecDepth 100000 in
set_option maxHeartbeats 1000000 in
theorem readHex_any (s : ByteArray) (i : Nat) (hi : i + 1 < s.size) (hs : s.size ≤ 140737488355328) (w : World) :
    Calls Tryz.prog 207 #[.string s, .int .i64 i] w fun e w' => e = .returned (esV (rdHex s i)) ∧ w' = w := by
  by_cases h : i + 3 < s.size
  · have h2 : i + 2 < s.size := by omega
    have hb1 := hexV_bd (s[i + 2].toNat : Int)
    have hb2 := hexV_bd (s[i + 3].toNat : Int)
    have HE : Hid (rdHex s i = if 0 ≤ hexV (s[i + 2].toNat : Int) ∧ 0 ≤ hexV (s[i + 3].toNat : Int) then some (16 * hexV (s[i + 2].toNat : Int) + hexV (s[i + 3].toNat : Int), i + 4) else none) := (by show rdHex s i = _; unfold rdHex; rw [chr_in h, chr_in h2])
    have HI : Hid (∀ w, Calls Tryz.prog 153 #[.string digs, .int .u8 (s[i + 2].toNat : Int)] w fun e w' => e = .returned (.int .i64 (hexV (s[i + 2].toNat : Int))) ∧ w' = w) := fun w => index_hex _ w
    have HJ : Hid (∀ w, Calls Tryz.prog 153 #[.string digs, .int .u8 (s[i + 3].toNat : Int)] w fun e w' => e = .returned (.int .i64 (hexV (s[i + 3].toNat : Int))) ∧ w' = w) := fun w => index_hex _ w
    go_enter Tryz.func207, Tryz.ntmps207
    go_wp2_with fail
    refine (HI.out _).mono ?_
    rintro e w' ⟨rfl, rfl⟩
    clear HI
    go_wp2_with fail
    refine (HJ.out _).mono ?_
    rintro e w' ⟨rfl, rfl⟩
    clear HJ
    generalize hexV (s[i + 2].toNat : Int) = a at *
    generalize hexV (s[i + 3].toNat : Int) = b at *
    by_cases ha : 0 ≤ a
    · by_cases hb : 0 ≤ b
      · have hw8 : IntKind.u8.wrap (16 * a + b) = 16 * a + b := by rw [IntKind.wrap_u8']; omega
        go_wp2
        go_ret3
        exact ⟨by rw [HE.out, if_pos ⟨ha, hb⟩]; exact ret_es (by omega) (by omega), rfl⟩
      · go_wp2
        go_ret3
        exact ⟨by rw [HE.out, if_neg (fun h => by omega)]; rfl, rfl⟩
    · go_wp2
      go_ret3
      exact ⟨by rw [HE.out, if_neg (fun h => by omega)]; rfl, rfl⟩
  · have h1 : ¬ (i : Int) + 3 < (s.size : Int) := by omega
    have HE : Hid (rdHex s i = none) := (by show rdHex s i = none; unfold rdHex; rw [chr_out h]; rw [if_neg]; rintro ⟨_, h2⟩; simp [hexV] at h2)
    go_enter Tryz.func207, Tryz.ntmps207
    go_wp2
    go_ret3
    exact ⟨by rw [HE.out]; rfl, rfl⟩

set_option maxRecDepth 100000 in
set_option maxHeartbeats 2000000 in
theorem readEsc_any (s : ByteArray) (i : Nat) (hi : i < s.size) (hs : s.size ≤ 140737488355328) (w : World) :
    Calls Tryz.prog 197 #[.string s, .int .i64 i] w fun e w' => e = .returned (esV (rdEsc s i)) ∧ w' = w := by
  by_cases h : i + 1 < s.size
  · have HX : Hid (∀ w, Calls Tryz.prog 207 #[.string s, .int .i64 i] w fun e w' => e = .returned (esV (rdHex s i)) ∧ w' = w) := fun w => readHex_any s i h hs w
    have hb : (0 : Int) ≤ (s[i + 1].toNat : Int) ∧ (s[i + 1].toNat : Int) ≤ 255 := by have := s[i + 1].toNat_lt; omega
    have HE : Hid (rdEsc s i = if (s[i + 1].toNat : Int) = 110 then some (10, i + 2) else if (s[i + 1].toNat : Int) = 114 then some (13, i + 2) else if (s[i + 1].toNat : Int) = 116 then some (9, i + 2) else
  if (s[i + 1].toNat : Int) = 92 ∨ (s[i + 1].toNat : Int) = 39 ∨ (s[i + 1].toNat : Int) = 34 then some ((s[i + 1].toNat : Int), i + 2) else if (s[i + 1].toNat : Int) = 120 then rdHex s i else none) := (by show rdEsc s i = _; unfold rdEsc; rw [chr_in h])
    by_cases h110 : (s[i + 1].toNat : Int) = 110
    · have HF := (show Hid (rdEsc s i = some (10, i + 2)) from (by show rdEsc s i = _; rw [HE.out]; rw [if_pos h110]))
      clear HE HX
      have e110 : ((s[i + 1].toNat : Int) == 110) = true := beq_iff_eq.2 h110
      clear h110
      go_enter Tryz.func197, Tryz.ntmps197
      go_wp2
      go_ret3
      exact ⟨by rw [HF.out]; exact ret_es rfl (by omega), rfl⟩
    have e110 : ((s[i + 1].toNat : Int) == 110) = false := beq_eq_false_iff_ne.2 h110
    by_cases h114 : (s[i + 1].toNat : Int) = 114
    · have HF := (show Hid (rdEsc s i = some (13, i + 2)) from (by show rdEsc s i = _; rw [HE.out]; rw [if_neg h110, if_pos h114]))
      clear HE HX
      have e114 : ((s[i + 1].toNat : Int) == 114) = true := beq_iff_eq.2 h114
      clear h114
      go_enter Tryz.func197, Tryz.ntmps197
      go_wp2
      go_ret3
      exact ⟨by rw [HF.out]; exact ret_es rfl (by omega), rfl⟩
    have e114 : ((s[i + 1].toNat : Int) == 114) = false := beq_eq_false_iff_ne.2 h114
    by_cases h116 : (s[i + 1].toNat : Int) = 116
    · have HF := (show Hid (rdEsc s i = some (9, i + 2)) from (by show rdEsc s i = _; rw [HE.out]; rw [if_neg h110, if_neg h114, if_pos h116]))
      clear HE HX
      have e116 : ((s[i + 1].toNat : Int) == 116) = true := beq_iff_eq.2 h116
      clear h116
      go_enter Tryz.func197, Tryz.ntmps197
      go_wp2
      go_ret3
      exact ⟨by rw [HF.out]; exact ret_es rfl (by omega), rfl⟩
    have e116 : ((s[i + 1].toNat : Int) == 116) = false := beq_eq_false_iff_ne.2 h116
    by_cases hg : (s[i + 1].toNat : Int) = 92 ∨ (s[i + 1].toNat : Int) = 39 ∨ (s[i + 1].toNat : Int) = 34
    · have HF := (show Hid (rdEsc s i = some ((s[i + 1].toNat : Int), i + 2)) from (by show rdEsc s i = _; rw [HE.out]; rw [if_neg h110, if_neg h114, if_neg h116, if_pos hg]))
      clear HE HX h110 h114 h116
      rcases hg with hg | hg | hg
      · have e92 : ((s[i + 1].toNat : Int) == 92) = true := beq_iff_eq.2 hg
        clear hg
        go_enter Tryz.func197, Tryz.ntmps197
        go_wp2
        go_ret3
        exact ⟨by rw [HF.out]; exact ret_es rfl (by omega), rfl⟩
      · have e92 : ((s[i + 1].toNat : Int) == 92) = false := beq_eq_false_iff_ne.2 (by omega)
        have e39 : ((s[i + 1].toNat : Int) == 39) = true := beq_iff_eq.2 hg
        clear hg
        go_enter Tryz.func197, Tryz.ntmps197
        go_wp2
        go_ret3
        exact ⟨by rw [HF.out]; exact ret_es rfl (by omega), rfl⟩
      · have e92 : ((s[i + 1].toNat : Int) == 92) = false := beq_eq_false_iff_ne.2 (by omega)
        have e39 : ((s[i + 1].toNat : Int) == 39) = false := beq_eq_false_iff_ne.2 (by omega)
        have e34 : ((s[i + 1].toNat : Int) == 34) = true := beq_iff_eq.2 hg
        clear hg
        go_enter Tryz.func197, Tryz.ntmps197
        go_wp2
        go_ret3
        exact ⟨by rw [HF.out]; exact ret_es rfl (by omega), rfl⟩
    have e92 : ((s[i + 1].toNat : Int) == 92) = false := beq_eq_false_iff_ne.2 (by omega)
    have e39 : ((s[i + 1].toNat : Int) == 39) = false := beq_eq_false_iff_ne.2 (by omega)
    have e34 : ((s[i + 1].toNat : Int) == 34) = false := beq_eq_false_iff_ne.2 (by omega)
    by_cases h120 : (s[i + 1].toNat : Int) = 120
    · have HF := (show Hid (rdEsc s i = rdHex s i) from (by show rdEsc s i = _; rw [HE.out]; rw [if_neg h110, if_neg h114, if_neg h116, if_neg hg, if_pos h120]))
      have e120 : ((s[i + 1].toNat : Int) == 120) = true := beq_iff_eq.2 h120
      clear HE h110 h114 h116 h120 hg
      go_enter Tryz.func197, Tryz.ntmps197
      go_wp2_with fail
      refine (HX.out _).mono ?_
      rintro e w' ⟨rfl, rfl⟩
      cases hq : rdHex s i with
      | none =>
        rw [hq] at HF
        clear HX hq
        dsimp only [esV]
        go_wp2
        go_ret3
        exact ⟨by rw [HF.out]; rfl, rfl⟩
      | some q =>
        obtain ⟨qb, qn⟩ := q
        rw [hq] at HF
        clear HX hq
        dsimp only [esV]
        go_wp2
        go_ret3
        exact ⟨by rw [HF.out]; rfl, rfl⟩
    have e120 : ((s[i + 1].toNat : Int) == 120) = false := beq_eq_false_iff_ne.2 h120
    have HF := (show Hid (rdEsc s i = none) from (by show rdEsc s i = _; rw [HE.out]; rw [if_neg h110, if_neg h114, if_neg h116, if_neg hg, if_neg h120]))
    clear HE HX h110 h114 h116 h120 hg
    go_enter Tryz.func197, Tryz.ntmps197
    go_wp2
    go_ret3
    exact ⟨by rw [HF.out]; rfl, rfl⟩
  · have HE : Hid (rdEsc s i = none) := (by show rdEsc s i = none; unfold rdEsc; rw [chr_out h]; rfl)
    have h1 : ¬ (i : Int) + 1 < (s.size : Int) := by omega
    go_enter Tryz.func197, Tryz.ntmps197
    go_wp2
    go_ret3
    exact ⟨by rw [HE.out]; rfl, rfl⟩

set_option maxRecDepth 100000 in
set_option maxHeartbeats 2000000 in
theorem readByte_any (s : ByteArray) (i : Nat) (h : i < s.size) (hs : s.size ≤ 140737488355328) (w : World) :
    Calls Tryz.prog 174 #[.string s, .int .i64 i] w fun e w' => e = .returned (byV (rdByte s i)) ∧ w' = w := by
  have HX : Hid (∀ w, Calls Tryz.prog 197 #[.string s, .int .i64 i] w fun e w' => e = .returned (esV (rdEsc s i)) ∧ w' = w) := fun w => readEsc_any s i h hs w
  have hb : (0 : Int) ≤ (s[i].toNat : Int) ∧ (s[i].toNat : Int) ≤ 255 := by have := s[i].toNat_lt; omega
  have HE : Hid (rdByte s i = if (s[i].toNat : Int) = 92 then (match rdEsc s i with | none => .inr (i, 21) | some p => .inl p) else if (s[i].toNat : Int) < 32 ∨ (s[i].toNat : Int) = 127 then .inr (i, 22) else .inl ((s[i].toNat : Int), i + 1)) := (by show rdByte s i = _; unfold rdByte; rw [chr_in h]; rfl)
  by_cases h92 : (s[i].toNat : Int) = 92
  · have e92 : ((s[i].toNat : Int) == 92) = true := beq_iff_eq.2 h92
    have HF := (show Hid (rdByte s i = (match rdEsc s i with | none => .inr (i, 21) | some p => .inl p)) from (by show rdByte s i = _; rw [HE.out, if_pos h92]))
    clear HE h92
    go_enter Tryz.func174, Tryz.ntmps174
    go_wp2_with fail
    refine (HX.out _).mono ?_
    rintro e w' ⟨rfl, rfl⟩
    cases hq : rdEsc s i with
    | none =>
      rw [hq] at HF
      clear HX hq
      dsimp only [esV]
      go_wp2
      go_ret3
      exact ⟨by rw [HF.out]; rfl, rfl⟩
    | some q =>
      obtain ⟨qb, qn⟩ := q
      rw [hq] at HF
      clear HX hq
      dsimp only [esV]
      go_wp2
      go_ret3
      exact ⟨by rw [HF.out]; rfl, rfl⟩
  · have e92 : ((s[i].toNat : Int) == 92) = false := beq_eq_false_iff_ne.2 h92
    clear HX
    by_cases h32 : (s[i].toNat : Int) < 32
    · have HF := (show Hid (rdByte s i = .inr (i, 22)) from (by show rdByte s i = _; rw [HE.out, if_neg h92, if_pos (.inl h32)]))
      clear HE h92
      go_enter Tryz.func174, Tryz.ntmps174
      go_wp2
      go_ret3
      exact ⟨by rw [HF.out]; rfl, rfl⟩
    by_cases h127 : (s[i].toNat : Int) = 127
    · have HF := (show Hid (rdByte s i = .inr (i, 22)) from (by show rdByte s i = _; rw [HE.out, if_neg h92, if_pos (.inr h127)]))
      have e127 : ((s[i].toNat : Int) == 127) = true := beq_iff_eq.2 h127
      clear HE h92 h127
      go_enter Tryz.func174, Tryz.ntmps174
      go_wp2
      go_ret3
      exact ⟨by rw [HF.out]; rfl, rfl⟩
    · have HF := (show Hid (rdByte s i = .inl ((s[i].toNat : Int), i + 1)) from (by show rdByte s i = _; rw [HE.out, if_neg h92, if_neg (by omega)]))
      have e127 : ((s[i].toNat : Int) == 127) = false := beq_eq_false_iff_ne.2 h127
      clear HE h92 h127
      go_enter Tryz.func174, Tryz.ntmps174
      go_wp2
      go_ret3
      exact ⟨by rw [HF.out]; exact ret_by rfl (by omega), rfl⟩
end Go.Proofs.YtnpifgcgjgddoaaGreatDoor.Q

namespace Go.Proofs.YtnpifgcgjgddoaaGreatDoor.Q
open Go.RowKit
theorem Tryz.info5 : (Tryz.prog.info? 5).map (fun i => (i.zero, i.size, i.bytes)) = some (some (.int .u8 0), 1, 1) := by kernel_rfl

/-- A row that the call owns, behind a call that turned nothing of what was there. -/
theorem own_below {w w' : World} {base e size : Nat} {v : Value} {n : Nat} {xs : List Value} (h : w.ownsRow base e size v n xs) (hb : Below w.heap.size w w') : w'.ownsRow base e size v n xs := by
  refine h.kept (row := none) ⟨hb.os, hb.tape, hb.output, hb.size, fun k hk _ => hb.block k hk⟩ ?_
  cases h2 : v.ownBlock
  · exact .inl rfl
  · exact .inr (by simp)

/-- The text of a row of bytes that the call owns. -/
theorem text_own {w : World} {base : Nat} {v : Value} {l : List Int} (h : w.ownsRow base 5 1 v l.length (l.map (Value.int .u8))) :
    (convert 55 9 v).run Tryz.prog w = .ok (.string (asText l)) w := by
  have hc := h
  obtain ⟨hlen, h2⟩ := h
  rcases h2 with ⟨rfl, hn⟩ | ⟨g, cap, cur, rfl, _⟩
  · obtain rfl : l = [] := List.eq_nil_of_length_eq_zero hn
    rw [run_convert_bytes_string w 55 9 5 _ _ _ Tryz.underlying55 Tryz.underlying5 Tryz.underlying9]
    rfl
  · rw [run_convert_bytes_string w 55 9 5 _ _ _ Tryz.underlying55 Tryz.underlying5 Tryz.underlying9]
    refine run_bytesToString w ⟨g, 0, none⟩ l.length cap l ?_
    have := run_loadCells_list (P := Tryz.prog) (w := w) ⟨g, 0, none⟩ (l.map (Value.int .u8)) (hc.cells rfl)
    rwa [List.length_map] at this

/-- A box with a fault. -/
structure FHolds (w : World) (b : Nat) (p q : Int) : Prop where
  lt : b < w.heap.size
  c0 : w.cell? ⟨b, 0, none⟩ = some (.int .i64 p)
  c1 : w.cell? ⟨b, 1, none⟩ = some (.int .i64 q)
  f0 : w.frozen? ⟨b, 0, none⟩ = false
  f1 : w.frozen? ⟨b, 1, none⟩ = false
theorem FHolds.below {B : Nat} {w w' : World} {b : Nat} {p q : Int} (h : FHolds w b p q) (hb : Below B w w') (hB : b < B) : FHolds w' b p q :=
  ⟨Nat.lt_of_lt_of_le h.lt hb.size, (hb.cell (p := ⟨b, 0, none⟩) hB).trans h.c0, (hb.cell (p := ⟨b, 1, none⟩) hB).trans h.c1, (hb.frozen (p := ⟨b, 0, none⟩) hB).trans h.f0, (hb.frozen (p := ⟨b, 1, none⟩) hB).trans h.f1⟩
theorem FHolds.new (w : World) (p q : Int) : FHolds (w.alloc (.cells #[.int .i64 p, .int .i64 q] 39)) w.heap.size p q := by
  constructor <;> simp [go_sem]
theorem FHolds.grown {w w' : World} {b : Nat} {p q : Int} {row : Option Nat} (h : FHolds w b p q) (hg : w.grownBy w' row) (hne : row = some b → False) : FHolds w' b p q := by
  have e := hg.block b h.lt (fun e => hne e.symm)
  exact ⟨Nat.lt_of_lt_of_le h.lt hg.size, (World.cell?_of_block (a := ⟨b, 0, none⟩) e).trans h.c0, (World.cell?_of_block (a := ⟨b, 1, none⟩) e).trans h.c1, 
    (World.frozen?_of_block (a := ⟨b, 0, none⟩) e).trans h.f0, (World.frozen?_of_block (a := ⟨b, 1, none⟩) e).trans h.f1⟩
theorem FHolds.alloc {w : World} {b : Nat} {p q : Int} (h : FHolds w b p q) (o : Obj) : FHolds (w.alloc o) b p q :=
  h.below (B := w.heap.size) ((Below.refl _ _).alloc (Nat.le_refl _) _) h.lt
theorem putF_below {B : Nat} {w wr : World} {b : Nat} (hb : Below B w wr) (h : B ≤ b) (u v : Value) : Below B w ((wr.setCell ⟨b, 0, none⟩ u).setCell ⟨b, 1, none⟩ v) :=
  (hb.setCell (p := ⟨b, 0, none⟩) h _).setCell (p := ⟨b, 1, none⟩) h _

/-- What holds in the loop of a reading. -/
structure AtL (w wr : World) (v : Value) (l : List Int) : Prop where
  f : FHolds wr w.heap.size 0 0
  o : wr.ownsRow (w.heap.size + 1) 5 1 v l.length (l.map (Value.int .u8))
  b : Below w.heap.size w wr

set_option maxRecDepth 100000 in
set_option maxHeartbeats 4000000 in
theorem readBehind_any (s : ByteArray) (i : Nat) (m : Int) (hm : 0 ≤ m) (hi : i ≤ s.size) (hs : s.size ≤ 65536) (w : World) :
    Calls Tryz.prog 156 #[.string s, .int .i64 i, .int .u8 m] w fun e w' => e = .returned (cuV (rdBody s m (s.size + 1) i [])) ∧ Below w.heap.size w w' := by
  obtain ⟨i0, hinf, hz0, hz1, hz2⟩ := info_parts Tryz.info5
  generalize hR : rdBody s m (s.size + 1) i [] = R
  have HR := (show Hid _ from hR)
  clear hR
  have HF := (show Hid _ from FHolds.new w 0 0)
  have HB := (show Hid _ from (Below.refl w.heap.size w).alloc (Nat.le_refl _) (.cells #[.int .i64 0, .int .i64 0] 39))
  go_enter Tryz.func156, Tryz.ntmps156
  go_wp2_with fail
  go_loopw [1, 9] (fun t v wr => ∃ k : Nat, ∃ f : Nat, ∃ l : List Int, k ≤ s.size ∧ t = .int .i64 k ∧ l.length ≤ k ∧ Hid (s.size + 1 ≤ f + k) ∧ Hid (rdBody s m f k l = R) ∧ Hid (AtL w wr v l)) (fun t _ _ => s.size - (intOf t).toNat)
  case atStart => exact ⟨i, s.size + 1, [], hi, by go_num, by simp, show _ ≤ _ by omega, HR, ⟨HF.out, World.ownsRow_nil _ _ _ _, HB.out⟩⟩
  case round =>
    obtain ⟨k, f, l, hk, rfl, hl, hf, hr, ha⟩ := hrel
    obtain ⟨g, rfl⟩ : ∃ g, f = g + 1 := ⟨f - 1, by have h := hf.out; omega⟩
    clear HR HF HB
    have hlt : w.heap.size < wr.heap.size := ha.out.f.lt
    by_cases hks : k < s.size
    · have hb := chr_bd hks
      have HC := (show Hid _ from chr_in hks)
      by_cases hm1 : chr s k = m
      · have hr' := (show Hid (R = .inl (l, k + 1)) from (hr.out.symm.trans (rdBody_end hm1)))
        have em : ((s[k].toNat : Int) == m) = true := beq_iff_eq.2 (by rw [← HC.out]; exact hm1)
        have ht := text_own ha.out.o
        clear hr hf hm1 hb HC
        obtain ⟨_, c0, c1, f0, f1⟩ := ha.out.f
        go_wp2_with fail
        rw [hr'.out]
        refine bodyPost_ret (v := cuV (.inl (l, k + 1))) (by simp [results, Tryz.results156, go_sem, cuV, *]) rfl ⟨rfl, ?_⟩
        exact putF_below ha.out.b (Nat.le_refl _) _ _
      · have em : ((s[k].toNat : Int) == m) = false := beq_eq_false_iff_ne.2 (by rw [← HC.out]; exact hm1)
        have HRB : Hid (∀ w, Calls Tryz.prog 174 #[.string s, .int .i64 k] w fun e w' => e = .returned (byV (rdByte s k)) ∧ w' = w) := fun w => readByte_any s k hks (by omega) w
        cases hq : rdByte s k with
        | inr pq =>
          obtain ⟨a, c⟩ := pq
          obtain ⟨rfl, hc⟩ := rdByte_err hq
          have hr' := (show Hid (R = .inr (k, c)) from (hr.out.symm.trans (rdBody_err hm1 hks hq)))
          have hc0 : (c != 0) = true := bne_iff_ne.2 (by omega)
          rw [hq] at HRB
          dsimp only [byV] at HRB
          clear hr hf hm1 hb HC hq hc
          obtain ⟨_, c0, c1, f0, f1⟩ := ha.out.f
          go_wp2_with fail
          refine (HRB.out _).mono ?_
          rintro e w1 ⟨rfl, rfl⟩
          go_wp2_with fail
          rw [hr'.out]
          refine bodyPost_ret (v := cuV (.inr (k, c))) (by simp [results, Tryz.results156, go_sem, cuV, *]) rfl ⟨rfl, ?_⟩
          exact putF_below ha.out.b (Nat.le_refl _) _ _
        | inl p =>
          obtain ⟨b, n⟩ := p
          obtain ⟨b0, b1, b2, b3⟩ := rdByte_bd hq
          have hr' := (show Hid (rdBody s m g n (l ++ [b]) = R) from ((rdBody_step hm1 hks hq).symm.trans hr.out))
          have hf' := (show Hid (s.size + 1 ≤ g + n) from (by have h := hf.out; show _ ≤ _; omega))
          rw [hq] at HRB
          dsimp only [byV] at HRB
          clear hr hf hm1 hb HC hq
          have hO1 := ha.out.o
          go_wp2_with fail
          refine (HRB.out _).mono ?_
          rintro e w1 ⟨rfl, rfl⟩
          go_wp2_with (at_builtin; refine wpList_append_own _ rfl _ _ 55 rfl (w.heap.size + 1) 5 i0 (.int .u8 0) 1 1 Tryz.underlying55 hinf hz0 hz1 hz2 rfl (by decide) _ _ _ rfl (hO1.alloc _) ⟨w1.heap.size, 0, none⟩ 1 1 [.int .u8 b] rfl rfl (cell_one_new _ _ _) ?c2 ?c3 ?c4 ?c5 ?_)
          case c2 => intro u hu; simp at hu; subst hu; rfl
          case c3 => unfold maxLen; omega
          case c4 => omega
          case c5 => simp; omega
          intro v' w2 hown' hgrow _
          have hle := fun j e => (hO1.lt j e).1
          have HA2 := (show Hid (AtL w w2 v' (l ++ [b])) from (by
            refine ⟨(ha.out.f.alloc (.cells #[.int .u8 b] 5)).grown hgrow (fun e => by have := hle _ e; omega), ?_, (ha.out.b.alloc (by omega) (.cells #[.int .u8 b] 5)).grown hgrow (by simp; omega) (fun j e => by have := hle j e; omega)⟩
            rw [List.length_append, List.map_append]
            exact hown'))
          clear hO1 hown' hgrow hle ha
          go_wp2
          go_roundw
          case rel => exact ⟨n, g, l ++ [b], b3, rfl, by simp; omega, hf', hr', HA2⟩
          case measure => simp [intOf]; omega
    · have hr' := (show Hid (R = .inr (k, 22)) from (hr.out.symm.trans ((rdBody_out (by omega) hm).trans (by rw [show k = s.size from by omega]))))
      clear hr hf
      obtain ⟨_, c0, c1, f0, f1⟩ := ha.out.f
      go_wp2_with fail
      rw [hr'.out]
      refine bodyPost_ret (v := cuV (.inr (k, 22))) (by simp [results, Tryz.results156, go_sem, cuV, *]) rfl ⟨rfl, ?_⟩
      exact putF_below ha.out.b (Nat.le_refl _) _ _
end Go.Proofs.YtnpifgcgjgddoaaGreatDoor.Q

namespace Go.Proofs.YtnpifgcgjgddoaaGreatDoor.Q
open Go.RowKit
set_option maxRecDepth 100000 in
set_option maxHeartbeats 4000000 in
theorem cut_any (s : ByteArray) (i : Int) (w : World) :
    Calls Tryz.prog 139 #[.string s, .int .i64 i] w fun e w' => e = .returned (cuV (rdCut s i)) ∧ Below w.heap.size w w' := by
  have HF := (show Hid _ from FHolds.new w 0 0)
  have HB := (show Hid _ from (Below.refl w.heap.size w).alloc (Nat.le_refl _) (.cells #[.int .i64 0, .int .i64 0] 39))
  have HP : Hid (∀ w, Calls Tryz.prog 154 #[.string s, .int .i64 i] w fun e w' => e = .returned (.int .i64 (cpE s i)) ∧ w' = w) := fun w => checkPlace_any s i w
  by_cases hcp : cpE s i = 0
  · have hc : ¬ 65536 < s.size ∧ ¬ (i < 0 ∨ (s.size : Int) < i) := by
      unfold cpE at hcp; split at hcp
      · omega
      · split at hcp
        · omega
        · next a b => exact ⟨a, b⟩
    obtain ⟨h1, h2⟩ := hc
    have h0 : 0 ≤ i := by omega
    obtain ⟨n, rfl⟩ := Int.eq_ofNat_of_zero_le h0
    have HE : Hid (rdCut s (n : Int) = if chr s n = 39 ∨ chr s n = 34 then rdBody s (chr s n) (s.size + 1) (n + 1) [] else .inr (n, 20)) := (by show rdCut s (n : Int) = _; unfold rdCut; rw [if_neg h1, if_neg h2, Int.toNat_natCast])
    rw [hcp] at HP
    clear hcp
    by_cases hn : n < s.size
    · have hnI : (n : Int) < (s.size : Int) := by omega
      have en : ((n : Int) == (s.size : Int)) = false := beq_eq_false_iff_ne.2 (by omega)
      have HC := (show Hid _ from chr_in hn)
      have hb := chr_bd hn
      rw [HC.out] at hb
      have HM : Hid (∀ w, Calls Tryz.prog 155 #[.int .u8 (s[n].toNat : Int)] w fun e w' => e = .returned (.bool (mkB (s[n].toNat : Int))) ∧ w' = w) := fun w => isMark_any _ w
      cases hmk : mkB (s[n].toNat : Int)
      · have HG := (show Hid (rdCut s (n : Int) = .inr (n, 20)) from (by
          show rdCut s (n : Int) = _
          rw [HE.out, if_neg]
          rw [HC.out]
          unfold mkB at hmk
          simp at hmk
          omega))
        rw [hmk] at HM
        clear HE hmk HC
        go_enter Tryz.func139, Tryz.ntmps139
        go_wp2_with fail
        refine (HP.out _).mono ?_
        rintro e w1 ⟨rfl, rfl⟩
        go_wp2_with fail
        refine (HM.out _).mono ?_
        rintro e w1 ⟨rfl, rfl⟩
        obtain ⟨_, c0, c1, f0, f1⟩ := HF.out
        go_wp2_with fail
        rw [HG.out]
        refine bodyPost_ret (v := cuV (.inr (n, 20))) (by simp [results, Tryz.results139, go_sem, cuV, *]) rfl ⟨rfl, ?_⟩
        exact (Below.refl _ _).alloc (Nat.le_refl _) _
      · have HG := (show Hid (rdCut s (n : Int) = rdBody s (s[n].toNat : Int) (s.size + 1) (n + 1) []) from (by
          show rdCut s (n : Int) = _
          rw [HE.out, if_pos]
          · rw [HC.out]
          · rw [HC.out]
            unfold mkB at hmk
            simp at hmk
            omega))
        have HR : Hid (∀ w, Calls Tryz.prog 156 #[.string s, .int .i64 ((n : Int) + 1), .int .u8 (s[n].toNat : Int)] w fun e w' => e = .returned (cuV (rdBody s (s[n].toNat : Int) (s.size + 1) (n + 1) [])) ∧ Below w.heap.size w w') := fun w => readBehind_any s (n + 1) _ (by omega) (by omega) (by omega) w
        rw [hmk] at HM
        rw [← HG.out] at HR
        clear HE hmk HC HG
        generalize rdCut s (n : Int) = R at *
        go_enter Tryz.func139, Tryz.ntmps139
        go_wp2_with fail
        refine (HP.out _).mono ?_
        rintro e w1 ⟨rfl, rfl⟩
        go_wp2_with fail
        refine (HM.out _).mono ?_
        rintro e w1 ⟨rfl, rfl⟩
        go_wp2_with fail
        refine (HR.out _).mono ?_
        rintro e w2 ⟨rfl, hb2⟩
        have HF2 := (show Hid _ from HF.out.below hb2 HF.out.lt)
        have HB2 := (show Hid _ from HB.out.trans (hb2.mono HB.out.size))
        have hl : w.heap.size < w2.heap.size := HF2.out.lt
        clear hb2 HR
        obtain ⟨_, c0, c1, f0, f1⟩ := HF2.out
        cases R with
        | inr pq =>
          obtain ⟨a, c⟩ := pq
          dsimp only [cuV]
          go_wp2_with fail
          refine bodyPost_ret (v := cuV (.inr (a, c))) (by simp [results, Tryz.results139, go_sem, cuV, *]) rfl ⟨rfl, ?_⟩
          exact putF_below HB2.out (Nat.le_refl _) _ _
        | inl p =>
          obtain ⟨l, e⟩ := p
          dsimp only [cuV]
          go_wp2_with fail
          refine bodyPost_ret (v := cuV (.inl (l, e))) (by simp [results, Tryz.results139, go_sem, cuV, *]) rfl ⟨rfl, ?_⟩
          exact putF_below HB2.out (Nat.le_refl _) _ _
    · have hnI : ¬ (n : Int) < (s.size : Int) := by omega
      have en : ((n : Int) == (s.size : Int)) = true := beq_iff_eq.2 (by omega)
      have HG := (show Hid (rdCut s (n : Int) = .inr (n, 20)) from (by
        show rdCut s (n : Int) = _
        rw [HE.out, if_neg]
        rw [chr_out hn]
        omega))
      clear HE
      go_enter Tryz.func139, Tryz.ntmps139
      go_wp2_with fail
      refine (HP.out _).mono ?_
      rintro e w1 ⟨rfl, rfl⟩
      obtain ⟨_, c0, c1, f0, f1⟩ := HF.out
      go_wp2_with fail
      rw [HG.out]
      refine bodyPost_ret (v := cuV (.inr (n, 20))) (by simp [results, Tryz.results139, go_sem, cuV, *]) rfl ⟨rfl, ?_⟩
      exact (Below.refl _ _).alloc (Nat.le_refl _) _
  · have HG := (show Hid (rdCut s i = .inr (0, (cpE s i))) from (by
      show rdCut s i = _
      unfold rdCut cpE at *
      split
      · rfl
      · next h => 
        rw [if_neg h] at hcp
        split
        · rfl
        · next h2 => rw [if_neg h2] at hcp; exact absurd rfl hcp))
    have ec : (cpE s i != 0) = true := bne_iff_ne.2 hcp
    clear hcp
    generalize cpE s i = c at *
    go_enter Tryz.func139, Tryz.ntmps139
    go_wp2_with fail
    refine (HP.out _).mono ?_
    rintro e w1 ⟨rfl, rfl⟩
    obtain ⟨_, c0, c1, f0, f1⟩ := HF.out
    go_wp2_with fail
    rw [HG.out]
    refine bodyPost_ret (v := cuV (.inr (0, c))) (by simp [results, Tryz.results139, go_sem, cuV, *]) rfl ⟨rfl, ?_⟩
    exact (Below.refl _ _).alloc (Nat.le_refl _) _
end Go.Proofs.YtnpifgcgjgddoaaGreatDoor.Q

namespace Go.Proofs.YtnpifgcgjgddoaaGreatDoor
open Go.RowKit
set_option maxRecDepth 100000 in
set_option maxHeartbeats 8000000 in
theorem readLiteral_any (s : ByteArray) (b : Nat) (hs : s.size ≤ 65536) (hb : b ≤ s.size) (hq : chr s b = 39 ∨ chr s b = 34) (w : World) : Calls Tryz.prog 114 #[.string s, .int .i64 b] w fun e w' => e = .returned (tokP (litR s b)) ∧ Below w.heap.size w w' := by
  have HF : Hid (∀ i e w, Calls Tryz.prog 135 #[.int .i64 i, .int .i64 e] w fun e' w' => e' = .returned (pairV tk0 i e) ∧ Below w.heap.size w w') := fun i e w => fault_any i e w
  have HC : Hid (∀ w, Calls Tryz.prog 139 #[.string s, .int .i64 b] w fun e w' => e = .returned (Q.cuV (Q.rdCut s b)) ∧ Below w.heap.size w w') := fun w => Q.cut_any s b w
  have HX := (show Hid (BX w ((w.alloc (tkO tk0)).alloc (fxO 0 0)) tk0 0 0) from BX.new w)
  have HU := (show Hid (litR s b = litP s b (Q.rdCut s b)) from (lit_same s b hs hb hq).symm)
  cases hr : Q.rdCut s b with
  | inr p =>
    obtain ⟨a, c⟩ := p
    obtain ⟨ha, hcc⟩ := rdCut_pos hs hb hq hr
    obtain ⟨a, rfl⟩ : ∃ k : Nat, a = k := ⟨a.toNat, by omega⟩
    rw [hr, litP, Int.toNat_natCast] at HU
    rw [hr] at HC
    clear hr ha hq
    unfold Q.cuV at HC
    rcases hcc with rfl | rfl
    · have HE : Hid (litR s b = .inr (a, 51)) := by show litR s b = _; rw [HU.out, if_pos rfl]
      clear HU
      go_enter Tryz.func114, Tryz.ntmps114
      go_wp2_with fail
      refine (HC.out _).mono ?_
      rintro e w2 ⟨rfl, b2⟩
      have HX2 := (show Hid (BX w (w2.alloc (fxO a 21)) tk0 0 0) from (HX.out.below b2).below (below_box _ _))
      clear b2 HX HC
      go_wp2_with fail
      refine (HF.out _ _ _).mono ?_
      rintro e w3 ⟨rfl, b3⟩
      have HX3 := (show Hid (BX w w3 tk0 0 0) from HX2.out.below b3)
      clear b3 HX2 HF
      obtain ⟨f0, f1', f2', f3, f4, f5, f6, f7, f8, g0, g1⟩ := HX3.out.fz
      obtain ⟨c0, c1, c2, c3, c4, c5, c6, c7, c8, d0, d1⟩ := HX3.out.cells
      unfold pairV
      go_wp2_with fail
      have HP := HX3.out.put tk0 a 51
      exact ret_bx rfl rfl rfl rfl HP ⟨by rw [HE.out]; rfl, HP.b⟩
    · by_cases hlt : a < s.size
      · have HE : Hid (litR s b = .inr (a, 50)) := by show litR s b = _; rw [HU.out, if_neg (by decide), if_pos ⟨rfl, by omega⟩]
        have z1 : (a : Int) < (s.size : Int) := by omega
        clear HU
        go_enter Tryz.func114, Tryz.ntmps114
        go_wp2_with fail
        refine (HC.out _).mono ?_
        rintro e w2 ⟨rfl, b2⟩
        have HX2 := (show Hid (BX w (w2.alloc (fxO a 22)) tk0 0 0) from (HX.out.below b2).below (below_box _ _))
        clear b2 HX HC
        go_wp2_with fail
        refine (HF.out _ _ _).mono ?_
        rintro e w3 ⟨rfl, b3⟩
        have HX3 := (show Hid (BX w w3 tk0 0 0) from HX2.out.below b3)
        clear b3 HX2 HF
        obtain ⟨f0, f1', f2', f3, f4, f5, f6, f7, f8, g0, g1⟩ := HX3.out.fz
        obtain ⟨c0, c1, c2, c3, c4, c5, c6, c7, c8, d0, d1⟩ := HX3.out.cells
        unfold pairV
        go_wp2_with fail
        have HP := HX3.out.put tk0 a 50
        exact ret_bx rfl rfl rfl rfl HP ⟨by rw [HE.out]; rfl, HP.b⟩
      · have HE : Hid (litR s b = .inr (b, 52)) := by show litR s b = _; rw [HU.out, if_neg (by decide), if_neg (by omega)]
        have z1 : ¬ (a : Int) < (s.size : Int) := by omega
        clear HU
        go_enter Tryz.func114, Tryz.ntmps114
        go_wp2_with fail
        refine (HC.out _).mono ?_
        rintro e w2 ⟨rfl, b2⟩
        have HX2 := (show Hid (BX w (w2.alloc (fxO a 22)) tk0 0 0) from (HX.out.below b2).below (below_box _ _))
        clear b2 HX HC
        go_wp2_with fail
        refine (HF.out _ _ _).mono ?_
        rintro e w3 ⟨rfl, b3⟩
        have HX3 := (show Hid (BX w w3 tk0 0 0) from HX2.out.below b3)
        clear b3 HX2 HF
        obtain ⟨f0, f1', f2', f3, f4, f5, f6, f7, f8, g0, g1⟩ := HX3.out.fz
        obtain ⟨c0, c1, c2, c3, c4, c5, c6, c7, c8, d0, d1⟩ := HX3.out.cells
        unfold pairV
        go_wp2_with fail
        have HP := HX3.out.put tk0 b 52
        exact ret_bx rfl rfl rfl rfl HP ⟨by rw [HE.out]; rfl, HP.b⟩
  | inl p =>
    obtain ⟨l, n⟩ := p
    rw [hr, litP] at HU
    rw [hr] at HC
    clear hr hq
    replace HC := (show Hid (∀ w, Calls Tryz.prog 139 #[.string s, .int .i64 b] w fun e w' => e = .returned (.tuple #[.string (asText l), .int .i64 n, .agg #[.int .i64 0, .int .i64 0]]) ∧ Below w.heap.size w w') from HC)
    have hsz : (asText l).size = l.length := asText_size l
    by_cases h255 : 255 < l.length
    · have HE : Hid (litR s b = .inr (b, 2)) := by show litR s b = _; rw [HU.out, if_pos h255]
      have z1 : (255 : Int) < ((asText l).size : Int) := by omega
      clear HU hsz h255
      generalize asText l = t at *
      go_enter Tryz.func114, Tryz.ntmps114
      go_wp2_with fail
      refine (HC.out _).mono ?_
      rintro e w2 ⟨rfl, b2⟩
      have HX2 := (show Hid (BX w (w2.alloc (fxO 0 0)) tk0 0 0) from (HX.out.below b2).below (below_box _ _))
      clear b2 HX HC
      go_wp2_with fail
      refine (HF.out _ _ _).mono ?_
      rintro e w3 ⟨rfl, b3⟩
      have HX3 := (show Hid (BX w w3 tk0 0 0) from HX2.out.below b3)
      clear b3 HX2 HF
      obtain ⟨f0, f1', f2', f3, f4, f5, f6, f7, f8, g0, g1⟩ := HX3.out.fz
      obtain ⟨c0, c1, c2, c3, c4, c5, c6, c7, c8, d0, d1⟩ := HX3.out.cells
      unfold pairV
      go_wp2_with fail
      have HP := HX3.out.put tk0 b 2
      exact ret_bx rfl rfl rfl rfl HP ⟨by rw [HE.out]; rfl, HP.b⟩
    · have HE : Hid (litR s b = .inl ⟨2, 0, b, n, asText l, 0, 0, 0, 0⟩) := by show litR s b = _; rw [HU.out, if_neg h255]
      have z1 : ¬ (255 : Int) < ((asText l).size : Int) := by omega
      clear HU hsz h255 HF
      generalize asText l = t at *
      go_enter Tryz.func114, Tryz.ntmps114
      go_wp2_with fail
      refine (HC.out _).mono ?_
      rintro e w2 ⟨rfl, b2⟩
      have HX2 := (show Hid (BX w w2 tk0 0 0) from HX.out.below b2)
      clear b2 HX HC
      obtain ⟨f0, f1', f2', f3, f4, f5, f6, f7, f8, g0, g1⟩ := HX2.out.fz
      obtain ⟨c0, c1, c2, c3, c4, c5, c6, c7, c8, d0, d1⟩ := HX2.out.cells
      have hsz2 := HX2.out.size
      have hl1 : w.heap.size < w2.heap.size := by omega
      have hne1 : w.heap.size ≠ w2.heap.size := by omega
      have hne2 : w.heap.size + 1 ≠ w2.heap.size := by omega
      go_wp2_with fail
      have HP := (HX2.out.put ⟨2, 0, b, n, t, 0, 0, 0, 0⟩ 0 0).below (below_box _ (fxO 0 0))
      exact ret_bx rfl rfl rfl rfl HP ⟨by rw [HE.out]; rfl, HP.b⟩
end Go.Proofs.YtnpifgcgjgddoaaGreatDoor

namespace Go.Proofs.YtnpifgcgjgddoaaGreatDoor
open Go.RowKit
def oneP (s : ByteArray) (b : Nat) : Sum Tk (Nat × Int) :=
  if hdB (chr s b) = true then nameR s b else if dgB (chr s b) = true then nmR s b b 4 else if chr s b = 39 ∨ chr s b = 34 then litR s b
  else if chr s b = 91 then clT s b (rdRead s b) else if chr s b = 37 then pctP s b else sigP s b
set_option maxRecDepth 100000 in
set_option maxHeartbeats 8000000 in
theorem rt_name (s : ByteArray) (b : Nat) (hs : s.size ≤ 65536) (hb : b < s.size) (h : hdB (chr s b) = true) (w : World) (hg : SG w) : Calls Tryz.prog 88 #[.string s, .int .i64 b] w fun e w' => e = .returned (tokP (oneP s b)) ∧ Below w.heap.size w w' := by
  have HX := (show Hid (BX w ((w.alloc (tkO tk0)).alloc (fxO 0 0)) tk0 0 0) from BX.new w)
  have HG := (show Hid (SG ((w.alloc (tkO tk0)).alloc (fxO 0 0))) from (hg.later (below_box _ _)).later (below_box _ _))
  have hc := chr_in hb
  have HH : Hid (∀ w, Calls Tryz.prog 110 #[.int .u8 (s[b].toNat : Int)] w fun e w' => e = .returned (.bool (hdB (chr s b))) ∧ w' = w) := fun w => by rw [hc]; exact pbegins_any _ w
  have HD : Hid (∀ w, Calls Tryz.prog 112 #[.int .u8 (s[b].toNat : Int)] w fun e w' => e = .returned (.bool (dgB (chr s b))) ∧ w' = w) := fun w => by rw [hc]; exact pdigit_any _ w
  have z0 : (0 : Int) ≤ (b : Int) := by omega
  have z1 : (b : Int) < (s.size : Int) := by omega
  clear hg
  have HN : Hid (∀ w, Calls Tryz.prog 111 #[.string s, .int .i64 b] w fun e w' => e = .returned (tokP (nameR s b)) ∧ Below w.heap.size w w') := fun w => readName_any s b (by omega) (by omega) w
  have HE : Hid (oneP s b = nameR s b) := by show oneP s b = _; unfold oneP; rw [if_pos h]
  rw [h] at HH
  clear HD HG hc h
  go_enter Tryz.func88, Tryz.ntmps88
  go_wp2_with fail
  refine (HH.out _).mono ?_
  rintro e w1 ⟨rfl, rfl⟩
  clear HH
  go_wp2_with fail
  refine (HN.out _).mono ?_
  rintro e w3 ⟨rfl, b3⟩
  have HX3 := (show Hid (BX w w3 tk0 0 0) from HX.out.below b3)
  clear b3 HX HN
  obtain ⟨f0, f1', f2', f3, f4, f5, f6, f7, f8, g0, g1⟩ := HX3.out.fz
  obtain ⟨c0, c1, c2, c3, c4, c5, c6, c7, c8, d0, d1⟩ := HX3.out.cells
  generalize nameR s b = r at *
  cases r with
  | inl t =>
    unfold tokP
    go_wp2_with fail
    have HP := HX3.out.put t 0 0
    exact ret_bx rfl rfl rfl rfl HP ⟨by rw [HE.out]; rfl, HP.b⟩
  | inr q =>
    unfold tokP
    go_wp2_with fail
    have HP := HX3.out.put tk0 q.1 q.2
    exact ret_bx rfl rfl rfl rfl HP ⟨by rw [HE.out]; rfl, HP.b⟩
set_option maxRecDepth 100000 in
set_option maxHeartbeats 8000000 in
theorem rt_num (s : ByteArray) (b : Nat) (hs : s.size ≤ 65536) (hb : b < s.size) (h : hdB (chr s b) = false) (h2 : dgB (chr s b) = true) (w : World) (hg : SG w) : Calls Tryz.prog 88 #[.string s, .int .i64 b] w fun e w' => e = .returned (tokP (oneP s b)) ∧ Below w.heap.size w w' := by
  have HX := (show Hid (BX w ((w.alloc (tkO tk0)).alloc (fxO 0 0)) tk0 0 0) from BX.new w)
  have HG := (show Hid (SG ((w.alloc (tkO tk0)).alloc (fxO 0 0))) from (hg.later (below_box _ _)).later (below_box _ _))
  have hc := chr_in hb
  have HH : Hid (∀ w, Calls Tryz.prog 110 #[.int .u8 (s[b].toNat : Int)] w fun e w' => e = .returned (.bool (hdB (chr s b))) ∧ w' = w) := fun w => by rw [hc]; exact pbegins_any _ w
  have HD : Hid (∀ w, Calls Tryz.prog 112 #[.int .u8 (s[b].toNat : Int)] w fun e w' => e = .returned (.bool (dgB (chr s b))) ∧ w' = w) := fun w => by rw [hc]; exact pdigit_any _ w
  have z0 : (0 : Int) ≤ (b : Int) := by omega
  have z1 : (b : Int) < (s.size : Int) := by omega
  clear hg
  have HN : Hid (∀ w, Calls Tryz.prog 113 #[.string s, .int .i64 b, .int .i64 b, .int .i64 4] w fun e w' => e = .returned (tokP (nmR s b b 4)) ∧ Below w.heap.size w w') := fun w => readNumber_any s b b 4 (by omega) (by omega) (by omega) w
  have HE : Hid (oneP s b = nmR s b b 4) := by show oneP s b = _; unfold oneP; rw [if_neg (by rw [h]; decide), if_pos h2]
  rw [h] at HH
  rw [h2] at HD
  clear HG hc h h2
  go_enter Tryz.func88, Tryz.ntmps88
  go_wp2_with fail
  refine (HH.out _).mono ?_
  rintro e w1 ⟨rfl, rfl⟩
  clear HH
  go_wp2_with fail
  refine (HD.out _).mono ?_
  rintro e w1 ⟨rfl, rfl⟩
  clear HD
  go_wp2_with fail
  refine (HN.out _).mono ?_
  rintro e w3 ⟨rfl, b3⟩
  have HX3 := (show Hid (BX w w3 tk0 0 0) from HX.out.below b3)
  clear b3 HX HN
  obtain ⟨f0, f1', f2', f3, f4, f5, f6, f7, f8, g0, g1⟩ := HX3.out.fz
  obtain ⟨c0, c1, c2, c3, c4, c5, c6, c7, c8, d0, d1⟩ := HX3.out.cells
  generalize nmR s b b 4 = r at *
  cases r with
  | inl t =>
    unfold tokP
    go_wp2_with fail
    have HP := HX3.out.put t 0 0
    exact ret_bx rfl rfl rfl rfl HP ⟨by rw [HE.out]; rfl, HP.b⟩
  | inr q =>
    unfold tokP
    go_wp2_with fail
    have HP := HX3.out.put tk0 q.1 q.2
    exact ret_bx rfl rfl rfl rfl HP ⟨by rw [HE.out]; rfl, HP.b⟩
set_option maxRecDepth 100000 in
set_option maxHeartbeats 8000000 in
theorem rt_lit1 (s : ByteArray) (b : Nat) (hs : s.size ≤ 65536) (hb : b < s.size) (h : hdB (chr s b) = false) (h2 : dgB (chr s b) = false) (h3 : chr s b = 39) (w : World) (hg : SG w) : Calls Tryz.prog 88 #[.string s, .int .i64 b] w fun e w' => e = .returned (tokP (oneP s b)) ∧ Below w.heap.size w w' := by
  have HX := (show Hid (BX w ((w.alloc (tkO tk0)).alloc (fxO 0 0)) tk0 0 0) from BX.new w)
  have HG := (show Hid (SG ((w.alloc (tkO tk0)).alloc (fxO 0 0))) from (hg.later (below_box _ _)).later (below_box _ _))
  have hc := chr_in hb
  have HH : Hid (∀ w, Calls Tryz.prog 110 #[.int .u8 (s[b].toNat : Int)] w fun e w' => e = .returned (.bool (hdB (chr s b))) ∧ w' = w) := fun w => by rw [hc]; exact pbegins_any _ w
  have HD : Hid (∀ w, Calls Tryz.prog 112 #[.int .u8 (s[b].toNat : Int)] w fun e w' => e = .returned (.bool (dgB (chr s b))) ∧ w' = w) := fun w => by rw [hc]; exact pdigit_any _ w
  have z0 : (0 : Int) ≤ (b : Int) := by omega
  have z1 : (b : Int) < (s.size : Int) := by omega
  clear hg
  have HN : Hid (∀ w, Calls Tryz.prog 114 #[.string s, .int .i64 b] w fun e w' => e = .returned (tokP (litR s b)) ∧ Below w.heap.size w w') := fun w => readLiteral_any s b hs (by omega) (.inl h3) w
  have HE : Hid (oneP s b = litR s b) := by show oneP s b = _; unfold oneP; rw [if_neg (by rw [h]; decide), if_neg (by rw [h2]; decide), if_pos (.inl h3)]
  rw [h] at HH
  rw [h2] at HD
  have v1 : ((s[b].toNat : Int) == 39) = true := by rw [← hc, h3]; rfl
  clear h3
  clear hc h h2 HG
  go_enter Tryz.func88, Tryz.ntmps88
  go_wp2_with fail
  refine (HH.out _).mono ?_
  rintro e w1 ⟨rfl, rfl⟩
  clear HH
  go_wp2_with fail
  refine (HD.out _).mono ?_
  rintro e w1 ⟨rfl, rfl⟩
  clear HD
  go_wp2_with fail
  refine (HN.out _).mono ?_
  rintro e w3 ⟨rfl, b3⟩
  have HX3 := (show Hid (BX w w3 tk0 0 0) from HX.out.below b3)
  clear b3 HX HN
  obtain ⟨f0, f1', f2', f3, f4, f5, f6, f7, f8, g0, g1⟩ := HX3.out.fz
  obtain ⟨c0, c1, c2, c3, c4, c5, c6, c7, c8, d0, d1⟩ := HX3.out.cells
  generalize litR s b = r at *
  cases r with
  | inl t =>
    unfold tokP
    go_wp2_with fail
    have HP := HX3.out.put t 0 0
    exact ret_bx rfl rfl rfl rfl HP ⟨by rw [HE.out]; rfl, HP.b⟩
  | inr q =>
    unfold tokP
    go_wp2_with fail
    have HP := HX3.out.put tk0 q.1 q.2
    exact ret_bx rfl rfl rfl rfl HP ⟨by rw [HE.out]; rfl, HP.b⟩
set_option maxRecDepth 100000 in
set_option maxHeartbeats 8000000 in
theorem rt_lit2 (s : ByteArray) (b : Nat) (hs : s.size ≤ 65536) (hb : b < s.size) (h : hdB (chr s b) = false) (h2 : dgB (chr s b) = false) (h3 : chr s b = 34) (w : World) (hg : SG w) : Calls Tryz.prog 88 #[.string s, .int .i64 b] w fun e w' => e = .returned (tokP (oneP s b)) ∧ Below w.heap.size w w' := by
  have HX := (show Hid (BX w ((w.alloc (tkO tk0)).alloc (fxO 0 0)) tk0 0 0) from BX.new w)
  have HG := (show Hid (SG ((w.alloc (tkO tk0)).alloc (fxO 0 0))) from (hg.later (below_box _ _)).later (below_box _ _))
  have hc := chr_in hb
  have HH : Hid (∀ w, Calls Tryz.prog 110 #[.int .u8 (s[b].toNat : Int)] w fun e w' => e = .returned (.bool (hdB (chr s b))) ∧ w' = w) := fun w => by rw [hc]; exact pbegins_any _ w
  have HD : Hid (∀ w, Calls Tryz.prog 112 #[.int .u8 (s[b].toNat : Int)] w fun e w' => e = .returned (.bool (dgB (chr s b))) ∧ w' = w) := fun w => by rw [hc]; exact pdigit_any _ w
  have z0 : (0 : Int) ≤ (b : Int) := by omega
  have z1 : (b : Int) < (s.size : Int) := by omega
  clear hg
  have HN : Hid (∀ w, Calls Tryz.prog 114 #[.string s, .int .i64 b] w fun e w' => e = .returned (tokP (litR s b)) ∧ Below w.heap.size w w') := fun w => readLiteral_any s b hs (by omega) (.inr h3) w
  have HE : Hid (oneP s b = litR s b) := by show oneP s b = _; unfold oneP; rw [if_neg (by rw [h]; decide), if_neg (by rw [h2]; decide), if_pos (.inr h3)]
  rw [h] at HH
  rw [h2] at HD
  have v1 : ((s[b].toNat : Int) == 39) = false := by rw [← hc, h3]; rfl
  have v2 : ((s[b].toNat : Int) == 34) = true := by rw [← hc, h3]; rfl
  clear h3
  clear hc h h2 HG
  go_enter Tryz.func88, Tryz.ntmps88
  go_wp2_with fail
  refine (HH.out _).mono ?_
  rintro e w1 ⟨rfl, rfl⟩
  clear HH
  go_wp2_with fail
  refine (HD.out _).mono ?_
  rintro e w1 ⟨rfl, rfl⟩
  clear HD
  go_wp2_with fail
  refine (HN.out _).mono ?_
  rintro e w3 ⟨rfl, b3⟩
  have HX3 := (show Hid (BX w w3 tk0 0 0) from HX.out.below b3)
  clear b3 HX HN
  obtain ⟨f0, f1', f2', f3, f4, f5, f6, f7, f8, g0, g1⟩ := HX3.out.fz
  obtain ⟨c0, c1, c2, c3, c4, c5, c6, c7, c8, d0, d1⟩ := HX3.out.cells
  generalize litR s b = r at *
  cases r with
  | inl t =>
    unfold tokP
    go_wp2_with fail
    have HP := HX3.out.put t 0 0
    exact ret_bx rfl rfl rfl rfl HP ⟨by rw [HE.out]; rfl, HP.b⟩
  | inr q =>
    unfold tokP
    go_wp2_with fail
    have HP := HX3.out.put tk0 q.1 q.2
    exact ret_bx rfl rfl rfl rfl HP ⟨by rw [HE.out]; rfl, HP.b⟩
set_option maxRecDepth 100000 in
set_option maxHeartbeats 8000000 in
theorem rt_cls (s : ByteArray) (b : Nat) (hs : s.size ≤ 65536) (hb : b < s.size) (h : hdB (chr s b) = false) (h2 : dgB (chr s b) = false) (h3 : chr s b = 91) (w : World) (hg : SG w) : Calls Tryz.prog 88 #[.string s, .int .i64 b] w fun e w' => e = .returned (tokP (oneP s b)) ∧ Below w.heap.size w w' := by
  have HX := (show Hid (BX w ((w.alloc (tkO tk0)).alloc (fxO 0 0)) tk0 0 0) from BX.new w)
  have HG := (show Hid (SG ((w.alloc (tkO tk0)).alloc (fxO 0 0))) from (hg.later (below_box _ _)).later (below_box _ _))
  have hc := chr_in hb
  have HH : Hid (∀ w, Calls Tryz.prog 110 #[.int .u8 (s[b].toNat : Int)] w fun e w' => e = .returned (.bool (hdB (chr s b))) ∧ w' = w) := fun w => by rw [hc]; exact pbegins_any _ w
  have HD : Hid (∀ w, Calls Tryz.prog 112 #[.int .u8 (s[b].toNat : Int)] w fun e w' => e = .returned (.bool (dgB (chr s b))) ∧ w' = w) := fun w => by rw [hc]; exact pdigit_any _ w
  have z0 : (0 : Int) ≤ (b : Int) := by omega
  have z1 : (b : Int) < (s.size : Int) := by omega
  clear hg
  have HN : Hid (∀ w, Calls Tryz.prog 115 #[.string s, .int .i64 b] w fun e w' => e = .returned (tokP (clT s b (rdRead s b))) ∧ Below w.heap.size w w') := fun w => readCls_any s b (by omega) w
  have HE : Hid (oneP s b = clT s b (rdRead s b)) := by show oneP s b = _; unfold oneP; rw [if_neg (by rw [h]; decide), if_neg (by rw [h2]; decide), if_neg (by omega), if_pos h3]
  rw [h] at HH
  rw [h2] at HD
  have v1 : ((s[b].toNat : Int) == 39) = false := by rw [← hc, beq_eq_false_iff_ne]; omega
  have v2 : ((s[b].toNat : Int) == 34) = false := by rw [← hc, beq_eq_false_iff_ne]; omega
  have v3 : ((s[b].toNat : Int) == 91) = true := by rw [← hc, h3]; rfl
  clear h3
  clear hc h h2 HG
  go_enter Tryz.func88, Tryz.ntmps88
  go_wp2_with fail
  refine (HH.out _).mono ?_
  rintro e w1 ⟨rfl, rfl⟩
  clear HH
  go_wp2_with fail
  refine (HD.out _).mono ?_
  rintro e w1 ⟨rfl, rfl⟩
  clear HD
  go_wp2_with fail
  refine (HN.out _).mono ?_
  rintro e w3 ⟨rfl, b3⟩
  have HX3 := (show Hid (BX w w3 tk0 0 0) from HX.out.below b3)
  clear b3 HX HN
  obtain ⟨f0, f1', f2', f3, f4, f5, f6, f7, f8, g0, g1⟩ := HX3.out.fz
  obtain ⟨c0, c1, c2, c3, c4, c5, c6, c7, c8, d0, d1⟩ := HX3.out.cells
  generalize clT s b (rdRead s b) = r at *
  cases r with
  | inl t =>
    unfold tokP
    go_wp2_with fail
    have HP := HX3.out.put t 0 0
    exact ret_bx rfl rfl rfl rfl HP ⟨by rw [HE.out]; rfl, HP.b⟩
  | inr q =>
    unfold tokP
    go_wp2_with fail
    have HP := HX3.out.put tk0 q.1 q.2
    exact ret_bx rfl rfl rfl rfl HP ⟨by rw [HE.out]; rfl, HP.b⟩
set_option maxRecDepth 100000 in
set_option maxHeartbeats 8000000 in
theorem rt_pct (s : ByteArray) (b : Nat) (hs : s.size ≤ 65536) (hb : b < s.size) (h : hdB (chr s b) = false) (h2 : dgB (chr s b) = false) (h3 : chr s b = 37) (w : World) (hg : SG w) : Calls Tryz.prog 88 #[.string s, .int .i64 b] w fun e w' => e = .returned (tokP (oneP s b)) ∧ Below w.heap.size w w' := by
  have HX := (show Hid (BX w ((w.alloc (tkO tk0)).alloc (fxO 0 0)) tk0 0 0) from BX.new w)
  have HG := (show Hid (SG ((w.alloc (tkO tk0)).alloc (fxO 0 0))) from (hg.later (below_box _ _)).later (below_box _ _))
  have hc := chr_in hb
  have HH : Hid (∀ w, Calls Tryz.prog 110 #[.int .u8 (s[b].toNat : Int)] w fun e w' => e = .returned (.bool (hdB (chr s b))) ∧ w' = w) := fun w => by rw [hc]; exact pbegins_any _ w
  have HD : Hid (∀ w, Calls Tryz.prog 112 #[.int .u8 (s[b].toNat : Int)] w fun e w' => e = .returned (.bool (dgB (chr s b))) ∧ w' = w) := fun w => by rw [hc]; exact pdigit_any _ w
  have z0 : (0 : Int) ≤ (b : Int) := by omega
  have z1 : (b : Int) < (s.size : Int) := by omega
  clear hg
  have HN : Hid (∀ w, SG w → Calls Tryz.prog 116 #[.string s, .int .i64 b] w fun e w' => e = .returned (tokP (pctP s b)) ∧ Below w.heap.size w w') := fun w g => readPercent_any s b (by omega) (by omega) w g
  have HE : Hid (oneP s b = pctP s b) := by show oneP s b = _; unfold oneP; rw [if_neg (by rw [h]; decide), if_neg (by rw [h2]; decide), if_neg (by omega), if_neg (by omega), if_pos h3]
  rw [h] at HH
  rw [h2] at HD
  have v1 : ((s[b].toNat : Int) == 39) = false := by rw [← hc, beq_eq_false_iff_ne]; omega
  have v2 : ((s[b].toNat : Int) == 34) = false := by rw [← hc, beq_eq_false_iff_ne]; omega
  have v3 : ((s[b].toNat : Int) == 91) = false := by rw [← hc, h3]; rfl
  have v4 : ((s[b].toNat : Int) == 37) = true := by rw [← hc, h3]; rfl
  clear h3
  clear hc h h2 
  go_enter Tryz.func88, Tryz.ntmps88
  go_wp2_with fail
  refine (HH.out _).mono ?_
  rintro e w1 ⟨rfl, rfl⟩
  clear HH
  go_wp2_with fail
  refine (HD.out _).mono ?_
  rintro e w1 ⟨rfl, rfl⟩
  clear HD
  go_wp2_with fail
  refine (HN.out _ HG.out).mono ?_
  rintro e w3 ⟨rfl, b3⟩
  have HX3 := (show Hid (BX w w3 tk0 0 0) from HX.out.below b3)
  clear b3 HX HN HG
  obtain ⟨f0, f1', f2', f3, f4, f5, f6, f7, f8, g0, g1⟩ := HX3.out.fz
  obtain ⟨c0, c1, c2, c3, c4, c5, c6, c7, c8, d0, d1⟩ := HX3.out.cells
  generalize pctP s b = r at *
  cases r with
  | inl t =>
    unfold tokP
    go_wp2_with fail
    have HP := HX3.out.put t 0 0
    exact ret_bx rfl rfl rfl rfl HP ⟨by rw [HE.out]; rfl, HP.b⟩
  | inr q =>
    unfold tokP
    go_wp2_with fail
    have HP := HX3.out.put tk0 q.1 q.2
    exact ret_bx rfl rfl rfl rfl HP ⟨by rw [HE.out]; rfl, HP.b⟩
set_option maxRecDepth 100000 in
set_option maxHeartbeats 8000000 in
theorem rt_sgn (s : ByteArray) (b : Nat) (hs : s.size ≤ 65536) (hb : b < s.size) (h : hdB (chr s b) = false) (h2 : dgB (chr s b) = false) (h3 : ¬ chr s b = 39) (h4 : ¬ chr s b = 34) (h5 : ¬ chr s b = 91) (h6 : ¬ chr s b = 37) (w : World) (hg : SG w) : Calls Tryz.prog 88 #[.string s, .int .i64 b] w fun e w' => e = .returned (tokP (oneP s b)) ∧ Below w.heap.size w w' := by
  have HX := (show Hid (BX w ((w.alloc (tkO tk0)).alloc (fxO 0 0)) tk0 0 0) from BX.new w)
  have HG := (show Hid (SG ((w.alloc (tkO tk0)).alloc (fxO 0 0))) from (hg.later (below_box _ _)).later (below_box _ _))
  have hc := chr_in hb
  have HH : Hid (∀ w, Calls Tryz.prog 110 #[.int .u8 (s[b].toNat : Int)] w fun e w' => e = .returned (.bool (hdB (chr s b))) ∧ w' = w) := fun w => by rw [hc]; exact pbegins_any _ w
  have HD : Hid (∀ w, Calls Tryz.prog 112 #[.int .u8 (s[b].toNat : Int)] w fun e w' => e = .returned (.bool (dgB (chr s b))) ∧ w' = w) := fun w => by rw [hc]; exact pdigit_any _ w
  have z0 : (0 : Int) ≤ (b : Int) := by omega
  have z1 : (b : Int) < (s.size : Int) := by omega
  clear hg
  have HN : Hid (∀ w, SG w → Calls Tryz.prog 117 #[.string s, .int .i64 b] w fun e w' => e = .returned (tokP (sigP s b)) ∧ Below w.heap.size w w') := fun w g => readSign_any s b (by omega) (by omega) w g
  have HE : Hid (oneP s b = sigP s b) := by show oneP s b = _; unfold oneP; rw [if_neg (by rw [h]; decide), if_neg (by rw [h2]; decide), if_neg (by omega), if_neg h5, if_neg h6]
  rw [h] at HH
  rw [h2] at HD
  have v1 : ((s[b].toNat : Int) == 39) = false := by rw [← hc, beq_eq_false_iff_ne]; omega
  have v2 : ((s[b].toNat : Int) == 34) = false := by rw [← hc, beq_eq_false_iff_ne]; omega
  have v3 : ((s[b].toNat : Int) == 91) = false := by rw [← hc, beq_eq_false_iff_ne]; exact h5
  have v4 : ((s[b].toNat : Int) == 37) = false := by rw [← hc, beq_eq_false_iff_ne]; exact h6
  clear h3 h4 h5 h6
  clear hc h h2 
  go_enter Tryz.func88, Tryz.ntmps88
  go_wp2_with fail
  refine (HH.out _).mono ?_
  rintro e w1 ⟨rfl, rfl⟩
  clear HH
  go_wp2_with fail
  refine (HD.out _).mono ?_
  rintro e w1 ⟨rfl, rfl⟩
  clear HD
  go_wp2_with fail
  refine (HN.out _ HG.out).mono ?_
  rintro e w3 ⟨rfl, b3⟩
  have HX3 := (show Hid (BX w w3 tk0 0 0) from HX.out.below b3)
  clear b3 HX HN HG
  obtain ⟨f0, f1', f2', f3, f4, f5, f6, f7, f8, g0, g1⟩ := HX3.out.fz
  obtain ⟨c0, c1, c2, c3, c4, c5, c6, c7, c8, d0, d1⟩ := HX3.out.cells
  generalize sigP s b = r at *
  cases r with
  | inl t =>
    unfold tokP
    go_wp2_with fail
    have HP := HX3.out.put t 0 0
    exact ret_bx rfl rfl rfl rfl HP ⟨by rw [HE.out]; rfl, HP.b⟩
  | inr q =>
    unfold tokP
    go_wp2_with fail
    have HP := HX3.out.put tk0 q.1 q.2
    exact ret_bx rfl rfl rfl rfl HP ⟨by rw [HE.out]; rfl, HP.b⟩
theorem readToken_any (s : ByteArray) (b : Nat) (hs : s.size ≤ 65536) (hb : b < s.size) (w : World) (hg : SG w) : Calls Tryz.prog 88 #[.string s, .int .i64 b] w fun e w' => e = .returned (tokP (oneP s b)) ∧ Below w.heap.size w w' := by
  cases h : hdB (chr s b) with
  | true => exact rt_name s b hs hb h w hg
  | false =>
    cases h2 : dgB (chr s b) with
    | true => exact rt_num s b hs hb h h2 w hg
    | false =>
      by_cases h3 : chr s b = 39
      · exact rt_lit1 s b hs hb h h2 h3 w hg
      by_cases h4 : chr s b = 34
      · exact rt_lit2 s b hs hb h h2 h4 w hg
      by_cases h5 : chr s b = 91
      · exact rt_cls s b hs hb h h2 h5 w hg
      by_cases h6 : chr s b = 37
      · exact rt_pct s b hs hb h h2 h6 w hg
      · exact rt_sgn s b hs hb h h2 h3 h4 h5 h6 w hg
end Go.Proofs.YtnpifgcgjgddoaaGreatDoor

namespace Go.Proofs.YtnpifgcgjgddoaaGreatDoor
open Go.RowKit
theorem gpGo_fuel (s : ByteArray) : ∀ (f g i : Nat), s.size - i < f → s.size - i < g → gpGo s f i = gpGo s g i := by
  intro f
  induction f with
  | zero => intro g i h; omega
  | succ f ih =>
    intro g i h1 h2
    obtain ⟨g, rfl⟩ : ∃ k, g = k + 1 := ⟨g - 1, by omega⟩
    rw [gpGo, gpGo]
    by_cases hi : i < s.size
    · rw [if_pos hi, if_pos hi]
      by_cases hc : chr s i = 45 ∧ chr s (i + 1) = 45
      · rw [if_pos hc, if_pos hc]
        have h3 := (spN_next (P := lnB) (s := s) (i := i) (by decide) (by rw [hc.1]; rfl)).2
        have h4 := spN_ge lnB s (by decide) (i + 1)
        exact ih g _ (by omega) (by omega)
      · rw [if_neg hc, if_neg hc]
        by_cases hb : chr s i = 9 ∨ chr s i = 10 ∨ chr s i = 13 ∨ chr s i = 32
        · rw [if_pos hb, if_pos hb]
          exact ih g _ (by omega) (by omega)
        · rw [if_neg hb, if_neg hb]
    · rw [if_neg hi, if_neg hi]
theorem gapN_unf (s : ByteArray) (i : Nat) : gapN s i = if i < s.size then (if chr s i = 45 ∧ chr s (i + 1) = 45 then gapN s (spN lnB s i) else if chr s i = 9 ∨ chr s i = 10 ∨ chr s i = 13 ∨ chr s i = 32 then gapN s (i + 1) else i) else i := by
  show gpGo s (s.size + 1) i = _
  rw [gpGo]
  by_cases hi : i < s.size
  · rw [if_pos hi, if_pos hi]
    by_cases hc : chr s i = 45 ∧ chr s (i + 1) = 45
    · rw [if_pos hc, if_pos hc]
      have h3 := (spN_next (P := lnB) (s := s) (i := i) (by decide) (by rw [hc.1]; rfl)).2
      have h4 := spN_ge lnB s (by decide) (i + 1)
      exact gpGo_fuel s _ _ _ (by omega) (by omega)
    · rw [if_neg hc, if_neg hc]
      by_cases hb : chr s i = 9 ∨ chr s i = 10 ∨ chr s i = 13 ∨ chr s i = 32
      · rw [if_pos hb, if_pos hb]
        exact gpGo_fuel s _ _ _ (by omega) (by omega)
      · rw [if_neg hb, if_neg hb]
  · rw [if_neg hi, if_neg hi]
theorem blB_iff {c : Int} : blB c = true ↔ (c = 9 ∨ c = 10 ∨ c = 13 ∨ c = 32) := by
  unfold blB
  simp [Bool.or_eq_true, or_assoc]
theorem gapN_blanks (s : ByteArray) : ∀ (d i : Nat), s.size - i = d → gapN s (spN blB s i) = gapN s i := by
  intro d
  induction d with
  | zero =>
    intro i hi
    rw [spN_stop (by rw [chr_out (by omega)]; rfl)]
  | succ d ih =>
    intro i hi
    cases h : blB (chr s i) with
    | false => rw [spN_stop h]
    | true =>
      obtain ⟨h1, h2⟩ := spN_next (by decide) h
      have h3 := blB_iff.1 h
      rw [h2, ih (i + 1) (by omega), gapN_unf s i, if_pos h1, if_neg (by omega), if_pos h3]
/-- Behind the blanks: the end, a comment, or the place. -/
theorem gapN_end {s : ByteArray} {i : Nat} (h : spN blB s i = s.size) : gapN s i = s.size := by
  rw [← gapN_blanks s _ i rfl, h, gapN_unf, if_neg (by omega)]
theorem gapN_note {s : ByteArray} {i : Nat} (h : chr s (spN blB s i) = 45) (h2 : chr s (spN blB s i + 1) = 45) : gapN s i = gapN s (spN lnB s (spN blB s i)) ∧ spN blB s i < spN lnB s (spN blB s i) := by
  have h3 := spN_next (P := lnB) (s := s) (i := spN blB s i) (by decide) (by rw [h]; rfl)
  have h4 := spN_ge lnB s (by decide) (spN blB s i + 1)
  refine ⟨?_, by omega⟩
  rw [← gapN_blanks s _ i rfl, gapN_unf, if_pos h3.1, if_pos ⟨h, h2⟩]
theorem gapN_here {s : ByteArray} {i : Nat} (h : spN blB s i < s.size) (h2 : ¬ (chr s (spN blB s i) = 45 ∧ chr s (spN blB s i + 1) = 45)) : gapN s i = spN blB s i := by
  have hb : blB (chr s (spN blB s i)) = false := (spN_spec blB s (by decide) _ i rfl).2.2.1
  have h3 : ¬ (chr s (spN blB s i) = 9 ∨ chr s (spN blB s i) = 10 ∨ chr s (spN blB s i) = 13 ∨ chr s (spN blB s i) = 32) := fun q => by rw [blB_iff.2 q] at hb; cases hb
  rw [← gapN_blanks s _ i rfl, gapN_unf, if_pos h, if_neg h2, if_neg h3]
end Go.Proofs.YtnpifgcgjgddoaaGreatDoor

namespace Go.Proofs.YtnpifgcgjgddoaaGreatDoor.N
open Go.RowKit
/-- The first rule that is too large, by where it begins. -/
def szGo (E : PE) (z : Nat) : Nat → List Rl → Option (Int × Int)
  | _, [] => none
  | all, r :: rs => if (T.ck r.2.2).2 ≠ 0 then some (plA E z r.1, (T.ck r.2.2).2) else if 2048 < all + r.2.2.length then some (plA E z r.1, 2) else szGo E z (all + r.2.2.length) rs
def szR (E : PE) (z : Nat) (rs : List Rl) : Option (Int × Int) := match rs[200]? with
  | some r => some (plA E z r.1, 2)
  | none => szGo E z 0 rs
/-- The tokens, with what layers 3 and 4 say. -/
def mkE (l : List Tk) : PE := ⟨l, rnP, T.tmB⟩
/-- What becomes of rules that were read. -/
def fin (E : PE) (z : Nat) (r : Sum (List Rl) (Nat × Int)) : Sum (List (ByteArray × List Nd)) (Int × Int) := match r with
  | .inr q => .inr (plA E z q.1, q.2)
  | .inl rs => match szR E z rs with
    | some p => .inr p
    | none => .inl (rs.map fun r => r.2)
/-- A pattern alone. -/
def alN (E : PE) : Sum (List Rl) (Nat × Int) := match exN E 0 with
  | .inr q => .inr q
  | .inl p => if p.1 < E.l.length then .inr (p.1, 60) else .inl [(0, ⟨#[]⟩, p.2)]
/-- What Pattern answers. -/
def paR (s : ByteArray) : Sum (List (ByteArray × List Nd)) (Int × Int) := match lexR (oneP s) s with
  | .inr q => .inr (q.1, q.2)
  | .inl l => fin (mkE l) s.size (alN (mkE l))
end Go.Proofs.YtnpifgcgjgddoaaGreatDoor.N

namespace Go.Proofs.YtnpifgcgjgddoaaGreatDoor
open Go.RowKit
/-- What Lex answers. -/
def LxP (w w' : World) (r : Sum (List Tk) (Nat × Int)) (e : Ending) : Prop := match r with
  | .inr q => e = .returned (.tuple #[.slice none 0 0, .agg #[.int .i64 q.1, .int .i64 q.2]])
  | .inl l => ∃ v, e = .returned (.tuple #[v, .agg #[.int .i64 0, .int .i64 0]]) ∧ w'.ownsRow w.heap.size 115 9 v l.length (tkc l)
/-- Between two tokens. -/
structure AtY (w W : World) (s : ByteArray) (v : Value) (out : List Tk) (i f : Nat) : Prop where
  b : Below w.heap.size w W
  x : FX W w.heap.size 0 0
  g : SG W
  o : W.ownsRow w.heap.size 115 9 v out.length (tkc out)
  hi : i ≤ s.size
  hf : s.size < f + gapN s i
  he : lexGo (oneP s) s f out (gapN s i) = lexR (oneP s) s
  hl : out.length ≤ i
theorem own_stF {W : World} {B n b : Nat} {v : Value} {xs : List Value} {p q : Int} (h : W.ownsRow B 115 9 v n xs) (hx : FX W b p q) (p' q' : Int) : (stF W b p' q').ownsRow B 115 9 v n xs := by
  refine ⟨h.1, ?_⟩
  rcases h.2 with hn | ⟨g, cap, cur, rfl, hB, hgg, rest⟩
  · exact .inl hn
  · refine .inr ⟨g, cap, cur, rfl, hB, ?_, rest⟩
    have hne : g ≠ b := by
      rintro rfl
      rw [hx.heap] at hgg
      injection hgg with h1
      injection h1 with h2 h3
      cases h3
    rw [stF_other p' q' hne]
    exact hgg
theorem own_ne {W : World} {B n b : Nat} {v : Value} {xs : List Value} {p q : Int} (h : W.ownsRow B 115 9 v n xs) (hx : FX W b p q) : v.ownBlock ≠ some b := by
  rcases h.2 with ⟨rfl, _⟩ | ⟨g, cap, cur, rfl, hB, hgg, rest⟩
  · intro q; cases q
  · intro q
    cases q
    rw [hx.heap] at hgg
    injection hgg with h1
    injection h1 with h2 h3
    cases h3
theorem FX.grown {W W' : World} {b : Nat} {p e : Int} {row : Option Nat} (h : FX W b p e) (hg : W.grownBy W' row) (hne : row ≠ some b) : FX W' b p e := ⟨(hg.block b h.lt (fun e => hne e.symm)).trans h.heap⟩
theorem stF_below {B : Nat} {w W : World} {b : Nat} (h : Below B w W) (hb : B ≤ b) (p q : Int) : Below B w (stF W b p q) := (h.setCell (p := ⟨b, 0, none⟩) hb _).setCell (p := ⟨b, 1, none⟩) hb _
theorem ret_lx {fn : Func} {R : Ending → World → Prop} {a : Act} {W : World} {b : Nat} {p e : Int} {v : Value} (hF : fn.results = #[.tmp 2, .cell 3 39]) (hd : a.defers = []) (h2 : a.tmps.getD 2 undef = v) (h3 : a.tmps.getD 3 undef = .pointer (some ⟨b, 0, none⟩)) (hT : FX W b p e) (hR : R (.returned (.tuple #[v, .agg #[.int .i64 p, .int .i64 e]])) W) : bodyPost Tryz.prog fn R .ret a W := by
  have c0 := hT.c0
  have c1 := hT.c1
  refine bodyPost_ret (v := .tuple #[v, .agg #[.int .i64 p, .int .i64 e]]) ?_ hd hR
  simp only [Array.getD_eq_getD_getElem?] at h2 h3
  simp [results, hF, go_sem, h2, h3, c0, c1]
set_option maxRecDepth 100000 in
set_option maxHeartbeats 8000000 in
theorem lexP_of (s : ByteArray) (hs : s.size ≤ 65536)
    (H2 : ∀ b t, b < s.size → oneP s b = .inl t → ∃ e : Nat, t.en = e ∧ b < e ∧ e ≤ s.size) (H3 : ∀ b q, oneP s b = .inr q → q.2 ≠ 0) (w : World) (hg : SG w) :
    Calls Tryz.prog 61 #[.string s] w fun e w' => LxP w w' (lexR (oneP s) s) e ∧ Below w.heap.size w w' := by
  have t1 : ¬ (65536 : Int) < (s.size : Int) := by omega
  obtain ⟨i0, hinf, hz0, hz1, hz2⟩ := info_parts Tryz.info36
  have HB : Hid (∀ k w, k ≤ s.size → Calls Tryz.prog 85 #[.string s, .int .i64 ((k : Nat) : Int)] w fun e w' => e = .returned (.int .i64 (spN blB s k)) ∧ w' = w) := fun k w hk => blanks_any s k (by omega) hk w
  have HLn : Hid (∀ k w, k ≤ s.size → Calls Tryz.prog 87 #[.string s, .int .i64 ((k : Nat) : Int)] w fun e w' => e = .returned (.int .i64 (spN lnB s k)) ∧ w' = w) := fun k w hk => lineEnd_any s k (by omega) hk w
  have HS : Hid (∀ k w, k ≤ s.size → Calls Tryz.prog 86 #[.string s, .int .i64 ((k : Nat) : Int), .string ⟨#[45, 45]⟩] w fun e w' => e = .returned (.bool (pfx s k [45, 45])) ∧ w' = w) := fun k w hk => stands_any s k ⟨#[45, 45]⟩ hk w
  have HO : Hid (∀ b w, b < s.size → SG w → Calls Tryz.prog 88 #[.string s, .int .i64 ((b : Nat) : Int)] w fun e w' => e = .returned (tokP (oneP s b)) ∧ Below w.heap.size w w') := fun b w hb g => readToken_any s b hs hb w g
  have HE := (show Hid ((∀ b t, b < s.size → oneP s b = .inl t → ∃ e : Nat, t.en = e ∧ b < e ∧ e ≤ s.size) ∧ ∀ b q, oneP s b = .inr q → q.2 ≠ 0) from ⟨H2, H3⟩)
  have HG0 := (show Hid (SG w) from hg)
  have H0 := (show Hid (AtY w (w.alloc (fxO 0 0)) s (.slice none 0 0) [] 0 (s.size + 1)) from
    ⟨below_box _ _, ⟨heap_alloc_new w _⟩, hg.later (below_box _ _), World.ownsRow_nil _ _ _ _, by omega, by have := (gapN_bd (s := s) (i := 0) (by omega)).1; omega, by unfold lexR; rw [if_neg (by omega)], Nat.le_refl _⟩)
  clear H2 H3 hg
  go_enter Tryz.func61, Tryz.ntmps61
  go_wp2_with fail
  refine wp_scope_again 2 0 (fun a' W => ∃ (out : List Tk) (i f : Nat) (v u6 u7 u8 u9 u10 u11 u12 u13 u14 u15 u16 u17 u18 u19 u20 u21 u22 u23 u24 u25 u26 u27 u28 u29 u30 u31 u32 u33 u34 u35 u36 u37 u38 u39 u40 u41 u42 u43 u44 : Value), a' = { tmps := #[.string s, undef, .slice none 0 0, .pointer (some ⟨w.heap.size, 0, none⟩), v, .int .i64 i, u6, u7, u8, u9, u10, u11, u12, u13, u14, u15, u16, u17, u18, u19, u20, u21, u22, u23, u24, u25, u26, u27, u28, u29, u30, u31, u32, u33, u34, u35, u36, u37, u38, u39, u40, u41, u42, u43, u44], defers := [] } ∧ Hid (AtY w W s v out i f)) (fun a' _ => s.size - (intOf (a'.tmps.getD 5 undef)).toNat) rfl ?_ ?_
  case refine_2 =>
    rintro a' W ⟨out, i, f, v, u6, u7, u8, u9, u10, u11, u12, u13, u14, u15, u16, u17, u18, u19, u20, u21, u22, u23, u24, u25, u26, u27, u28, u29, u30, u31, u32, u33, u34, u35, u36, u37, u38, u39, u40, u41, u42, u43, u44, rfl, HW⟩
    clear H0
    have hi := HW.out.hi
    have hf := HW.out.hf
    have hol := HW.out.hl
    have hge := spN_ge blB s (by decide) i
    have hle := spN_le blB s (by decide) i hi
    have HBi := (show Hid _ from fun w => HB.out i w hi)
    have HSi := (show Hid _ from fun w => HS.out (spN blB s i) w hle)
    have HLi := (show Hid _ from fun w => HLn.out (spN blB s i) w hle)
    have HGe := (show Hid (spN blB s i = s.size → gapN s i = s.size) from fun h => gapN_end h)
    have HGn := (show Hid (chr s (spN blB s i) = 45 → chr s (spN blB s i + 1) = 45 → gapN s i = gapN s (spN lnB s (spN blB s i)) ∧ spN blB s i < spN lnB s (spN blB s i)) from fun a b => gapN_note a b)
    have HGh := (show Hid (spN blB s i < s.size → ¬ (chr s (spN blB s i) = 45 ∧ chr s (spN blB s i + 1) = 45) → gapN s i = spN blB s i) from fun a b => gapN_here a b)
    have hle2 := spN_le lnB s (by decide) (spN blB s i) hle
    generalize hp : spN blB s i = p at *
    clear HB HS HLn hp
    by_cases hend : p = s.size
    · have HV : Hid (lexR (oneP s) s = .inl out) := by
        show lexR (oneP s) s = _
        rw [← HW.out.he, HGe.out hend]
        obtain ⟨f, rfl⟩ : ∃ g, f = g + 1 := ⟨f - 1, by have := HGe.out hend; omega⟩
        rw [lexGo, if_neg (by omega)]
      have v1 : ((p : Int) == (s.size : Int)) = true := by rw [hend]; exact beq_self_eq_true _
      have f0 := HW.out.x.f0
      have f1' := HW.out.x.f1
      have c0 := HW.out.x.c0
      have c1 := HW.out.x.c1
      clear HSi HLi HGe HGn HGh HO HE hend
      go_wp2_with fail
      refine (HBi.out _).mono ?_
      rintro e W ⟨rfl, rfl⟩
      clear HBi
      go_wp2_with fail
      refine ret_lx rfl rfl rfl rfl (stF_fx HW.out.x 0 0) ⟨?_, stF_below HW.out.b (Nat.le_refl _) 0 0⟩
      rw [HV.out]
      exact ⟨v, rfl, own_stF HW.out.o HW.out.x 0 0⟩
    have v1 : ((p : Int) == (s.size : Int)) = false := by rw [beq_eq_false_iff_ne]; omega
    have hplt : p < s.size := by omega
    by_cases hn : chr s p = 45 ∧ chr s (p + 1) = 45
    · obtain ⟨hg1, hg2⟩ := HGn.out hn.1 hn.2
      have hpf : pfx s p [45, 45] = true := by
        show (chr s p == 45 && (chr s (p + 1) == 45 && true)) = true
        rw [hn.1, hn.2]; rfl
      rw [hpf] at HSi
      generalize spN lnB s p = q at *
      have HW2 := (show Hid (AtY w W s v out q f) from ⟨HW.out.b, HW.out.x, HW.out.g, HW.out.o, hle2, by have := HW.out.hf; rw [hg1] at this; exact this, by rw [← hg1]; exact HW.out.he, by have := HW.out.hl; omega⟩)
      clear HGe HGn HGh HO HE hend hn hg1 hpf HW
      go_wp2_with fail
      refine (HBi.out _).mono ?_
      rintro e W ⟨rfl, rfl⟩
      clear HBi
      go_wp2_with fail
      refine (HSi.out _).mono ?_
      rintro e W ⟨rfl, rfl⟩
      clear HSi
      go_wp2_with fail
      go_step3
      simp (config := { zetaDelta := true }) only [then_goto, inBlock_goto]
      refine Kj_on rfl ?_
      go_wp2_with fail
      refine (HLi.out _).mono ?_
      rintro e W ⟨rfl, rfl⟩
      clear HLi
      go_wp2_with fail
      go_step3
      simp (config := { zetaDelta := true }) only [then_goto]
      refine Kj_back ⟨⟨out, q, f, v, _, _, _, _, _, _, _, _, _, _, _, _, _, _, _, _, _, _, _, _, _, _, _, _, _, _, _, _, _, _, _, _, _, _, _, _, _, _, _, rfl, HW2⟩, ?_⟩
      simp [intOf]
      omega
    · have hg1 := HGh.out hplt hn
      have hpf : pfx s p [45, 45] = false := by
        show (chr s p == 45 && (chr s (p + 1) == 45 && true)) = false
        by_cases h1 : chr s p = 45
        · have h2 : ¬ chr s (p + 1) = 45 := fun q => hn ⟨h1, q⟩
          rw [beq_eq_false_iff_ne.2 h2]; simp
        · rw [beq_eq_false_iff_ne.2 h1]; rfl
      rw [hpf] at HSi
      have HOp := (show Hid (∀ w, SG w → Calls Tryz.prog 88 #[.string s, .int .i64 ((p : Nat) : Int)] w fun e w' => e = .returned (tokP (oneP s p)) ∧ Below w.heap.size w w') from fun w g => HO.out p w hplt g)
      obtain ⟨f, rfl⟩ : ∃ g, f = g + 1 := ⟨f - 1, by omega⟩
      have HU : Hid (lexR (oneP s) s = match oneP s p with
        | .inr q => .inr q
        | .inl t => lexGo (oneP s) s f (out ++ [t]) (gapN s t.en.toNat)) := by show lexR (oneP s) s = _; rw [← HW.out.he, lexGo, hg1, if_pos hplt]; cases oneP s p <;> rfl
      cases ho : oneP s p with
      | inr q =>
        have hne := HE.out.2 p q ho
        have HV : Hid (lexR (oneP s) s = .inr q) := by show lexR (oneP s) s = _; rw [HU.out, ho]
        rw [ho] at HOp
        have t3 : (q.2 != 0) = true := by rw [bne, beq_eq_false_iff_ne.2 hne]; rfl
        clear HGe HGn HGh HO HE hend hn hg1 hpf HLi HU ho hne
        go_wp2_with fail
        refine (HBi.out _).mono ?_
        rintro e W ⟨rfl, rfl⟩
        clear HBi
        go_wp2_with fail
        refine (HSi.out _).mono ?_
        rintro e W ⟨rfl, rfl⟩
        clear HSi
        go_wp2_with fail
        go_step3
        simp (config := { zetaDelta := true }) only [then_goto, inBlock_goto]
        refine Kj_on rfl ?_
        go_wp2_with fail
        refine (HOp.out _ HW.out.g).mono ?_
        rintro e w3 ⟨rfl, b3⟩
        have HB5 := (show Hid (Below w.heap.size w ((w3.alloc (tkO tk0)).alloc (fxO q.1 q.2)) ∧ FX ((w3.alloc (tkO tk0)).alloc (fxO q.1 q.2)) w.heap.size 0 0 ∧ FX ((w3.alloc (tkO tk0)).alloc (fxO q.1 q.2)) (w3.heap.size + 1) q.1 q.2) from
          ⟨(((HW.out.b.trans (b3.mono HW.out.b.size)).alloc (Nat.le_trans HW.out.b.size b3.size) _).alloc (by rw [World.size_alloc]; have := HW.out.b.size; have := b3.size; omega) _), ((HW.out.x.below b3).below (below_box _ _)).below (below_box _ _), ⟨by
            have h := heap_alloc_new (w3.alloc (tkO tk0)) (fxO q.1 q.2)
            rw [World.size_alloc] at h
            exact h⟩⟩)
        have hlt3 := (HW.out.x.below b3).lt
        have ne1 : ¬ w3.heap.size + 1 = w.heap.size := by omega
        have ne2 : ¬ w.heap.size = w3.heap.size + 1 := by omega
        clear b3 HW HOp
        unfold tokP pairV
        go_wp2_with fail
        generalize (w3.alloc (tkO tk0)).alloc (fxO q.1 q.2) = w5 at *
        have f0 := HB5.out.2.1.f0
        have f1' := HB5.out.2.1.f1
        have c0 := HB5.out.2.1.c0
        have c1 := HB5.out.2.1.c1
        have k0 := HB5.out.2.2.c0
        have k1 := HB5.out.2.2.c1
        go_region
        all_goals
          go_wp2_with fail
          simp only [Kj_ret]
          refine ret_lx rfl rfl rfl rfl ((stF_fx HB5.out.2.1 q.1 q.2).below (Below.refl _ _).drew) ⟨?_, (stF_below HB5.out.1 (Nat.le_refl _) q.1 q.2).drew⟩
          rw [HV.out]
          exact rfl
      | inl t =>
        obtain ⟨en, he1, he2, he3⟩ := HE.out.1 p t hplt ho
        have HV : Hid (lexGo (oneP s) s f (out ++ [t]) (gapN s en) = lexR (oneP s) s) := by show _ = lexR (oneP s) s; rw [HU.out, ho]; show _ = lexGo (oneP s) s f (out ++ [t]) (gapN s t.en.toNat); rw [he1]; rfl
        have hgb := gapN_bd he3
        have HEn := (show Hid (t.en = (en : Int)) from he1)
        clear he1
        rw [ho] at HOp
        clear HGe HGn HGh HO HE hend hn hpf HLi HU ho
        go_wp2_with fail
        refine (HBi.out _).mono ?_
        rintro e W ⟨rfl, rfl⟩
        clear HBi
        go_wp2_with fail
        refine (HSi.out _).mono ?_
        rintro e W ⟨rfl, rfl⟩
        clear HSi
        go_wp2_with fail
        go_step3
        simp (config := { zetaDelta := true }) only [then_goto, inBlock_goto]
        refine Kj_on rfl ?_
        go_wp2_with fail
        refine (HOp.out _ HW.out.g).mono ?_
        rintro e w3 ⟨rfl, b3⟩
        have hO : w3.ownsRow w.heap.size 115 9 v out.length (tkc out) := ownB HW.out.o b3
        have HB3 := (show Hid (Below w.heap.size w w3 ∧ FX w3 w.heap.size 0 0 ∧ SG w3) from ⟨HW.out.b.trans (b3.mono HW.out.b.size), HW.out.x.below b3, HW.out.g.later b3⟩)
        have hs3 := HB3.out.1.size
        have HX := (show Hid (TX ((w3.alloc (tkO t)).alloc (fxO 0 0)) w3.heap.size t) from (TX.new w3 t).below (below_box _ _))
        clear b3 HOp HW
        unfold tokP pairV
        obtain ⟨c0, c1, c2, c3, c4, c5, c6, c7, c8⟩ := HX.out.cells
        go_wp2_with (at_builtin; refine wpList_append_lies _ rfl _ _ 111 rfl w.heap.size 115 i0 (tkG tk0) 9 80 Tryz.underlying111 hinf hz0 hz1 hz2 rfl (by decide) _ _ _ rfl (((hO.alloc _).alloc _).alloc _) ⟨w3.heap.size + 1 + 1, 0, none⟩ 1 1 (tkV t) rfl rfl ?c1 (tk_one _) (by decide) ?c3 ?c4 ?c5 (w3.heap.size + 1 + 1 + 1) (by simp) ?_)
        case c1 =>
          have hh := heap_alloc_new ((w3.alloc (tkO t)).alloc (fxO 0 0)) (.cells (tkC t) 115)
          rw [World.size_alloc, World.size_alloc] at hh
          exact World.news_of_block (cs := tkC t) (t := 115) (fr := (0, 0)) hh
        case c3 => unfold maxLen; omega
        case c4 => omega
        case c5 => first | omega | (simp; omega)
        intro g3 cap w4 hown hgrow hat _
        have hgo : ∀ k, v.ownBlock = some k → w.heap.size ≤ k ∧ k < w3.heap.size := fun k e => hO.lt k e
        have hne4 := own_ne hO HB3.out.2.1
        have HX4 := (show Hid (TX w4 w3.heap.size t) from (HX.out.below (below_box _ _)).grown hgrow (fun e => by have := (hgo _ e).2; omega))
        have hb4 : Below w.heap.size w w4 := (((HB3.out.1.alloc hs3 _).alloc (by rw [World.size_alloc]; omega) _).alloc (by rw [World.size_alloc, World.size_alloc]; omega) _).grown hgrow (by rw [World.size_alloc, World.size_alloc, World.size_alloc]; omega) (fun k e => (hgo k e).1)
        have HW4 := (show Hid (AtY w w4 s (.slice (some ⟨g3, 0, none⟩) (out.length + 1) cap) (out ++ [t]) en f) from by
          refine ⟨hb4, (((HB3.out.2.1.below (below_box _ _)).below (below_box _ _)).below (below_box _ _)).grown hgrow hne4, HG0.out.below hb4 HG0.out.lt, ?_, he3, by rw [hg1] at hf; omega, HV.out, by rw [List.length_append, List.length_singleton]; omega⟩
          rw [List.length_append, List.length_singleton, tkc_append, tkc_one]
          exact hown)
        have e3 := HX4.out.cells.c3
        rw [HEn.out] at e3
        clear hown hgrow hat hgo hO HB3 HX HV c0 c1 c2 c3 c4 c5 c6 c7 c8 hne4 hb4 HX4
        go_wp2_with fail
        go_step3
        simp (config := { zetaDelta := true }) only []
        refine Kj_back ⟨⟨out ++ [t], en, f, _, _, _, _, _, _, _, _, _, _, _, _, _, _, _, _, _, _, _, _, _, _, _, _, _, _, _, _, _, _, _, _, _, _, _, _, _, _, _, _, rfl, HW4⟩, ?_⟩
        simp [intOf]
        omega
  case refine_1 =>
    intro hpass
    have HPs := (show Hid _ from hpass)
    clear hpass
    go_wp2_with fail
    go_step3
    rename_i hK
    refine hK _ _ ?_
    refine HPs.out _ _ ?_
    exact ⟨[], 0, s.size + 1, .slice none 0 0, _, _, _, _, _, _, _, _, _, _, _, _, _, _, _, _, _, _, _, _, _, _, _, _, _, _, _, _, _, _, _, _, _, _, _, _, _, _, _, rfl, H0⟩
set_option maxRecDepth 100000 in
set_option maxHeartbeats 8000000 in
theorem lexP_long (s : ByteArray) (hs : 65536 < s.size) (w : World) : Calls Tryz.prog 61 #[.string s] w fun e w' => LxP w w' (lexR (oneP s) s) e ∧ Below w.heap.size w w' := by
  have t1 : (65536 : Int) < (s.size : Int) := by omega
  have HE : Hid (lexR (oneP s) s = .inr (0, 2)) := by show lexR (oneP s) s = _; unfold lexR; rw [if_pos hs]
  go_enter Tryz.func61, Tryz.ntmps61
  go_wp2_with fail
  refine wp_scope_forth 1 0 rfl ?_
  go_wp2_with fail
  simp only [Kj_ret]
  refine ret_lx (b := w.heap.size) (p := 0) (e := 2) rfl rfl rfl rfl ⟨heap_alloc_new w _⟩ ⟨?_, below_box _ _⟩
  rw [HE.out]
  exact rfl
end Go.Proofs.YtnpifgcgjgddoaaGreatDoor
