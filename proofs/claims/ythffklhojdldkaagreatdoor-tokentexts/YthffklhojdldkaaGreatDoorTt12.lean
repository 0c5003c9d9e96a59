/- DERIVED. Plain mathematics and walks, laid together (12). -/
import Derived.Test.YthffklhojdldkaaGreatDoorRows
import Derived.WalkKit
import Derived.Maps.AppendAt
import Derived.ProofKit
import Derived.Lib.Builder
import Derived.RangeFuncBox
import Derived.Laws.OwnMore
import Derived.Test.YthffklhojdldkaaGreatDoorTt11
namespace Go.Proofs.YthffklhojdldkaaGreatDoor.Q
open Go.RowKit
theorem ret_bool {a b : Bool} (h : a = b) : Ending.returned (.bool a) = .returned (.bool b) := by rw [h]

/-- What checkPlace answers. -/
def cpE (s : ByteArray) (i : Int) : Int := if 65536 < s.size then 2 else if i < 0 ∨ (s.size : Int) < i then 1 else 0

set_option maxRecDepth 100000 in
set_option maxHeartbeats 1000000 in
theorem checkPlace_any (s : ByteArray) (i : Int) (w : World) :
    Calls Tryz.prog 102 #[.string s, .int .i64 i] w fun e w' => e = .returned (.int .i64 (cpE s i)) ∧ w' = w := by
  by_cases h : 65536 < s.size
  · have HE : Hid (cpE s i = 2) := (by show cpE s i = 2; unfold cpE; rw [if_pos h])
    have h1 : (65536 : Int) < (s.size : Int) := by omega
    go_enter Tryz.func102, Tryz.ntmps102
    go_wp2
    go_ret
    exact ⟨by rw [HE.out]; rfl, rfl⟩
  · have h1 : ¬ (65536 : Int) < (s.size : Int) := by omega
    by_cases h0 : i < 0
    · have HE : Hid (cpE s i = 1) := (by show cpE s i = 1; unfold cpE; rw [if_neg h, if_pos (.inl h0)])
      go_enter Tryz.func102, Tryz.ntmps102
      go_wp2
      go_ret
      exact ⟨by rw [HE.out]; rfl, rfl⟩
    · by_cases h2 : (s.size : Int) < i
      · have HE : Hid (cpE s i = 1) := (by show cpE s i = 1; unfold cpE; rw [if_neg h, if_pos (.inr h2)])
        go_enter Tryz.func102, Tryz.ntmps102
        go_wp2
        go_ret
        exact ⟨by rw [HE.out]; rfl, rfl⟩
      · have HE : Hid (cpE s i = 0) := (by show cpE s i = 0; unfold cpE; rw [if_neg h, if_neg (by omega)])
        go_enter Tryz.func102, Tryz.ntmps102
        go_wp2
        go_ret
        exact ⟨by rw [HE.out]; rfl, rfl⟩

def mkB (c : Int) : Bool := c == 39 || c == 34
set_option maxRecDepth 100000 in
set_option maxHeartbeats 1000000 in
theorem isMark_any (c : Int) (w : World) :
    Calls Tryz.prog 103 #[.int .u8 c] w fun e w' => e = .returned (.bool (mkB c)) ∧ w' = w := by
  by_cases h : c = 39
  · have HE : Hid (mkB c = true) := (by show mkB c = true; unfold mkB; rw [beq_iff_eq.2 h]; rfl)
    have e1 : (c == 39) = true := beq_iff_eq.2 h
    clear h
    go_enter Tryz.func103, Tryz.ntmps103
    go_wp2
    go_ret
    exact ⟨by rw [HE.out]; rfl, rfl⟩
  · have e1 : (c == 39) = false := beq_eq_false_iff_ne.2 h
    have HE : Hid (mkB c = (c == 34)) := (by show mkB c = (c == 34); unfold mkB; rw [e1]; rfl)
    clear h
    go_enter Tryz.func103, Tryz.ntmps103
    go_wp2
    go_ret
    exact ⟨by rw [HE.out]; rfl, rfl⟩

/-- The digits of 16. -/
abbrev digs : ByteArray := ⟨#[48, 49, 50, 51, 52, 53, 54, 55, 56, 57, 97, 98, 99, 100, 101, 102]⟩
theorem idx_hex (c : UInt8) : Lib.indexByte digs.data.toList c = hexV (c.toNat : Int) := by
  have key : ∀ n, n < 256 → Lib.indexByte digs.data.toList (UInt8.ofNat n) = hexV (n : Int) := by decide +kernel
  have := key c.toNat c.toNat_lt
  rw [UInt8.ofNat_toNat] at this
  exact this
theorem index_hex (c : UInt8) (w : World) : Calls Tryz.prog 101 #[.string digs, .int .u8 (c.toNat : Int)] w fun e w' => e = .returned (.int .i64 (hexV (c.toNat : Int))) ∧ w' = w := by
  refine (Tryz.strings_IndexByte digs (c.toNat : Int) w).mono ?_
  rintro e w' ⟨rfl, rfl⟩
  refine ⟨?_, rfl⟩
  rw [← idx_hex]
  simp

theorem ret_es {b b' : Int} {n : Nat} {n' : Int} (hb : b' = b) (hn : n' = n) : Ending.returned (.tuple #[.int .u8 b', .int .i64 n', .int .i64 0]) = .returned (esV (some (b, n))) := by rw [hb, hn]; rfl
theorem ret_by {b b' : Int} {n : Nat} {n' : Int} (hb : b' = b) (hn : n' = n) : Ending.returned (.tuple #[.int .u8 b', .int .i64 n', .int .i64 0]) = .returned (byV (.inl (b, n))) := by rw [hb, hn]; rfl

set_option maxRecDepth 100000 in
set_option maxHeartbeats 1000000 in
theorem readHex_any (s : ByteArray) (i : Nat) (hi : i + 1 < s.size) (hs : s.size ≤ 140737488355328) (w : World) :
    Calls Tryz.prog 137 #[.string s, .int .i64 i] w fun e w' => e = .returned (esV (rdHex s i)) ∧ w' = w := by
  by_cases h : i + 3 < s.size
  · have h2 : i + 2 < s.size := by omega
    have hb1 := hexV_bd (s[i + 2].toNat : Int)
    have hb2 := hexV_bd (s[i + 3].toNat : Int)
    have HE : Hid (rdHex s i = if 0 ≤ hexV (s[i + 2].toNat : Int) ∧ 0 ≤ hexV (s[i + 3].toNat : Int) then some (16 * hexV (s[i + 2].toNat : Int) + hexV (s[i + 3].toNat : Int), i + 4) else none) := (by show rdHex s i = _; unfold rdHex; rw [chr_in h, chr_in h2])
    have HI : Hid (∀ w, Calls Tryz.prog 101 #[.string digs, .int .u8 (s[i + 2].toNat : Int)] w fun e w' => e = .returned (.int .i64 (hexV (s[i + 2].toNat : Int))) ∧ w' = w) := fun w => index_hex _ w
    have HJ : Hid (∀ w, Calls Tryz.prog 101 #[.string digs, .int .u8 (s[i + 3].toNat : Int)] w fun e w' => e = .returned (.int .i64 (hexV (s[i + 3].toNat : Int))) ∧ w' = w) := fun w => index_hex _ w
    go_enter Tryz.func137, Tryz.ntmps137
    go_wp2_with fail
    refine (HI.out _).mono ?_
    rintro e w' ⟨rfl, rfl⟩
    clear HI
    go_wp2_with fail
    refine (HJ.out _).mono ?_
    rintro e w' ⟨rfl, rfl⟩
    clear HJ
    generalize hexV (s[i + 2].toNat : Int) = a at *
    generalize hexV (s[i + 3].toNat : Int) = b at *
    by_cases ha : 0 ≤ a
    · by_cases hb : 0 ≤ b
      · have hw8 : IntKind.u8.wrap (16 * a + b) = 16 * a + b := by rw [IntKind.wrap_u8']; omega
        go_wp2
        go_ret3
        exact ⟨by rw [HE.out, if_pos ⟨ha, hb⟩]; exact ret_es (by omega) (by omega), rfl⟩
      · go_wp2
        go_ret3
        exact ⟨by rw [HE.out, if_neg (fun h => by omega)]; rfl, rfl⟩
    · go_wp2
      go_ret3
      exact ⟨by rw [HE.out, if_neg (fun h => by omega)]; rfl, rfl⟩
  · have h1 : ¬ (i : Int) + 3 < (s.size : Int) := by omega
    have HE : Hid (rdHex s i = none) := (by show rdHex s i = none; unfold rdHex; rw [chr_out h]; rw [if_neg]; rintro ⟨_, h2⟩; simp [hexV] at h2)
    go_enter Tryz.func137, Tryz.ntmps137
    go_wp2
    go_ret3
    exact ⟨by rw [HE.out]; rfl, rfl⟩

set_option maxRecDepth 100000 in
set_option maxHeartbeats 2000000 in
theorem readEsc_any (s : ByteArray) (i : Nat) (hi : i < s.size) (hs : s.size ≤ 140737488355328) (w : World) :
    Calls Tryz.prog 134 #[.string s, .int .i64 i] w fun e w' => e = .returned (esV (rdEsc s i)) ∧ w' = w := by
  by_cases h : i + 1 < s.size
  · have HX : Hid (∀ w, Calls Tryz.prog 137 #[.string s, .int .i64 i] w fun e w' => e = .returned (esV (rdHex s i)) ∧ w' = w) := fun w => readHex_any s i h hs w
    have hb : (0 : Int) ≤ (s[i + 1].toNat : Int) ∧ (s[i + 1].toNat : Int) ≤ 255 := by have := s[i + 1].toNat_lt; omega
    have HE : Hid (rdEsc s i = if (s[i + 1].toNat : Int) = 110 then some (10, i + 2) else if (s[i + 1].toNat : Int) = 114 then some (13, i + 2) else if (s[i + 1].toNat : Int) = 116 then some (9, i + 2) else
  if (s[i + 1].toNat : Int) = 92 ∨ (s[i + 1].toNat : Int) = 39 ∨ (s[i + 1].toNat : Int) = 34 then some ((s[i + 1].toNat : Int), i + 2) else if (s[i + 1].toNat : Int) = 120 then rdHex s i else none) := (by show rdEsc s i = _; unfold rdEsc; rw [chr_in h])
    by_cases h110 : (s[i + 1].toNat : Int) = 110
    · have HF := (show Hid (rdEsc s i = some (10, i + 2)) from (by show rdEsc s i = _; rw [HE.out]; rw [if_pos h110]))
      clear HE HX
      have e110 : ((s[i + 1].toNat : Int) == 110) = true := beq_iff_eq.2 h110
      clear h110
      go_enter Tryz.func134, Tryz.ntmps134
      go_wp2
      go_ret3
      exact ⟨by rw [HF.out]; exact ret_es rfl (by omega), rfl⟩
    have e110 : ((s[i + 1].toNat : Int) == 110) = false := beq_eq_false_iff_ne.2 h110
    by_cases h114 : (s[i + 1].toNat : Int) = 114
    · have HF := (show Hid (rdEsc s i = some (13, i + 2)) from (by show rdEsc s i = _; rw [HE.out]; rw [if_neg h110, if_pos h114]))
      clear HE HX
      have e114 : ((s[i + 1].toNat : Int) == 114) = true := beq_iff_eq.2 h114
      clear h114
      go_enter Tryz.func134, Tryz.ntmps134
      go_wp2
      go_ret3
      exact ⟨by rw [HF.out]; exact ret_es rfl (by omega), rfl⟩
    have e114 : ((s[i + 1].toNat : Int) == 114) = false := beq_eq_false_iff_ne.2 h114
    by_cases h116 : (s[i + 1].toNat : Int) = 116
    · have HF := (show Hid (rdEsc s i = some (9, i + 2)) from (by show rdEsc s i = _; rw [HE.out]; rw [if_neg h110, if_neg h114, if_pos h116]))
      clear HE HX
      have e116 : ((s[i + 1].toNat : Int) == 116) = true := beq_iff_eq.2 h116
      clear h116
      go_enter Tryz.func134, Tryz.ntmps134
      go_wp2
      go_ret3
      exact ⟨by rw [HF.out]; exact ret_es rfl (by omega), rfl⟩
    have e116 : ((s[i + 1].toNat : Int) == 116) = false := beq_eq_false_iff_ne.2 h116
    by_cases hg : (s[i + 1].toNat : Int) = 92 ∨ (s[i + 1].toNat : Int) = 39 ∨ (s[i + 1].toNat : Int) = 34
    · have HF := (show Hid (rdEsc s i = some ((s[i + 1].toNat : Int), i + 2)) from (by show rdEsc s i = _; rw [HE.out]; rw [if_neg h110, if_neg h114, if_neg h116, if_pos hg]))
      clear HE HX h110 h114 h116
      rcases hg with hg | hg | hg
      · have e92 : ((s[i + 1].toNat : Int) == 92) = true := beq_iff_eq.2 hg
        clear hg
        go_enter Tryz.func134, Tryz.ntmps134
        go_wp2
        go_ret3
        exact ⟨by rw [HF.out]; exact ret_es rfl (by omega), rfl⟩
      · have e92 : ((s[i + 1].toNat : Int) == 92) = false := beq_eq_false_iff_ne.2 (by omega)
        have e39 : ((s[i + 1].toNat : Int) == 39) = true := beq_iff_eq.2 hg
        clear hg
        go_enter Tryz.func134, Tryz.ntmps134
        go_wp2
        go_ret3
        exact ⟨by rw [HF.out]; exact ret_es rfl (by omega), rfl⟩
      · have e92 : ((s[i + 1].toNat : Int) == 92) = false := beq_eq_false_iff_ne.2 (by omega)
        have e39 : ((s[i + 1].toNat : Int) == 39) = false := beq_eq_false_iff_ne.2 (by omega)
        have e34 : ((s[i + 1].toNat : Int) == 34) = true := beq_iff_eq.2 hg
        clear hg
        go_enter Tryz.func134, Tryz.ntmps134
        go_wp2
        go_ret3
        exact ⟨by rw [HF.out]; exact ret_es rfl (by omega), rfl⟩
    have e92 : ((s[i + 1].toNat : Int) == 92) = false := beq_eq_false_iff_ne.2 (by omega)
    have e39 : ((s[i + 1].toNat : Int) == 39) = false := beq_eq_false_iff_ne.2 (by omega)
    have e34 : ((s[i + 1].toNat : Int) == 34) = false := beq_eq_false_iff_ne.2 (by omega)
    by_cases h120 : (s[i + 1].toNat : Int) = 120
    · have HF := (show Hid (rdEsc s i = rdHex s i) from (by show rdEsc s i = _; rw [HE.out]; rw [if_neg h110, if_neg h114, if_neg h116, if_neg hg, if_pos h120]))
      have e120 : ((s[i + 1].toNat : Int) == 120) = true := beq_iff_eq.2 h120
      clear HE h110 h114 h116 h120 hg
      go_enter Tryz.func134, Tryz.ntmps134
      go_wp2_with fail
      refine (HX.out _).mono ?_
      rintro e w' ⟨rfl, rfl⟩
      cases hq : rdHex s i with
      | none =>
        rw [hq] at HF
        clear HX hq
        dsimp only [esV]
        go_wp2
        go_ret3
        exact ⟨by rw [HF.out]; rfl, rfl⟩
      | some q =>
        obtain ⟨qb, qn⟩ := q
        rw [hq] at HF
        clear HX hq
        dsimp only [esV]
        go_wp2
        go_ret3
        exact ⟨by rw [HF.out]; rfl, rfl⟩
    have e120 : ((s[i + 1].toNat : Int) == 120) = false := beq_eq_false_iff_ne.2 h120
    have HF := (show Hid (rdEsc s i = none) from (by show rdEsc s i = _; rw [HE.out]; rw [if_neg h110, if_neg h114, if_neg h116, if_neg hg, if_neg h120]))
    clear HE HX h110 h114 h116 h120 hg
    go_enter Tryz.func134, Tryz.ntmps134
    go_wp2
    go_ret3
    exact ⟨by rw [HF.out]; rfl, rfl⟩
  · have HE : Hid (rdEsc s i = none) := (by show rdEsc s i = none; unfold rdEsc; rw [chr_out h]; rfl)
    have h1 : ¬ (i : Int) + 1 < (s.size : Int) := by omega
    go_enter Tryz.func134, Tryz.ntmps134
    go_wp2
    go_ret3
    exact ⟨by rw [HE.out]; rfl, rfl⟩

set_option maxRecDepth 100000 in
set_option maxHeartbeats 2000000 in
theorem readByte_any (s : ByteArray) (i : Nat) (h : i < s.size) (hs : s.size ≤ 140737488355328) (w : World) :
    Calls Tryz.prog 124 #[.string s, .int .i64 i] w fun e w' => e = .returned (byV (rdByte s i)) ∧ w' = w := by
  have HX : Hid (∀ w, Calls Tryz.prog 134 #[.string s, .int .i64 i] w fun e w' => e = .returned (esV (rdEsc s i)) ∧ w' = w) := fun w => readEsc_any s i h hs w
  have hb : (0 : Int) ≤ (s[i].toNat : Int) ∧ (s[i].toNat : Int) ≤ 255 := by have := s[i].toNat_lt; omega
  have HE : Hid (rdByte s i = if (s[i].toNat : Int) = 92 then (match rdEsc s i with | none => .inr (i, 21) | some p => .inl p) else if (s[i].toNat : Int) < 32 ∨ (s[i].toNat : Int) = 127 then .inr (i, 22) else .inl ((s[i].toNat : Int), i + 1)) := (by show rdByte s i = _; unfold rdByte; rw [chr_in h]; rfl)
  by_cases h92 : (s[i].toNat : Int) = 92
  · have e92 : ((s[i].toNat : Int) == 92) = true := beq_iff_eq.2 h92
    have HF := (show Hid (rdByte s i = (match rdEsc s i with | none => .inr (i, 21) | some p => .inl p)) from (by show rdByte s i = _; rw [HE.out, if_pos h92]))
    clear HE h92
    go_enter Tryz.func124, Tryz.ntmps124
    go_wp2_with fail
    refine (HX.out _).mono ?_
    rintro e w' ⟨rfl, rfl⟩
    cases hq : rdEsc s i with
    | none =>
      rw [hq] at HF
      clear HX hq
      dsimp only [esV]
      go_wp2
      go_ret3
      exact ⟨by rw [HF.out]; rfl, rfl⟩
    | some q =>
      obtain ⟨qb, qn⟩ := q
      rw [hq] at HF
      clear HX hq
      dsimp only [esV]
      go_wp2
      go_ret3
      exact ⟨by rw [HF.out]; rfl, rfl⟩
  · have e92 : ((s[i].toNat : Int) == 92) = false := beq_eq_false_iff_ne.2 h92
    clear HX
    by_cases h32 : (s[i].toNat : Int) < 32
    · have HF := (show Hid (rdByte s i = .inr (i, 22)) from (by show rdByte s i = _; rw [HE.out, if_neg h92, if_pos (.inl h32)]))
      clear HE h92
      go_enter Tryz.func124, Tryz.ntmps124
      go_wp2
      go_ret3
      exact ⟨by rw [HF.out]; rfl, rfl⟩
    by_cases h127 : (s[i].toNat : Int) = 127
    · have HF := (show Hid (rdByte s i = .inr (i, 22)) from (by show rdByte s i = _; rw [HE.out, if_neg h92, if_pos (.inr h127)]))
      have e127 : ((s[i].toNat : Int) == 127) = true := beq_iff_eq.2 h127
      clear HE h92 h127
      go_enter Tryz.func124, Tryz.ntmps124
      go_wp2
      go_ret3
      exact ⟨by rw [HF.out]; rfl, rfl⟩
    · have HF := (show Hid (rdByte s i = .inl ((s[i].toNat : Int), i + 1)) from (by show rdByte s i = _; rw [HE.out, if_neg h92, if_neg (by omega)]))
      have e127 : ((s[i].toNat : Int) == 127) = false := beq_eq_false_iff_ne.2 h127
      clear HE h92 h127
      go_enter Tryz.func124, Tryz.ntmps124
      go_wp2
      go_ret3
      exact ⟨by rw [HF.out]; exact ret_by rfl (by omega), rfl⟩
end Go.Proofs.YthffklhojdldkaaGreatDoor.Q

namespace Go.Proofs.YthffklhojdldkaaGreatDoor.Q
open Go.RowKit
theorem Tryz.info5 : (Tryz.prog.info? 5).map (fun i => (i.zero, i.size, i.bytes)) = some (some (.int .u8 0), 1, 1) := by kernel_rfl

/-- A row that the call owns, behind a call that turned nothing of what was there. -/
theorem own_below {w w' : World} {base e size : Nat} {v : Value} {n : Nat} {xs : List Value} (h : w.ownsRow base e size v n xs) (hb : Below w.heap.size w w') : w'.ownsRow base e size v n xs := by
  refine h.kept (row := none) ⟨hb.os, hb.tape, hb.output, hb.size, fun k hk _ => hb.block k hk⟩ ?_
  cases h2 : v.ownBlock
  · exact .inl rfl
  · exact .inr (by simp)

/-- The text of a row of bytes that the call owns. -/
theorem text_own {w : World} {base : Nat} {v : Value} {l : List Int} (h : w.ownsRow base 5 1 v l.length (l.map (Value.int .u8))) :
    (convert 48 9 v).run Tryz.prog w = .ok (.string (asText l)) w := by
  have hc := h
  obtain ⟨hlen, h2⟩ := h
  rcases h2 with ⟨rfl, hn⟩ | ⟨g, cap, cur, rfl, _⟩
  · obtain rfl : l = [] := List.eq_nil_of_length_eq_zero hn
    rw [run_convert_bytes_string w 48 9 5 _ _ _ Tryz.underlying48 Tryz.underlying5 Tryz.underlying9]
    rfl
  · rw [run_convert_bytes_string w 48 9 5 _ _ _ Tryz.underlying48 Tryz.underlying5 Tryz.underlying9]
    refine run_bytesToString w ⟨g, 0, none⟩ l.length cap l ?_
    have := run_loadCells_list (P := Tryz.prog) (w := w) ⟨g, 0, none⟩ (l.map (Value.int .u8)) (hc.cells rfl)
    rwa [List.length_map] at this

/-- A box with a fault. -/
structure FHolds (w : World) (b : Nat) (p q : Int) : Prop where
  lt : b < w.heap.size
  c0 : w.cell? ⟨b, 0, none⟩ = some (.int .i64 p)
  c1 : w.cell? ⟨b, 1, none⟩ = some (.int .i64 q)
  f0 : w.frozen? ⟨b, 0, none⟩ = false
  f1 : w.frozen? ⟨b, 1, none⟩ = false
theorem FHolds.below {B : Nat} {w w' : World} {b : Nat} {p q : Int} (h : FHolds w b p q) (hb : Below B w w') (hB : b < B) : FHolds w' b p q :=
  ⟨Nat.lt_of_lt_of_le h.lt hb.size, (hb.cell (p := ⟨b, 0, none⟩) hB).trans h.c0, (hb.cell (p := ⟨b, 1, none⟩) hB).trans h.c1, (hb.frozen (p := ⟨b, 0, none⟩) hB).trans h.f0, (hb.frozen (p := ⟨b, 1, none⟩) hB).trans h.f1⟩
theorem FHolds.new (w : World) (p q : Int) : FHolds (w.alloc (.cells #[.int .i64 p, .int .i64 q] 37)) w.heap.size p q := by
  constructor <;> simp [go_sem]
theorem FHolds.grown {w w' : World} {b : Nat} {p q : Int} {row : Option Nat} (h : FHolds w b p q) (hg : w.grownBy w' row) (hne : row = some b → False) : FHolds w' b p q := by
  have e := hg.block b h.lt (fun e => hne e.symm)
  exact ⟨Nat.lt_of_lt_of_le h.lt hg.size, (World.cell?_of_block (a := ⟨b, 0, none⟩) e).trans h.c0, (World.cell?_of_block (a := ⟨b, 1, none⟩) e).trans h.c1, 
    (World.frozen?_of_block (a := ⟨b, 0, none⟩) e).trans h.f0, (World.frozen?_of_block (a := ⟨b, 1, none⟩) e).trans h.f1⟩
theorem FHolds.alloc {w : World} {b : Nat} {p q : Int} (h : FHolds w b p q) (o : Obj) : FHolds (w.alloc o) b p q :=
  h.below (B := w.heap.size) ((Below.refl _ _).alloc (Nat.le_refl _) _) h.lt
theorem FHolds.put {w : World} {b : Nat} {p q : Int} (h : FHolds w b p q) (p' q' : Int) : FHolds ((w.setCell ⟨b, 0, none⟩ (.int .i64 p')).setCell ⟨b, 1, none⟩ (.int .i64 q')) b p' q' := by
  obtain ⟨lt, c0, c1, f0, f1⟩ := h
  constructor <;> simp [go_sem, *]
theorem FHolds.put_other {w : World} {b c : Nat} {p q : Int} (h : FHolds w c p q) (hne : c ≠ b) (u v : Value) : FHolds ((w.setCell ⟨b, 0, none⟩ u).setCell ⟨b, 1, none⟩ v) c p q := by
  obtain ⟨lt, c0, c1, f0, f1⟩ := h
  constructor <;> simp [go_sem, *]
theorem putF_below {B : Nat} {w wr : World} {b : Nat} (hb : Below B w wr) (h : B ≤ b) (u v : Value) : Below B w ((wr.setCell ⟨b, 0, none⟩ u).setCell ⟨b, 1, none⟩ v) :=
  (hb.setCell (p := ⟨b, 0, none⟩) h _).setCell (p := ⟨b, 1, none⟩) h _

/-- What holds in the loop of a reading. -/
structure AtL (w wr : World) (v : Value) (l : List Int) : Prop where
  f : FHolds wr w.heap.size 0 0
  o : wr.ownsRow (w.heap.size + 1) 5 1 v l.length (l.map (Value.int .u8))
  b : Below w.heap.size w wr

set_option maxRecDepth 100000 in
set_option maxHeartbeats 4000000 in
theorem readBehind_any (s : ByteArray) (i : Nat) (m : Int) (hm : 0 ≤ m) (hi : i ≤ s.size) (hs : s.size ≤ 65536) (w : World) :
    Calls Tryz.prog 104 #[.string s, .int .i64 i, .int .u8 m] w fun e w' => e = .returned (cuV (rdBody s m (s.size + 1) i [])) ∧ Below w.heap.size w w' := by
  obtain ⟨i0, hinf, hz0, hz1, hz2⟩ := info_parts Tryz.info5
  generalize hR : rdBody s m (s.size + 1) i [] = R
  have HR := (show Hid _ from hR)
  clear hR
  have HF := (show Hid _ from FHolds.new w 0 0)
  have HB := (show Hid _ from (Below.refl w.heap.size w).alloc (Nat.le_refl _) (.cells #[.int .i64 0, .int .i64 0] 37))
  go_enter Tryz.func104, Tryz.ntmps104
  go_wp2_with fail
  go_loopw [1, 9] (fun t v wr => ∃ k : Nat, ∃ f : Nat, ∃ l : List Int, k ≤ s.size ∧ t = .int .i64 k ∧ l.length ≤ k ∧ Hid (s.size + 1 ≤ f + k) ∧ Hid (rdBody s m f k l = R) ∧ Hid (AtL w wr v l)) (fun t _ _ => s.size - (intOf t).toNat)
  case atStart => exact ⟨i, s.size + 1, [], hi, by go_num, by simp, show _ ≤ _ by omega, HR, ⟨HF.out, World.ownsRow_nil _ _ _ _, HB.out⟩⟩
  case round =>
    obtain ⟨k, f, l, hk, rfl, hl, hf, hr, ha⟩ := hrel
    obtain ⟨g, rfl⟩ : ∃ g, f = g + 1 := ⟨f - 1, by have h := hf.out; omega⟩
    clear HR HF HB
    have hlt : w.heap.size < wr.heap.size := ha.out.f.lt
    by_cases hks : k < s.size
    · have hb := chr_bd hks
      have HC := (show Hid _ from chr_in hks)
      by_cases hm1 : chr s k = m
      · have hr' := (show Hid (R = .inl (l, k + 1)) from (hr.out.symm.trans (rdBody_end hm1)))
        have em : ((s[k].toNat : Int) == m) = true := beq_iff_eq.2 (by rw [← HC.out]; exact hm1)
        have ht := text_own ha.out.o
        clear hr hf hm1 hb HC
        obtain ⟨_, c0, c1, f0, f1⟩ := ha.out.f
        go_wp2_with fail
        rw [hr'.out]
        refine bodyPost_ret (v := cuV (.inl (l, k + 1))) (by simp [results, Tryz.results104, go_sem, cuV, *]) rfl ⟨rfl, ?_⟩
        exact putF_below ha.out.b (Nat.le_refl _) _ _
      · have em : ((s[k].toNat : Int) == m) = false := beq_eq_false_iff_ne.2 (by rw [← HC.out]; exact hm1)
        have HRB : Hid (∀ w, Calls Tryz.prog 124 #[.string s, .int .i64 k] w fun e w' => e = .returned (byV (rdByte s k)) ∧ w' = w) := fun w => readByte_any s k hks (by omega) w
        cases hq : rdByte s k with
        | inr pq =>
          obtain ⟨a, c⟩ := pq
          obtain ⟨rfl, hc⟩ := rdByte_err hq
          have hr' := (show Hid (R = .inr (k, c)) from (hr.out.symm.trans (rdBody_err hm1 hks hq)))
          have hc0 : (c != 0) = true := bne_iff_ne.2 (by omega)
          rw [hq] at HRB
          dsimp only [byV] at HRB
          clear hr hf hm1 hb HC hq hc
          obtain ⟨_, c0, c1, f0, f1⟩ := ha.out.f
          go_wp2_with fail
          refine (HRB.out _).mono ?_
          rintro e w1 ⟨rfl, rfl⟩
          go_wp2_with fail
          rw [hr'.out]
          refine bodyPost_ret (v := cuV (.inr (k, c))) (by simp [results, Tryz.results104, go_sem, cuV, *]) rfl ⟨rfl, ?_⟩
          exact putF_below ha.out.b (Nat.le_refl _) _ _
        | inl p =>
          obtain ⟨b, n⟩ := p
          obtain ⟨b0, b1, b2, b3⟩ := rdByte_bd hq
          have hr' := (show Hid (rdBody s m g n (l ++ [b]) = R) from ((rdBody_step hm1 hks hq).symm.trans hr.out))
          have hf' := (show Hid (s.size + 1 ≤ g + n) from (by have h := hf.out; show _ ≤ _; omega))
          rw [hq] at HRB
          dsimp only [byV] at HRB
          clear hr hf hm1 hb HC hq
          have hO1 := ha.out.o
          go_wp2_with fail
          refine (HRB.out _).mono ?_
          rintro e w1 ⟨rfl, rfl⟩
          go_wp2_with (at_builtin; refine wpList_append_own _ rfl _ _ 48 rfl (w.heap.size + 1) 5 i0 (.int .u8 0) 1 1 Tryz.underlying48 hinf hz0 hz1 hz2 rfl (by decide) _ _ _ rfl (hO1.alloc _) ⟨w1.heap.size, 0, none⟩ 1 1 [.int .u8 b] rfl rfl (cell_one_new _ _ _) ?c2 ?c3 ?c4 ?c5 ?_)
          case c2 => intro u hu; simp at hu; subst hu; rfl
          case c3 => unfold maxLen; omega
          case c4 => omega
          case c5 => simp; omega
          intro v' w2 hown' hgrow _
          have hle := fun j e => (hO1.lt j e).1
          have HA2 := (show Hid (AtL w w2 v' (l ++ [b])) from (by
            refine ⟨(ha.out.f.alloc (.cells #[.int .u8 b] 5)).grown hgrow (fun e => by have := hle _ e; omega), ?_, (ha.out.b.alloc (by omega) (.cells #[.int .u8 b] 5)).grown hgrow (by simp; omega) (fun j e => by have := hle j e; omega)⟩
            rw [List.length_append, List.map_append]
            exact hown'))
          clear hO1 hown' hgrow hle ha
          go_wp2
          go_roundw
          case rel => exact ⟨n, g, l ++ [b], b3, rfl, by simp; omega, hf', hr', HA2⟩
          case measure => simp [intOf]; omega
    · have hr' := (show Hid (R = .inr (k, 22)) from (hr.out.symm.trans ((rdBody_out (by omega) hm).trans (by rw [show k = s.size from by omega]))))
      clear hr hf
      obtain ⟨_, c0, c1, f0, f1⟩ := ha.out.f
      go_wp2_with fail
      rw [hr'.out]
      refine bodyPost_ret (v := cuV (.inr (k, 22))) (by simp [results, Tryz.results104, go_sem, cuV, *]) rfl ⟨rfl, ?_⟩
      exact putF_below ha.out.b (Nat.le_refl _) _ _
end Go.Proofs.YthffklhojdldkaaGreatDoor.Q

namespace Go.Proofs.YthffklhojdldkaaGreatDoor.Q
open Go.RowKit
theorem Tryz.sizeB : (Tryz.prog.info? 50).map (·.size) = some 2 := by kernel_rfl

set_option maxHeartbeats 1000000 in
set_option maxRecDepth 100000 in
theorem check_used (b : Nat) (w : World) (h0 : w.cell? ⟨b, 0, none⟩ = some (.pointer (some ⟨b, 0, none⟩))) :
    Calls Tryz.prog 34 #[.pointer (some ⟨b, 0, none⟩)] w fun e w' => e = .returned (.tuple #[]) ∧ w' = w := by
  obtain ⟨j, hj, hjs⟩ := Option.map_eq_some_iff.1 Tryz.sizeB
  go_enter Tryz.func34, Tryz.ntmps34
  go_wp2
  rw [Lib.run_neq_ptr_same w _ Tryz.underlying47 hj]
  go_wp2
  go_end0
  exact ⟨rfl, rfl⟩

set_option maxHeartbeats 1000000 in
set_option maxRecDepth 100000 in
theorem check_fresh (b : Nat) (w : World) (h0 : w.cell? ⟨b, 0, none⟩ = some (.pointer none)) (hsh : w.shape? b = some (50, 2)) (hfz : w.frozen? ⟨b, 0, none⟩ = false) :
    Calls Tryz.prog 34 #[.pointer (some ⟨b, 0, none⟩)] w fun e w' => e = .returned (.tuple #[]) ∧ w' = w.setCell ⟨b, 0, none⟩ (.pointer (some ⟨b, 0, none⟩)) := by
  obtain ⟨j, hj, hjs⟩ := Option.map_eq_some_iff.1 Tryz.sizeB
  go_enter Tryz.func34, Tryz.ntmps34
  go_wp2
  rw [Lib.run_to_unsafe w ⟨b, 0, none⟩ Tryz.underlying47 Tryz.underlying86 hj (by rw [hjs]; decide) hsh (Nat.zero_lt_succ 1)]
  simp only [Result.andThen]
  rw [Oper.upon_value]
  go_wp2
  rw [run_callFunc_extern Tryz.func64 (by kernel_rfl) (by kernel_rfl) (by kernel_rfl) (e := Extern.AbiNoEscape.same) (by kernel_rfl)]
  rw [Lib.run_noEscape]
  simp only [Result.andThen]
  rw [Oper.upon_value]
  go_wp2
  rw [Lib.run_from_unsafe w ⟨b, 0, none⟩ Tryz.underlying86 Tryz.underlying47 hj hsh (by kernel_rfl)]
  simp only [Result.andThen]
  rw [Oper.upon_value]
  go_wp2
  go_end0
  exact ⟨rfl, rfl⟩

/-- Whatever is no row of bytes, and not block b, is as it was. -/
structure KeepT (b : Nat) (w w' : World) : Prop where
  size : w.heap.size ≤ w'.heap.size
  block : ∀ k, k < w.heap.size → k ≠ b → (∀ c fr, w.heap[k]? ≠ some (.cells c 5 fr)) → w'.heap[k]? = w.heap[k]?
theorem KeepT.refl (b : Nat) (w : World) : KeepT b w w := ⟨Nat.le_refl _, fun _ _ _ _ => rfl⟩
theorem KeepT.trans {b : Nat} {x y z : World} (h : KeepT b x y) (k : KeepT b y z) : KeepT b x z :=
  ⟨Nat.le_trans h.size k.size, fun j hj hb ht => by
    have e := h.block j hj hb ht
    exact (k.block j (Nat.lt_of_lt_of_le hj h.size) hb (fun c fr => by rw [e]; exact ht c fr)).trans e⟩
theorem KeepT.setCell (b j : Nat) (w : World) (u : Value) : KeepT b w (w.setCell ⟨b, j, none⟩ u) :=
  ⟨by simp [World.setCell], fun k _ hk _ => Below.heap_setCell _ _ _ _ hk⟩
theorem KeepT.alloc (b : Nat) (w : World) (o : Obj) : KeepT b w (w.alloc o) := ⟨by simp, fun k hk _ _ => Below.heap_alloc _ _ _ hk⟩
theorem KeepT.grown {b : Nat} {w w' : World} {base : Nat} {v : Value} {n : Nat} {xs : List Value} (ho : w.ownsRow base 5 1 v n xs) (hg : w.grownBy w' v.ownBlock) : KeepT b w w' :=
  ⟨hg.size, fun k hk _ ht => hg.block k hk (fun e => by
    rcases ho.2 with ⟨rfl, _⟩ | ⟨g, cap, cur, rfl, _, hgb, _⟩
    · cases e
    · obtain rfl : k = g := by simpa [Value.ownBlock] using e
      exact ht _ _ hgb)⟩
theorem KeepT.below {b : Nat} {w w' : World} (h : Below w.heap.size w w') : KeepT b w w' := ⟨h.size, fun k hk _ _ => h.block k hk⟩

theorem check_any (b : Nat) (bs : List Value) (w : World) (h : Lib.IsBuilder 50 5 b b bs w) :
    Calls Tryz.prog 34 #[.pointer (some ⟨b, 0, none⟩)] w fun e w' => e = .returned (.tuple #[]) ∧ Lib.BuilderAt 50 5 b b (.pointer (some ⟨b, 0, none⟩)) bs w' ∧ Below b w w' ∧ KeepT b w w' := by
  rcases h with h | h
  · refine (check_fresh b w h.cell0 h.shape h.frozen0).mono ?_
    rintro e w' ⟨rfl, rfl⟩
    exact ⟨rfl, h.used _, (Below.refl b w).setCell (p := ⟨b, 0, none⟩) h.1 _, KeepT.setCell b 0 w _⟩
  · refine (check_used b w h.cell0).mono ?_
    rintro e w' ⟨rfl, rfl⟩
    exact ⟨rfl, h, Below.refl b _, KeepT.refl b _⟩

set_option maxHeartbeats 1000000 in
set_option maxRecDepth 100000 in
theorem writeByte_any (b : Nat) (bs : List Value) (c : Int) (w : World) (h : Lib.IsBuilder 50 5 b b bs w) (hlen : bs.length + 1 ≤ 140737488355328) :
    Calls Tryz.prog 16 #[.pointer (some ⟨b, 0, none⟩), .int .u8 c] w fun e w' => e = .returned .nilIface ∧ Lib.IsBuilder 50 5 b b (bs ++ [.int .u8 c]) w' ∧ Below b w w' ∧ KeepT b w w' := by
  obtain ⟨i0, hi, hz0, hz1, hz2⟩ := info_parts Tryz.info5
  go_enter Tryz.func16, Tryz.ntmps16
  go_wp2_with fail
  refine (check_any b bs _ h).mono ?_
  rintro e w1 ⟨rfl, h1, hb1, hk1⟩
  have hlt := h1.lt
  obtain ⟨hB, v, hbk, hown, hne⟩ := h1
  have c0 : w1.cell? ⟨b, 0, none⟩ = some (.pointer (some ⟨b, 0, none⟩)) := by rw [Lib.cell_of_heap hbk]; rfl
  have c1 : w1.cell? ⟨b, 1, none⟩ = some v := by rw [Lib.cell_of_heap hbk]; rfl
  go_wp2_with (at_builtin; refine wpList_append_own _ rfl _ _ 48 rfl b 5 i0 (.int .u8 0) 1 1 Tryz.underlying48 hi hz0 hz1 hz2 rfl (by decide) _ _ _ rfl (hown.alloc _) ⟨w1.heap.size, 0, none⟩ 1 1 [.int .u8 c] rfl rfl (cell_one_new _ _ _) ?c2 ?c3 ?c4 ?c5 ?_)
  case c2 => intro u hu; simp at hu; subst hu; rfl
  case c3 => unfold maxLen; omega
  case c4 => omega
  case c5 => simp; omega
  intro v' w2 hown' hgrow _
  have hb2 : w2.heap[b]? = some (.cells #[.pointer (some ⟨b, 0, none⟩), v] 50 (0, 0)) := by
    rw [hgrow.block b (by simp; omega) (fun e => hne e.symm), Lib.alloc_old w1 _ b hlt]
    exact hbk
  have d0 : w2.cell? ⟨b, 0, none⟩ = some (.pointer (some ⟨b, 0, none⟩)) := by rw [Lib.cell_of_heap hb2]; rfl
  have d1 : w2.cell? ⟨b, 1, none⟩ = some v := by rw [Lib.cell_of_heap hb2]; rfl
  have f1 : w2.frozen? ⟨b, 1, none⟩ = false := Lib.frozen_of_heap hb2 1
  obtain ⟨g, cap, rfl⟩ := ownsRow_succ hown'
  go_wp2
  go_ret
  refine ⟨rfl, .inr ?_, ?_, ?_⟩
  · exact Lib.BuilderAt.put (T := 50) (e := 5) hB hb2 (bs' := bs ++ [.int .u8 c]) (by simpa using hown') (by decide)
  · exact ((hb1.alloc (by omega) _).grown hgrow (by simp; omega) (fun k hk => (hown.lt k hk).1)).setCell (p := ⟨b, 1, none⟩) hB _
  · exact ((hk1.trans (KeepT.alloc b w1 _)).trans (KeepT.grown (hown.alloc _) hgrow)).trans (KeepT.setCell b 1 w2 _)

set_option maxHeartbeats 1000000 in
set_option maxRecDepth 100000 in
theorem writeString_any (b : Nat) (bs : List Value) (s : ByteArray) (w : World) (h : Lib.IsBuilder 50 5 b b bs w) (hlen : bs.length + s.size ≤ 140737488355328) :
    Calls Tryz.prog 17 #[.pointer (some ⟨b, 0, none⟩), .string s] w fun e w' => e = .returned (.tuple #[.int .i64 s.size, .nilIface]) ∧ Lib.IsBuilder 50 5 b b (bs ++ Lib.strCells s) w' ∧ Below b w w' ∧ KeepT b w w' := by
  obtain ⟨i0, hi, hz0, hz1, hz2⟩ := info_parts Tryz.info5
  go_enter Tryz.func17, Tryz.ntmps17
  go_wp2_with fail
  refine (check_any b bs _ h).mono ?_
  rintro e w1 ⟨rfl, h1, hb1, hk1⟩
  have hlt := h1.lt
  obtain ⟨hB, v, hbk, hown, hne⟩ := h1
  have c0 : w1.cell? ⟨b, 0, none⟩ = some (.pointer (some ⟨b, 0, none⟩)) := by rw [Lib.cell_of_heap hbk]; rfl
  have c1 : w1.cell? ⟨b, 1, none⟩ = some v := by rw [Lib.cell_of_heap hbk]; rfl
  go_wp2_with (at_builtin; refine Lib.wpList_append_own_string _ rfl _ _ 48 9 rfl b 5 i0 Tryz.underlying48 Tryz.underlying9 hi hz0 hz1 hz2 _ _ _ rfl hown s rfl ?c3 ?c4 ?c5 ?_)
  case c3 => unfold maxLen; omega
  case c4 => omega
  case c5 => omega
  intro v' w2 hown' hgrow _
  have hb2 : w2.heap[b]? = some (.cells #[.pointer (some ⟨b, 0, none⟩), v] 50 (0, 0)) := by
    rw [hgrow.block b hlt (fun e => hne e.symm)]
    exact hbk
  have d0 : w2.cell? ⟨b, 0, none⟩ = some (.pointer (some ⟨b, 0, none⟩)) := by rw [Lib.cell_of_heap hb2]; rfl
  have d1 : w2.cell? ⟨b, 1, none⟩ = some v := by rw [Lib.cell_of_heap hb2]; rfl
  have f1 : w2.frozen? ⟨b, 1, none⟩ = false := Lib.frozen_of_heap hb2 1
  obtain ⟨ao, n', cap, rfl⟩ : ∃ ao n' cap, v' = .slice ao n' cap := by
    rcases hown'.2 with ⟨hv, _⟩ | ⟨g, cap, cur, hv, _⟩
    · exact ⟨_, _, _, hv⟩
    · exact ⟨_, _, _, hv⟩
  go_wp2
  go_ret2
  refine ⟨rfl, .inr ?_, ?_, ?_⟩
  · exact Lib.BuilderAt.put (T := 50) (e := 5) hB hb2 (bs' := bs ++ Lib.strCells s) (by simpa [Lib.strCells_length] using hown') (by decide)
  · exact (hb1.grown hgrow (by omega) (fun k hk => (hown.lt k hk).1)).setCell (p := ⟨b, 1, none⟩) hB _
  · exact (hk1.trans (KeepT.grown hown hgrow)).trans (KeepT.setCell b 1 w2 _)
end Go.Proofs.YthffklhojdldkaaGreatDoor.Q

namespace Go.Proofs.YthffklhojdldkaaGreatDoor.Q
open Go.RowKit
theorem below1 (w : World) (o : Obj) : Below w.heap.size w (w.alloc o) := (Below.refl _ _).alloc (Nat.le_refl _) _
theorem ret_str {a b : ByteArray} (h : a = b) : Ending.returned (.string a) = .returned (.string b) := by rw [h]
theorem lit_own (l : List Int) (hl : l.length ≤ 100) (w : World) : (w.alloc (.cells (l.map (Value.int .u8)).toArray 5)).ownsRow w.heap.size 5 1 (.slice (some ⟨w.heap.size, 0, none⟩) l.length l.length) l.length (l.map (Value.int .u8)) := by
  have h := World.ownsRow_lit (e := 5) (size := 1) (base := w.heap.size) w (l.map (Value.int .u8)).toArray l.length (Nat.le_refl _) (by unfold maxLen; omega) (by simp)
  simpa using h
theorem conv1 (c : Int) (w : World) : (convert 48 9 (.slice (some ⟨w.heap.size, 0, none⟩) 1 1)).run Tryz.prog (w.alloc (.cells #[.int .u8 c] 5)) = .ok (.string (asText [c])) (w.alloc (.cells #[.int .u8 c] 5)) :=
  text_own (l := [c]) (lit_own [c] (by simp) w)
theorem conv2 (c d : Int) (w : World) : (convert 48 9 (.slice (some ⟨w.heap.size, 0, none⟩) 2 2)).run Tryz.prog (w.alloc (.cells #[.int .u8 c, .int .u8 d] 5)) = .ok (.string (asText [c, d])) (w.alloc (.cells #[.int .u8 c, .int .u8 d] 5)) :=
  text_own (l := [c, d]) (lit_own [c, d] (by simp) w)
theorem conv4d (a b c d : Int) (w : World) : (convert 48 9 (.slice (some ⟨w.heap.size, 0, none⟩) 4 4)).run Tryz.prog (w.alloc (.cells #[.int .u8 a, .int .u8 b, .int .u8 c, .int .u8 d] 5)).drew = .ok (.string (asText [a, b, c, d])) (w.alloc (.cells #[.int .u8 a, .int .u8 b, .int .u8 c, .int .u8 d] 5)).drew :=
  text_own (l := [a, b, c, d]) (w := (w.alloc (.cells #[.int .u8 a, .int .u8 b, .int .u8 c, .int .u8 d] 5)).drew) (base := w.heap.size) (lit_own [a, b, c, d] (by simp) w)
theorem dig_of : ∀ m : Fin 16, ((digs[m.val]'m.isLt).toNat : Int) = hexD (m.val : Int) := by decide +kernel

set_option maxRecDepth 100000 in
set_option maxHeartbeats 1000000 in
theorem showB_hex (b : Nat) (hb : b < 256) (w : World) (h1 : ((b : Int) == 10) = false) (h2 : ((b : Int) == 13) = false) (h3 : ((b : Int) == 9) = false) (h4 : ((b : Int) == 39) = false) (h5 : ((b : Int) == 92) = false) (h6 : ¬ (32 ≤ (b : Int) ∧ (b : Int) ≤ 126)) :
    Calls Tryz.prog 66 #[.int .u8 b] w fun e w' => e = .returned (.string (asText [92, 120, hexD ((b : Int) / 16), hexD ((b : Int) % 16)])) ∧ Below w.heap.size w w' := by
  have t1 : IntKind.u8.wrap ((b : Int) / 16) = ((b / 16 : Nat) : Int) := by rw [IntKind.wrap_u8']; omega
  have t2 : IntKind.u8.wrap ((b : Int) % 16) = ((b % 16 : Nat) : Int) := by rw [IntKind.wrap_u8']; omega
  have t3 : (b : Int) / 16 = ((b / 16 : Nat) : Int) := by omega
  have t4 : (b : Int) % 16 = ((b % 16 : Nat) : Int) := by omega
  have k0 : (0 : Int) ≤ ((b / 16 : Nat) : Int) := by omega
  have k1 : ((b / 16 : Nat) : Int) < 16 := by omega
  have k2 : (0 : Int) ≤ ((b % 16 : Nat) : Int) := by omega
  have k3 : ((b % 16 : Nat) : Int) < 16 := by omega
  have q1 : b / 16 < 16 := by omega
  have q2 : b % 16 < 16 := by omega
  have hcv := conv4d 92 120 ((digs[b / 16]'q1).toNat : Int) ((digs[b % 16]'q2).toNat : Int) w
  have HR : Hid (asText [92, 120, hexD ((b : Int) / 16), hexD ((b : Int) % 16)] = asText [92, 120, ((digs[b / 16]'q1).toNat : Int), ((digs[b % 16]'q2).toNat : Int)]) := (by
    show _ = _
    rw [t3, t4, ← dig_of ⟨b / 16, q1⟩, ← dig_of ⟨b % 16, q2⟩])
  rw [HR.out]
  clear HR
  have hg : ¬ 32 ≤ (b : Int) ∨ (32 ≤ (b : Int) ∧ ¬ (b : Int) ≤ 126) := by omega
  clear h6
  generalize b / 16 = m at *
  generalize b % 16 = n at *
  rcases hg with hg | ⟨hg, hg2⟩
  all_goals
    go_enter Tryz.func66, Tryz.ntmps66
    go_wp2_with fail
    go_region
    all_goals
      go_wp2
      go_ret
      exact ⟨rfl, (below1 _ _).drew⟩

set_option maxRecDepth 100000 in
set_option maxHeartbeats 1000000 in
theorem showB_any (b : Nat) (hb : b < 256) (w : World) :
    Calls Tryz.prog 66 #[.int .u8 b] w fun e w' => e = .returned (.string (asText (shB b))) ∧ Below w.heap.size w w' := by
  unfold shB
  by_cases h1 : (b : Int) = 10
  · rw [if_pos h1]
    have e1 : ((b : Int) == 10) = true := beq_iff_eq.2 h1
    clear h1
    go_enter Tryz.func66, Tryz.ntmps66
    go_wp2
    go_ret
    exact ⟨rfl, Below.refl _ _⟩
  rw [if_neg h1]
  have e1 : ((b : Int) == 10) = false := beq_eq_false_iff_ne.2 h1
  by_cases h2 : (b : Int) = 13
  · rw [if_pos h2]
    have e2 : ((b : Int) == 13) = true := beq_iff_eq.2 h2
    clear h1 h2
    go_enter Tryz.func66, Tryz.ntmps66
    go_wp2
    go_ret
    exact ⟨rfl, Below.refl _ _⟩
  rw [if_neg h2]
  have e2 : ((b : Int) == 13) = false := beq_eq_false_iff_ne.2 h2
  by_cases h3 : (b : Int) = 9
  · rw [if_pos h3]
    have e3 : ((b : Int) == 9) = true := beq_iff_eq.2 h3
    clear h1 h2 h3
    go_enter Tryz.func66, Tryz.ntmps66
    go_wp2
    go_ret
    exact ⟨rfl, Below.refl _ _⟩
  rw [if_neg h3]
  have e3 : ((b : Int) == 9) = false := beq_eq_false_iff_ne.2 h3
  by_cases h4 : (b : Int) = 39 ∨ (b : Int) = 92
  · rw [if_pos h4]
    have hg : ((b : Int) == 39) = true ∨ (((b : Int) == 39) = false ∧ ((b : Int) == 92) = true) := by
      rcases h4 with h | h
      · exact .inl (beq_iff_eq.2 h)
      · exact .inr ⟨beq_eq_false_iff_ne.2 (by omega), beq_iff_eq.2 h⟩
    have hcv := conv2 92 (b : Int) w
    clear h1 h2 h3 h4
    rcases hg with e4 | ⟨e4, e5⟩
    all_goals
      go_enter Tryz.func66, Tryz.ntmps66
      go_wp2
      go_ret
      exact ⟨rfl, below1 _ _⟩
  rw [if_neg h4]
  have e4 : ((b : Int) == 39) = false := beq_eq_false_iff_ne.2 (by omega)
  have e5 : ((b : Int) == 92) = false := beq_eq_false_iff_ne.2 (by omega)
  by_cases h5 : 32 ≤ (b : Int) ∧ (b : Int) ≤ 126
  · rw [if_pos h5]
    obtain ⟨h6, h7⟩ := h5
    have hcv := conv1 (b : Int) w
    clear h1 h2 h3 h4
    go_enter Tryz.func66, Tryz.ntmps66
    go_wp2
    go_ret
    exact ⟨rfl, below1 _ _⟩
  rw [if_neg h5]
  exact showB_hex b hb w e1 e2 e3 e4 e5 h5
end Go.Proofs.YthffklhojdldkaaGreatDoor.Q

namespace Go.Proofs.YthffklhojdldkaaGreatDoor.Q
open Go.RowKit
theorem bld_below {w w' : World} {b : Nat} {bs : List Value} (h : Lib.IsBuilder 50 5 b b bs w) (hb : Below w.heap.size w w') : Lib.IsBuilder 50 5 b b bs w' := by
  have key : ∀ p, Lib.BuilderAt 50 5 b b p bs w → Lib.BuilderAt 50 5 b b p bs w' := fun p hp => by
    have hlt := hp.lt
    obtain ⟨hB, v, hbk, hown, hne⟩ := hp
    exact ⟨hB, v, (hb.block b hlt).trans hbk, own_below hown hb, hne⟩
  exact h.imp (key _) (key _)

theorem quV_long {s : ByteArray} (h : 65536 < s.size ∨ 65536 < (qT s).length) : quV s = .tuple #[.string ⟨#[]⟩, .int .i64 2] := by unfold quV; rw [if_pos h]
theorem quV_fits {s : ByteArray} (h : ¬ (65536 < s.size ∨ 65536 < (qT s).length)) : quV s = .tuple #[.string (asText (qT s)), .int .i64 0] := by unfold quV; rw [if_neg h]

set_option maxRecDepth 100000 in
set_option maxHeartbeats 4000000 in
theorem quote_any (s : ByteArray) (w : World) :
    Calls Tryz.prog 36 #[.string s] w fun e w' => e = .returned (quV s) ∧ Below w.heap.size w w' := by
  by_cases h : 65536 < s.size
  · have HE := (show Hid _ from quV_long (.inl h))
    have h1 : (65536 : Int) < (s.size : Int) := by omega
    go_enter Tryz.func36, Tryz.ntmps36
    go_wp2
    go_ret2
    exact ⟨by rw [HE.out]; rfl, Below.refl _ _⟩
  · have h1 : ¬ (65536 : Int) < (s.size : Int) := by omega
    have t1 : decide ((65536 : Int) < (s.size : Int)) = false := decide_eq_false (by omega)
    have HK := (show Hid _ from Lib.fresh_isBuilder 50 5 w)
    have HB := (show Hid _ from below1 w (.cells #[.pointer none, .slice none 0 0] 50))
    go_enter Tryz.func36, Tryz.ntmps36
    go_wp2_with fail
    refine (writeByte_any w.heap.size [] 39 _ HK.out (by simp)).mono ?_
    rintro e w1 ⟨rfl, hk1, hb1, _⟩
    have HK1 := (show Hid (Lib.IsBuilder 50 5 w.heap.size w.heap.size ((qTo s 0).map (Value.int .u8)) w1) from hk1)
    have HB1 := (show Hid _ from HB.out.trans (hb1.mono (Nat.le_refl _)))
    clear hk1 hb1 HK HB
    go_wp2_with fail
    go_loopw [5] (fun t wr => ∃ k : Nat, k ≤ s.size ∧ t = .int .i64 k ∧ Hid (Lib.IsBuilder 50 5 w.heap.size w.heap.size ((qTo s k).map (Value.int .u8)) wr ∧ Below w.heap.size w wr)) (fun t _ => s.size - (intOf t).toNat)
    case atStart => exact ⟨0, by omega, rfl, HK1.out, HB1.out⟩
    case round =>
      obtain ⟨k, hk, rfl, HI⟩ := hrel
      clear HK1 HB1
      have hql := qTo_len s k
      by_cases hlt : k < s.size
      · have HS := (show Hid _ from qTo_succ s k hlt)
        have hbb : s[k].toNat < 256 := s[k].toNat_lt
        have HW : Hid (∀ w, Calls Tryz.prog 66 #[.int .u8 (s[k].toNat : Int)] w fun e w' => e = .returned (.string (asText (shB (s[k].toNat : Int)))) ∧ Below w.heap.size w w') := fun w => showB_any _ hbb w
        have HT : Hid ((asText (shB (s[k].toNat : Int))).size ≤ 4) := (by show _ ≤ 4; rw [asText_size]; exact (shB_len _).2)
        have HC : Hid (Lib.strCells (asText (shB (s[k].toNat : Int))) = (shB (s[k].toNat : Int)).map (Value.int .u8)) := strCells_text (shB_by (by omega) (by omega))
        go_wp2_with fail
        refine (HW.out _).mono ?_
        rintro e w2 ⟨rfl, hb2⟩
        have HJ := (show Hid _ from (⟨bld_below HI.out.1 hb2, HI.out.2.trans (hb2.mono HI.out.2.size)⟩ : _ ∧ _))
        clear hb2 HI HW
        go_wp2_with fail
        refine (writeString_any w.heap.size _ _ _ HJ.out.1 (by have h := HT.out; rw [List.length_map]; omega)).mono ?_
        rintro e w3 ⟨rfl, hk3, hb3, _⟩
        have HI3 := (show Hid (Lib.IsBuilder 50 5 w.heap.size w.heap.size ((qTo s (k + 1)).map (Value.int .u8)) w3 ∧ Below w.heap.size w w3) from (by
          refine ⟨?_, HJ.out.2.trans (hb3.mono (Nat.le_refl _))⟩
          rw [HS.out, List.map_append, ← HC.out]
          exact hk3))
        clear hk3 hb3 HJ
        go_wp2
        go_roundw
        case rel => exact ⟨k + 1, by omega, by go_num, HI3⟩
        case measure => simp [intOf]; omega
      · have HA := (show Hid _ from qTo_all s k (by omega))
        go_wp2_with fail
        refine (writeByte_any w.heap.size _ 39 _ HI.out.1 (by rw [List.length_map]; omega)).mono ?_
        rintro e w3 ⟨rfl, hk3, hb3, _⟩
        have HI3 := (show Hid (Lib.IsBuilder 50 5 w.heap.size w.heap.size ((qT s).map (Value.int .u8)) w3 ∧ Below w.heap.size w w3) from (by
          refine ⟨?_, HI.out.2.trans (hb3.mono (Nat.le_refl _))⟩
          rw [← HA.out, List.map_append]
          exact hk3))
        clear hk3 hb3 HI HA
        go_wp2_with fail
        refine (Tryz.Builder_Len w.heap.size w.heap.size _ _ HI3.out.1).mono ?_
        rintro e w4 ⟨rfl, rfl⟩
        rw [List.length_map]
        by_cases hq : 65536 < (qT s).length
        · have HE := (show Hid _ from quV_long (.inr hq))
          have hqI : (65536 : Int) < ((qT s).length : Int) := by omega
          go_wp2
          go_ret2
          exact ⟨by rw [HE.out]; rfl, HI3.out.2⟩
        · have HE := (show Hid _ from quV_fits (s := s) (by omega))
          have hqI : ¬ (65536 : Int) < ((qT s).length : Int) := by omega
          have HX := (show Hid (Lib.IsBuilder 50 5 w.heap.size w.heap.size (Lib.byteCells ((qT s).map fun n => UInt8.ofNat n.toNat)) w4) from (by
            show Lib.IsBuilder _ _ _ _ _ _
            rw [by_cells (qT_by s)]
            exact HI3.out.1))
          clear hq
          generalize (qT s).length = L at *
          go_wp2_with fail
          refine (Tryz.Builder_String_any w.heap.size w.heap.size _ _ HX.out HI3.out.2.size).mono ?_
          rintro e w5 ⟨rfl, hb5⟩
          go_wp2
          go_ret2
          exact ⟨by rw [HE.out, asText_eq]; rfl, HI3.out.2.trans hb5⟩
end Go.Proofs.YthffklhojdldkaaGreatDoor.Q

namespace Go.Proofs.YthffklhojdldkaaGreatDoor
open Go.RowKit
theorem q_chr (s : ByteArray) (i : Nat) : Q.chr s i = chr s i := rfl
theorem q_text (l : List Int) : Q.asText l = asText l := rfl
/-- The program's reading of a literal, by what Cut answers. -/
def litP (s : ByteArray) (b : Nat) : Q.Rd (List Int × Nat) → Sum Tk (Nat × Int)
  | .inr (a, c) => if c = 21 then .inr (a.toNat, 51) else if c = 22 ∧ a < (s.size : Int) then .inr (a.toNat, 50) else .inr (b, 52)
  | .inl (l, e) => if 255 < l.length then .inr (b, 2) else .inl ⟨2, 0, b, e, asText l, 0, 0, 0, 0⟩
theorem esc_same (s : ByteArray) (i : Nat) : Q.rdEsc s i = (escT s i).map fun p => ((p.1 : Int), p.2) := by
  unfold Q.rdEsc escT Q.rdHex
  rw [show Q.chr = chr from rfl, show Q.hexV = hexV from rfl]
  have hb := chr_le s (i + 1)
  by_cases a1 : chr s (i + 1) = 110
  · rw [if_pos a1, if_pos a1]; rfl
  by_cases a2 : chr s (i + 1) = 114
  · rw [if_neg a1, if_neg a1, if_pos a2, if_pos a2]; rfl
  by_cases a3 : chr s (i + 1) = 116
  · rw [if_neg a1, if_neg a1, if_neg a2, if_neg a2, if_pos a3, if_pos a3]; rfl
  rw [if_neg a1, if_neg a1, if_neg a2, if_neg a2, if_neg a3, if_neg a3]
  by_cases a4 : chr s (i + 1) = 92 ∨ chr s (i + 1) = 39 ∨ chr s (i + 1) = 34
  · rw [if_pos a4, if_pos a4, Option.map_some, Int.toNat_of_nonneg (by omega)]
  rw [if_neg a4, if_neg a4]
  by_cases h : chr s (i + 1) = 120
  · have h1 := hexV_bd (chr s (i + 2))
    rw [if_pos h]
    by_cases q : 0 ≤ hexV (chr s (i + 2)) ∧ 0 ≤ hexV (chr s (i + 3))
    · rw [if_pos q, if_pos ⟨h, q⟩, Option.map_some, Int.toNat_of_nonneg (by omega)]
    · rw [if_neg q, if_neg (fun x => q x.2)]; rfl
  · rw [if_neg h, if_neg (fun x => h x.1)]; rfl
theorem escT_lt {s : ByteArray} {i : Nat} {c n : Nat} (h : escT s i = some (c, n)) : i < n ∧ n ≤ i + 4 := by
  unfold escT at h
  split at h
  · cases h; omega
  split at h
  · cases h; omega
  split at h
  · cases h; omega
  split at h
  · cases h; omega
  split at h
  · cases h; omega
  · cases h
theorem body_same (s : ByteArray) (q : Int) (b : Nat) (hq : q = 39 ∨ q = 34) : ∀ (f i : Nat) (l : List Int), s.size < f + i → litP s b (Q.rdBody s q f i l) = litGo s q b f l i := by
  intro f
  induction f with
  | zero =>
    intro i l hf
    rw [Q.rdBody, litGo]
    rw [litP, if_neg (by decide), if_neg (by omega)]
  | succ f ih =>
    intro i l hf
    rw [Q.rdBody, litGo, q_chr]
    by_cases h1 : i < s.size
    · have hb := chr_in h1
      have hb2 : ¬ chr s i < 0 := by rw [hb]; omega
      rw [if_neg hb2]
      by_cases h2 : chr s i = q
      · rw [if_pos h2, if_pos h2]; rfl
      rw [if_neg h2, if_neg h2, if_neg (by omega)]
      by_cases h92 : chr s i = 92
      · have e1 : ¬ (chr s i < 32 ∨ chr s i = 127) := by omega
        rw [if_neg e1, if_neg (fun x => x h92)]
        unfold Q.rdByte
        rw [q_chr, if_pos h92, esc_same]
        cases he : escT s i with
        | none =>
          show litP s b (.inr ((i : Int), 21)) = _
          rw [litP, if_pos rfl]; rfl
        | some p =>
          have h3 := escT_lt (c := p.1) (n := p.2) he
          exact ih _ _ (by omega)
      · unfold Q.rdByte
        rw [q_chr, if_neg h92]
        by_cases h32 : chr s i < 32 ∨ chr s i = 127
        · rw [if_pos h32, if_pos h32]
          rw [litP, if_neg (by decide), if_pos ⟨rfl, by omega⟩]; rfl
        · rw [if_neg h32, if_neg h32, if_pos h92]
          exact ih _ _ (by omega)
    · rw [chr_out h1, if_neg (by omega), if_pos (by omega), if_pos (by omega)]
      rw [litP, if_neg (by decide), if_neg (by omega)]
theorem rdBody_pos {s : ByteArray} {m : Int} {f i : Nat} {l : List Int} {a c : Int} (h : Q.rdBody s m f i l = .inr (a, c)) : 0 ≤ a ∧ (c = 21 ∨ c = 22) := by
  induction f generalizing i l with
  | zero => rw [Q.rdBody] at h; cases h; exact ⟨by omega, .inr rfl⟩
  | succ f ih =>
    rw [Q.rdBody] at h
    split at h
    · cases h
    split at h
    · cases h; exact ⟨by omega, .inr rfl⟩
    cases hb : Q.rdByte s i with
    | inl p => rw [hb] at h; exact ih h
    | inr q =>
      obtain ⟨a2, c2⟩ := q
      rw [hb] at h
      cases h
      unfold Q.rdByte at hb
      split at hb
      · cases he : Q.rdEsc s i with
        | none => rw [he] at hb; cases hb; exact ⟨by omega, .inl rfl⟩
        | some p => rw [he] at hb; cases hb
      · split at hb
        · cases hb; exact ⟨by omega, .inr rfl⟩
        · cases hb
theorem rdCut_pos {s : ByteArray} {b : Nat} {a c : Int} (hs : s.size ≤ 65536) (hb : b ≤ s.size) (hq : chr s b = 39 ∨ chr s b = 34) (h : Q.rdCut s b = .inr (a, c)) : 0 ≤ a ∧ (c = 21 ∨ c = 22) := by
  unfold Q.rdCut at h
  rw [if_neg (by omega), if_neg (by omega), Int.toNat_natCast, q_chr, if_pos hq] at h
  exact rdBody_pos h
theorem lit_same (s : ByteArray) (b : Nat) (hs : s.size ≤ 65536) (hb : b ≤ s.size) (hq : chr s b = 39 ∨ chr s b = 34) : litP s b (Q.rdCut s b) = litR s b := by
  unfold Q.rdCut litR
  rw [if_neg (by omega), if_neg (by omega), Int.toNat_natCast, q_chr, if_pos hq]
  exact body_same s _ b hq _ _ _ (by omega)
end Go.Proofs.YthffklhojdldkaaGreatDoor
