/- DERIVED. Plain mathematics and walks, laid together (3). -/
import Derived.Lib.AtoiErrMem
import Derived.Deep.WholeRow
import Derived.Laws.Bits64b
import Derived.Deep.AppendLies
import Derived.LoopN
import Derived.WalkKit
import Derived.Test.YthffklhojdldkaaGreatDoorTb02
namespace Go.Proofs.YthffklhojdldkaaGreatDoor
open Go.RowKit
set_option maxRecDepth 100000 in
set_option maxHeartbeats 1000000 in
theorem standsAt_any (s : ByteArray) (i : Nat) (c : Int) (hc : 0 ≤ c) (w : World) :
    Calls Tryz.prog 105 #[.string s, .int .i64 i, .int .u8 c] w fun e w' => e = .returned (.bool (chr s i == c)) ∧ w' = w := by
  by_cases h : i < s.size
  · have HE := (show Hid _ from chr_in h)
    have h0 : (0 : Int) ≤ (i : Int) := by omega
    have h1 : (i : Int) < (s.size : Int) := by omega
    go_enter Tryz.func105, Tryz.ntmps105
    go_wp2
    go_ret
    exact ⟨by rw [HE.out]; rfl, rfl⟩
  · have HE : Hid ((chr s i == c) = false) := (by show (chr s i == c) = false; rw [chr_out h]; exact beq_eq_false_iff_ne.2 (by omega))
    have h1 : ¬ (i : Int) < (s.size : Int) := by omega
    go_enter Tryz.func105, Tryz.ntmps105
    go_wp2
    go_ret
    exact ⟨ret_bool HE.out.symm, rfl⟩

/-- The digits of 16. -/
abbrev digs : ByteArray := ⟨#[48, 49, 50, 51, 52, 53, 54, 55, 56, 57, 97, 98, 99, 100, 101, 102]⟩
theorem idx_hex (c : UInt8) : Lib.indexByte digs.data.toList c = hexV (c.toNat : Int) := by
  have key : ∀ n, n < 256 → Lib.indexByte digs.data.toList (UInt8.ofNat n) = hexV (n : Int) := by decide +kernel
  have := key c.toNat c.toNat_lt
  rw [UInt8.ofNat_toNat] at this
  exact this
theorem index_hex (c : UInt8) (w : World) : Calls Tryz.prog 101 #[.string digs, .int .u8 (c.toNat : Int)] w fun e w' => e = .returned (.int .i64 (hexV (c.toNat : Int))) ∧ w' = w := by
  refine (Tryz.strings_IndexByte digs (c.toNat : Int) w).mono ?_
  rintro e w' ⟨rfl, rfl⟩
  refine ⟨?_, rfl⟩
  rw [← idx_hex]
  simp

/-- What a reading of one item answers. -/
def itV : Option (Nat × Nat) → Value
  | none => .tuple #[.int .i64 0, .int .i64 0, .bool false]
  | some (b, n) => .tuple #[.int .i64 b, .int .i64 n, .bool true]

theorem ret_it {b n : Nat} {b' n' : Int} (hb : b' = b) (hn : n' = n) : Ending.returned (.tuple #[.int .i64 b', .int .i64 n', .bool true]) = .returned (itV (some (b, n))) := by rw [hb, hn]; rfl

set_option maxRecDepth 100000 in
set_option maxHeartbeats 1000000 in
theorem readHex_any (s : ByteArray) (i : Nat) (hi : i + 1 < s.size) (hs : s.size ≤ 140737488355328) (w : World) :
    Calls Tryz.prog 139 #[.string s, .int .i64 i] w fun e w' => e = .returned (itV (rdHex s i)) ∧ w' = w := by
  by_cases h : i + 3 < s.size
  · have h2 : i + 2 < s.size := by omega
    have hb1 := hexV_bd (s[i + 2].toNat : Int)
    have hb2 := hexV_bd (s[i + 3].toNat : Int)
    have HE : Hid (rdHex s i = if 0 ≤ hexV (s[i + 2].toNat : Int) ∧ 0 ≤ hexV (s[i + 3].toNat : Int) then some ((16 * hexV (s[i + 2].toNat : Int) + hexV (s[i + 3].toNat : Int)).toNat, i + 4) else none) := (by show rdHex s i = _; unfold rdHex; rw [chr_in h, chr_in h2])
    have HI : Hid (∀ w, Calls Tryz.prog 101 #[.string digs, .int .u8 (s[i + 2].toNat : Int)] w fun e w' => e = .returned (.int .i64 (hexV (s[i + 2].toNat : Int))) ∧ w' = w) := fun w => index_hex _ w
    have HJ : Hid (∀ w, Calls Tryz.prog 101 #[.string digs, .int .u8 (s[i + 3].toNat : Int)] w fun e w' => e = .returned (.int .i64 (hexV (s[i + 3].toNat : Int))) ∧ w' = w) := fun w => index_hex _ w
    go_enter Tryz.func139, Tryz.ntmps139
    go_wp2_with fail
    refine (HI.out _).mono ?_
    rintro e w' ⟨rfl, rfl⟩
    clear HI
    go_wp2_with fail
    refine (HJ.out _).mono ?_
    rintro e w' ⟨rfl, rfl⟩
    clear HJ
    generalize hexV (s[i + 2].toNat : Int) = a at *
    generalize hexV (s[i + 3].toNat : Int) = b at *
    by_cases ha : 0 ≤ a
    · by_cases hb : 0 ≤ b
      · go_wp2
        go_ret3
        exact ⟨by rw [HE.out, if_pos ⟨ha, hb⟩]; exact ret_it (by omega) (by omega), rfl⟩
      · go_wp2
        go_ret3
        exact ⟨by rw [HE.out, if_neg (fun h => by omega)]; rfl, rfl⟩
    · go_wp2
      go_ret3
      exact ⟨by rw [HE.out, if_neg (fun h => by omega)]; rfl, rfl⟩
  · have h1 : ¬ (i : Int) + 3 < (s.size : Int) := by omega
    have HE : Hid (rdHex s i = none) := (by show rdHex s i = none; unfold rdHex; rw [chr_out h]; rw [if_neg]; rintro ⟨_, h2⟩; simp [hexV] at h2)
    go_enter Tryz.func139, Tryz.ntmps139
    go_wp2
    go_ret3
    exact ⟨by rw [HE.out]; rfl, rfl⟩

set_option maxRecDepth 100000 in
set_option maxHeartbeats 1000000 in
theorem readEsc_any (s : ByteArray) (i : Nat) (hi : i < s.size) (hs : s.size ≤ 140737488355328) (w : World) :
    Calls Tryz.prog 138 #[.string s, .int .i64 i] w fun e w' => e = .returned (itV (rdEsc s i)) ∧ w' = w := by
  by_cases h : i + 1 < s.size
  · have HX : Hid (∀ w, Calls Tryz.prog 139 #[.string s, .int .i64 i] w fun e w' => e = .returned (itV (rdHex s i)) ∧ w' = w) := fun w => readHex_any s i h hs w
    have hb : (0 : Int) ≤ (s[i + 1].toNat : Int) ∧ (s[i + 1].toNat : Int) ≤ 255 := by have := s[i + 1].toNat_lt; omega
    have hw8 : IntKind.i64.wrap (s[i + 1].toNat : Int) = (s[i + 1].toNat : Int) := by rw [IntKind.wrap_i64]; omega
    have HE : Hid (rdEsc s i = if (s[i + 1].toNat : Int) = 110 then some (10, i + 2) else if (s[i + 1].toNat : Int) = 114 then some (13, i + 2) else if (s[i + 1].toNat : Int) = 116 then some (9, i + 2) else
  if (s[i + 1].toNat : Int) = 120 then rdHex s i else if signB (s[i + 1].toNat : Int) then some ((s[i + 1].toNat : Int).toNat, i + 2) else none) := (by show rdEsc s i = _; unfold rdEsc; rw [chr_in h])
    by_cases h110 : (s[i + 1].toNat : Int) = 110
    · have HF := (show Hid (rdEsc s i = some (10, i + 2)) from (by show rdEsc s i = _; rw [HE.out]; rw [if_pos h110]))
      clear HE HX
      have e110 : ((s[i + 1].toNat : Int) == 110) = true := beq_iff_eq.2 h110
      clear h110
      go_enter Tryz.func138, Tryz.ntmps138
      go_wp2
      go_ret3
      exact ⟨by rw [HF.out]; exact ret_it rfl (by omega), rfl⟩
    have e110 : ((s[i + 1].toNat : Int) == 110) = false := beq_eq_false_iff_ne.2 h110
    by_cases h114 : (s[i + 1].toNat : Int) = 114
    · have HF := (show Hid (rdEsc s i = some (13, i + 2)) from (by show rdEsc s i = _; rw [HE.out]; rw [if_neg h110, if_pos h114]))
      clear HE HX
      have e114 : ((s[i + 1].toNat : Int) == 114) = true := beq_iff_eq.2 h114
      clear h114
      go_enter Tryz.func138, Tryz.ntmps138
      go_wp2
      go_ret3
      exact ⟨by rw [HF.out]; exact ret_it rfl (by omega), rfl⟩
    have e114 : ((s[i + 1].toNat : Int) == 114) = false := beq_eq_false_iff_ne.2 h114
    by_cases h116 : (s[i + 1].toNat : Int) = 116
    · have HF := (show Hid (rdEsc s i = some (9, i + 2)) from (by show rdEsc s i = _; rw [HE.out]; rw [if_neg h110, if_neg h114, if_pos h116]))
      clear HE HX
      have e116 : ((s[i + 1].toNat : Int) == 116) = true := beq_iff_eq.2 h116
      clear h116
      go_enter Tryz.func138, Tryz.ntmps138
      go_wp2
      go_ret3
      exact ⟨by rw [HF.out]; exact ret_it rfl (by omega), rfl⟩
    have e116 : ((s[i + 1].toNat : Int) == 116) = false := beq_eq_false_iff_ne.2 h116
    by_cases h120 : (s[i + 1].toNat : Int) = 120
    · have HF := (show Hid (rdEsc s i = rdHex s i) from (by show rdEsc s i = _; rw [HE.out]; rw [if_neg h110, if_neg h114, if_neg h116, if_pos h120]))
      have e120 : ((s[i + 1].toNat : Int) == 120) = true := beq_iff_eq.2 h120
      clear HE h110 h114 h116 h120
      go_enter Tryz.func138, Tryz.ntmps138
      go_wp2_with fail
      refine (HX.out _).mono ?_
      rintro e w' ⟨rfl, rfl⟩
      cases hq : rdHex s i with
      | none =>
        rw [hq] at HF
        clear HX hq
        dsimp only [itV]
        go_wp2
        go_ret3
        exact ⟨by rw [HF.out]; rfl, rfl⟩
      | some q =>
        obtain ⟨qb, qn⟩ := q
        rw [hq] at HF
        clear HX hq
        dsimp only [itV]
        go_wp2
        go_ret3
        exact ⟨by rw [HF.out]; rfl, rfl⟩
    have e120 : ((s[i + 1].toNat : Int) == 120) = false := beq_eq_false_iff_ne.2 h120
    cases hg : signB (s[i + 1].toNat : Int)
    · have HF := (show Hid (rdEsc s i = none) from (by show rdEsc s i = _; rw [HE.out]; rw [if_neg h110, if_neg h114, if_neg h116, if_neg h120, if_neg (by rw [hg]; simp)]))
      clear HE HX h110 h114 h116 h120
      go_enter Tryz.func138, Tryz.ntmps138
      go_wp2_with fail
      refine (isSign_any _ _).mono ?_
      rintro e w' ⟨rfl, rfl⟩
      go_wp2
      go_ret3
      exact ⟨by rw [HF.out]; rfl, rfl⟩
    · have HF := (show Hid (rdEsc s i = some ((s[i + 1].toNat : Int).toNat, i + 2)) from (by show rdEsc s i = _; rw [HE.out]; rw [if_neg h110, if_neg h114, if_neg h116, if_neg h120, if_pos (by rw [hg])]))
      clear HE HX h110 h114 h116 h120
      go_enter Tryz.func138, Tryz.ntmps138
      go_wp2_with fail
      refine (isSign_any _ _).mono ?_
      rintro e w' ⟨rfl, rfl⟩
      go_wp2
      go_ret3
      exact ⟨by rw [HF.out]; exact ret_it (by omega) (by omega), rfl⟩
  · have HE : Hid (rdEsc s i = none) := (by show rdEsc s i = none; unfold rdEsc; rw [chr_out h]; rfl)
    have h1 : ¬ (i : Int) + 1 < (s.size : Int) := by omega
    go_enter Tryz.func138, Tryz.ntmps138
    go_wp2
    go_ret3
    exact ⟨by rw [HE.out]; rfl, rfl⟩

set_option maxRecDepth 100000 in
set_option maxHeartbeats 1000000 in
theorem readItem_any (s : ByteArray) (i : Nat) (hs : s.size ≤ 140737488355328) (w : World) :
    Calls Tryz.prog 136 #[.string s, .int .i64 i] w fun e w' => e = .returned (itV (rdItem s i)) ∧ w' = w := by
  by_cases h : i < s.size
  · have HX : Hid (∀ w, Calls Tryz.prog 138 #[.string s, .int .i64 i] w fun e w' => e = .returned (itV (rdEsc s i)) ∧ w' = w) := fun w => readEsc_any s i h hs w
    have hb : (0 : Int) ≤ (s[i].toNat : Int) ∧ (s[i].toNat : Int) ≤ 255 := by have := s[i].toNat_lt; omega
    have hw8 : IntKind.i64.wrap (s[i].toNat : Int) = (s[i].toNat : Int) := by rw [IntKind.wrap_i64]; omega
    have HE : Hid (rdItem s i = if (s[i].toNat : Int) = 92 then rdEsc s i else if (s[i].toNat : Int) = 93 ∨ (s[i].toNat : Int) = 45 ∨ (s[i].toNat : Int) = 37 ∨ prnB (s[i].toNat : Int) = false then none else some ((s[i].toNat : Int).toNat, i + 1)) := (by show rdItem s i = _; unfold rdItem; rw [chr_in h])
    by_cases h92 : (s[i].toNat : Int) = 92
    · have HF := (show Hid (rdItem s i = rdEsc s i) from (by show rdItem s i = _; rw [HE.out]; rw [if_pos h92]))
      have e92 : ((s[i].toNat : Int) == 92) = true := beq_iff_eq.2 h92
      clear HE h92
      go_enter Tryz.func136, Tryz.ntmps136
      go_wp2_with fail
      refine (HX.out _).mono ?_
      rintro e w' ⟨rfl, rfl⟩
      cases hq : rdEsc s i with
      | none =>
        rw [hq] at HF
        clear HX hq
        dsimp only [itV]
        go_wp2
        go_ret3
        exact ⟨by rw [HF.out]; rfl, rfl⟩
      | some q =>
        obtain ⟨qb, qn⟩ := q
        rw [hq] at HF
        clear HX hq
        dsimp only [itV]
        go_wp2
        go_ret3
        exact ⟨by rw [HF.out]; rfl, rfl⟩
    have e92 : ((s[i].toNat : Int) == 92) = false := beq_eq_false_iff_ne.2 h92
    clear HX
    by_cases h93 : (s[i].toNat : Int) = 93
    · have HF := (show Hid (rdItem s i = none) from (by show rdItem s i = _; rw [HE.out, if_neg h92, if_pos (.inl h93)]))
      have e93 : ((s[i].toNat : Int) == 93) = true := beq_iff_eq.2 h93
      clear HE h92 h93
      go_enter Tryz.func136, Tryz.ntmps136
      go_wp2
      go_ret3
      exact ⟨by rw [HF.out]; rfl, rfl⟩
    have e93 : ((s[i].toNat : Int) == 93) = false := beq_eq_false_iff_ne.2 h93
    by_cases h45 : (s[i].toNat : Int) = 45
    · have HF := (show Hid (rdItem s i = none) from (by show rdItem s i = _; rw [HE.out, if_neg h92, if_pos (.inr (.inl h45))]))
      have e45 : ((s[i].toNat : Int) == 45) = true := beq_iff_eq.2 h45
      clear HE h92 h93 h45
      go_enter Tryz.func136, Tryz.ntmps136
      go_wp2
      go_ret3
      exact ⟨by rw [HF.out]; rfl, rfl⟩
    have e45 : ((s[i].toNat : Int) == 45) = false := beq_eq_false_iff_ne.2 h45
    by_cases h37 : (s[i].toNat : Int) = 37
    · have HF := (show Hid (rdItem s i = none) from (by show rdItem s i = _; rw [HE.out, if_neg h92, if_pos (.inr (.inr (.inl h37)))]))
      have e37 : ((s[i].toNat : Int) == 37) = true := beq_iff_eq.2 h37
      clear HE h92 h93 h45 h37
      go_enter Tryz.func136, Tryz.ntmps136
      go_wp2
      go_ret3
      exact ⟨by rw [HF.out]; rfl, rfl⟩
    have e37 : ((s[i].toNat : Int) == 37) = false := beq_eq_false_iff_ne.2 h37
    cases hg : prnB (s[i].toNat : Int)
    · have HF := (show Hid (rdItem s i = none) from (by show rdItem s i = _; rw [HE.out, if_neg h92, if_pos (.inr (.inr (.inr hg)))]))
      clear HE h92 h93 h45 h37
      go_enter Tryz.func136, Tryz.ntmps136
      go_wp2_with fail
      refine (isPrintable_any _ _).mono ?_
      rintro e w' ⟨rfl, rfl⟩
      go_wp2
      go_ret3
      exact ⟨by rw [HF.out]; rfl, rfl⟩
    · have HF := (show Hid (rdItem s i = some ((s[i].toNat : Int).toNat, i + 1)) from (by show rdItem s i = _; rw [HE.out, if_neg h92, if_neg (by rw [hg]; simp; omega)]))
      clear HE h92 h93 h45 h37
      go_enter Tryz.func136, Tryz.ntmps136
      go_wp2_with fail
      refine (isPrintable_any _ _).mono ?_
      rintro e w' ⟨rfl, rfl⟩
      go_wp2
      go_ret3
      exact ⟨by rw [HF.out]; exact ret_it (by omega) (by omega), rfl⟩
  · have HE : Hid (rdItem s i = none) := (by show rdItem s i = none; unfold rdItem; rw [chr_out h]; rfl)
    have h1 : ¬ (i : Int) < (s.size : Int) := by omega
    go_enter Tryz.func136, Tryz.ntmps136
    go_wp2
    go_ret3
    exact ⟨by rw [HE.out]; rfl, rfl⟩
end Go.Proofs.YthffklhojdldkaaGreatDoor

namespace Go.Proofs.YthffklhojdldkaaGreatDoor
open Go.RowKit
theorem below_box (w : World) (o : Obj) : Below w.heap.size w (w.alloc o) := Below.alloc (Below.refl _ _) (Nat.le_refl _) o
abbrev tkC (t : Tk) : Array Value := #[.int .i64 t.kd, .int .i64 t.nn, .int .i64 t.fr, .int .i64 t.en, .string t.tx, .int .u64 t.s0, .int .u64 t.s1, .int .u64 t.s2, .int .u64 t.s3]
abbrev tkO (t : Tk) : Obj := .cells #[.int .i64 t.kd, .int .i64 t.nn, .int .i64 t.fr, .int .i64 t.en, .string t.tx, .int .u64 t.s0, .int .u64 t.s1, .int .u64 t.s2, .int .u64 t.s3] 45
structure TX (W : World) (b : Nat) (t : Tk) : Prop where
  heap : W.heap[b]? = some (.cells (tkC t) 45 (0, 0))
theorem TX.lt {W : World} {b : Nat} {t : Tk} (h : TX W b t) : b < W.heap.size := (Array.getElem?_eq_some_iff.1 h.heap).1
theorem TX.same {W W' : World} {b : Nat} {t : Tk} (h : TX W b t) (hb : W'.heap[b]? = W.heap[b]?) : TX W' b t := ⟨hb.trans h.heap⟩
theorem TX.below {W W' : World} {b : Nat} {t : Tk} (h : TX W b t) (hb : Below W.heap.size W W') : TX W' b t := h.same (hb.block b h.lt)
theorem TX.new (W : World) (t : Tk) : TX (W.alloc (tkO t)) W.heap.size t := ⟨heap_alloc_new W _⟩
/-- Its cells. -/
structure TC (W : World) (b : Nat) (t : Tk) : Prop where
  c0 : W.cell? ⟨b, 0, none⟩ = some (.int .i64 t.kd)
  c1 : W.cell? ⟨b, 1, none⟩ = some (.int .i64 t.nn)
  c2 : W.cell? ⟨b, 2, none⟩ = some (.int .i64 t.fr)
  c3 : W.cell? ⟨b, 3, none⟩ = some (.int .i64 t.en)
  c4 : W.cell? ⟨b, 4, none⟩ = some (.string t.tx)
  c5 : W.cell? ⟨b, 5, none⟩ = some (.int .u64 t.s0)
  c6 : W.cell? ⟨b, 6, none⟩ = some (.int .u64 t.s1)
  c7 : W.cell? ⟨b, 7, none⟩ = some (.int .u64 t.s2)
  c8 : W.cell? ⟨b, 8, none⟩ = some (.int .u64 t.s3)
structure TF (W : World) (b : Nat) : Prop where
  f0 : W.frozen? ⟨b, 0, none⟩ = false
  f1 : W.frozen? ⟨b, 1, none⟩ = false
  f2 : W.frozen? ⟨b, 2, none⟩ = false
  f3 : W.frozen? ⟨b, 3, none⟩ = false
  f4 : W.frozen? ⟨b, 4, none⟩ = false
  f5 : W.frozen? ⟨b, 5, none⟩ = false
  f6 : W.frozen? ⟨b, 6, none⟩ = false
  f7 : W.frozen? ⟨b, 7, none⟩ = false
  f8 : W.frozen? ⟨b, 8, none⟩ = false
theorem TX.cells {W : World} {b : Nat} {t : Tk} (h : TX W b t) : TC W b t := by
  have key : ∀ (j : Nat) u, (tkC t)[j]? = some u → W.cell? ⟨b, j, none⟩ = some u := fun j u hu => by
    rw [cell_of_row W b j _ 45 (0, 0) h.heap]; exact hu
  exact ⟨key 0 _ rfl, key 1 _ rfl, key 2 _ rfl, key 3 _ rfl, key 4 _ rfl, key 5 _ rfl, key 6 _ rfl, key 7 _ rfl, key 8 _ rfl⟩
theorem TX.fz {W : World} {b : Nat} {t : Tk} (h : TX W b t) : TF W b := ⟨frozen_of_row W b 0 _ 45 h.heap, frozen_of_row W b 1 _ 45 h.heap, frozen_of_row W b 2 _ 45 h.heap, frozen_of_row W b 3 _ 45 h.heap, frozen_of_row W b 4 _ 45 h.heap, frozen_of_row W b 5 _ 45 h.heap, frozen_of_row W b 6 _ 45 h.heap, frozen_of_row W b 7 _ 45 h.heap, frozen_of_row W b 8 _ 45 h.heap⟩
/-- A token laid into a box. -/
abbrev st9 (W : World) (b : Nat) (t : Tk) : World := ((((((((W.setCell ⟨b, 0, none⟩ (.int .i64 t.kd)).setCell ⟨b, 1, none⟩ (.int .i64 t.nn)).setCell ⟨b, 2, none⟩ (.int .i64 t.fr)).setCell ⟨b, 3, none⟩ (.int .i64 t.en)).setCell ⟨b, 4, none⟩ (.string t.tx)).setCell ⟨b, 5, none⟩ (.int .u64 t.s0)).setCell ⟨b, 6, none⟩ (.int .u64 t.s1)).setCell ⟨b, 7, none⟩ (.int .u64 t.s2)).setCell ⟨b, 8, none⟩ (.int .u64 t.s3)
set_option maxHeartbeats 2000000 in
theorem st9_tx {W : World} {b : Nat} {t0 : Tk} (h : TX W b t0) (t : Tk) : TX (st9 W b t) b t := by
  have h := h.heap
  have h0 := heap_setCell_same _ b 0 _ 45 (.int .i64 t.kd) h
  have h1 := heap_setCell_same _ b 1 _ 45 (.int .i64 t.nn) h0
  have h2 := heap_setCell_same _ b 2 _ 45 (.int .i64 t.fr) h1
  have h3 := heap_setCell_same _ b 3 _ 45 (.int .i64 t.en) h2
  have h4 := heap_setCell_same _ b 4 _ 45 (.string t.tx) h3
  have h5 := heap_setCell_same _ b 5 _ 45 (.int .u64 t.s0) h4
  have h6 := heap_setCell_same _ b 6 _ 45 (.int .u64 t.s1) h5
  have h7 := heap_setCell_same _ b 7 _ 45 (.int .u64 t.s2) h6
  have h8 := heap_setCell_same _ b 8 _ 45 (.int .u64 t.s3) h7
  refine ⟨?_⟩
  rw [h8]
  simp
theorem st9_below {B : Nat} {w W : World} {b : Nat} (h : Below B w W) (hb : B ≤ b) (t : Tk) : Below B w (st9 W b t) := ((((((((h.setCell (p := ⟨b, 0, none⟩) hb _).setCell (p := ⟨b, 1, none⟩) hb _).setCell (p := ⟨b, 2, none⟩) hb _).setCell (p := ⟨b, 3, none⟩) hb _).setCell (p := ⟨b, 4, none⟩) hb _).setCell (p := ⟨b, 5, none⟩) hb _).setCell (p := ⟨b, 6, none⟩) hb _).setCell (p := ⟨b, 7, none⟩) hb _).setCell (p := ⟨b, 8, none⟩) hb _
end Go.Proofs.YthffklhojdldkaaGreatDoor

namespace Go.Proofs.YthffklhojdldkaaGreatDoor
open Go.RowKit
/-- The table of the place of a lone bit, at 16. -/
structure TZ (W : World) : Prop where
  lt : 3 < W.heap.size
  c : W.cell? ⟨3, 15, none⟩ = some (.int .u8 4)
theorem TZ.later {W W' : World} (h : TZ W) (hb : Below W.heap.size W W') : TZ W' := ⟨Nat.lt_of_lt_of_le h.lt hb.size, (hb.cell (p := ⟨3, 15, none⟩) h.lt).trans h.c⟩
set_option maxRecDepth 100000 in
set_option maxHeartbeats 4000000 in
theorem pow2_16 (w : World) : Calls Tryz.prog 121 #[.int .i64 16] w fun e w' => e = .returned (.bool true) ∧ w' = w := by
  go_enter Tryz.func121, Tryz.ntmps121
  go_wp2_with fail
  go_ret
  exact ⟨rfl, rfl⟩
set_option maxRecDepth 100000 in
set_option maxHeartbeats 4000000 in
theorem tz64_16 (w : World) (h : TZ w) : Calls Tryz.prog 132 #[.int .u64 16] w fun e w' => e = .returned (.int .i64 4) ∧ w' = w := by
  have c := h.c
  have h0 : IntKind.u64.wrap (-16) = 18446744073709551600 := by kernel_rfl
  have h1 : bits BinOp.and IntKind.u64 16 18446744073709551600 = 16 := by kernel_rfl
  have h2 : bits BinOp.and IntKind.u64 16 (IntKind.u64.wrap (-16)) = 16 := by kernel_rfl
  have h3 : IntKind.u64.wrap (16 * 285870213051353865) / 288230376151711744 = 15 := by kernel_rfl
  have h4 : IntKind.u64.wrap 4573923408821661840 / 288230376151711744 = 15 := by kernel_rfl
  go_enter Tryz.func132, Tryz.ntmps132
  go_wp2_with fail
  go_ret
  exact ⟨rfl, rfl⟩
set_option maxRecDepth 100000 in
set_option maxHeartbeats 4000000 in
theorem tz_16 (w : World) (h : TZ w) : Calls Tryz.prog 122 #[.int .u64 16] w fun e w' => e = .returned (.int .i64 4) ∧ w' = w := by
  go_enter Tryz.func122, Tryz.ntmps122
  go_wp2_with fail
  refine (tz64_16 _ h).mono ?_
  rintro e w1 ⟨rfl, rfl⟩
  go_wp2_with fail
  go_ret
  exact ⟨rfl, rfl⟩
end Go.Proofs.YthffklhojdldkaaGreatDoor

namespace Go.Proofs.YthffklhojdldkaaGreatDoor
open Go.RowKit
def zB : Array Value := Array.replicate 65 (.int .u8 0)
theorem alloc128 (w : World) : (Instr.alloc 128 true (.tuple #[])).run Tryz.prog w = .ok (.pointer (some ⟨w.heap.size, 0, none⟩)) (w.alloc (.cells zB 128)) := by kernel_rfl
theorem wpList_alloc128 {ops : Array Oper} {rest : List Oper} {op : Oper} {a : Act} {w : World} {Q : Exit → Act → World → Prop} (hgd : op.guard = none) (ho : op.op = .alloc 128)
    (h : wpList Tryz.prog ops Q rest (a.put op.dst (.pointer (some ⟨w.heap.size, 0, none⟩))) (w.alloc (.cells zB 128))) : wpList Tryz.prog ops Q (op :: rest) a w :=
  wpList_plain hgd fun K hK => by
    unfold Oper.wp execOp
    simp only [ho, Sem.run_bind, alloc128, Result.andThen_ok]
    exact hK _ _ h
/-- The row of 65 bytes whose last ones, from i on, are told. -/
structure FB (W : World) (b i : Nat) (l : List UInt8) : Prop where
  ex : ∃ c : Array Value, W.heap[b]? = some (.cells c 128 (0, 0)) ∧ c.size = 65 ∧ ∀ (j : Nat) x, l[j]? = some x → c[i + j]? = some (.int .u8 (x.toNat : Int))
  len : i + l.length = 65
theorem FB.new (w : World) : FB (w.alloc (.cells zB 128)) w.heap.size 65 [] := ⟨⟨zB, heap_alloc_new w _, rfl, fun j x h => by simp at h⟩, rfl⟩
theorem FB.cell {W : World} {b i : Nat} {l : List UInt8} (h : FB W b i l) (j : Nat) (hj : j < 65) : ∃ u, W.cell? ⟨b, j, none⟩ = some u := by
  obtain ⟨c, h1, h2, _⟩ := h.ex
  exact ⟨c[j]'(by omega), by rw [cell_of_row W b j _ 128 (0, 0) h1]; exact Array.getElem?_eq_getElem _⟩
theorem FB.fz {W : World} {b i : Nat} {l : List UInt8} (h : FB W b i l) (j : Nat) : W.frozen? ⟨b, j, none⟩ = false := by
  obtain ⟨c, h1, _, _⟩ := h.ex
  exact frozen_of_row W b j _ 128 h1
theorem FB.put {W : World} {b i : Nat} {l : List UInt8} (h : FB W b (i + 1) l) (x : UInt8) : FB (W.setCell ⟨b, i, none⟩ (.int .u8 (x.toNat : Int))) b i (x :: l) := by
  obtain ⟨c, h1, h2, h3⟩ := h.ex
  have h4 := h.len
  refine ⟨⟨c.setIfInBounds i (.int .u8 (x.toNat : Int)), heap_setCell_same _ b i _ 128 _ h1, by simpa using h2, ?_⟩, by simp only [List.length_cons]; omega⟩
  intro j y hj
  cases j with
  | zero =>
    have hj : x = y := by simpa using hj
    subst hj
    rw [Nat.add_zero, Array.getElem?_setIfInBounds_self_of_lt (by omega)]
  | succ j =>
    rw [Array.getElem?_setIfInBounds_ne (by omega), show i + (j + 1) = i + 1 + j from by omega]
    exact h3 j y (by simpa using hj)
theorem FB.lt {W : World} {b i : Nat} {l : List UInt8} (h : FB W b i l) : b < W.heap.size := by
  obtain ⟨c, h1, _⟩ := h.ex
  exact (Array.getElem?_eq_some_iff.1 h1).1
theorem asT_go (l : List UInt8) : ∀ r : ByteArray, ((l.map fun x => (x.toNat : Int)).foldl (fun r n => r.push (UInt8.ofNat n.toNat)) r) = r ++ ⟨l.toArray⟩ := by
  induction l with
  | nil => intro r; apply ByteArray.ext; simp
  | cons x l ih =>
    intro r
    rw [List.map_cons, List.foldl_cons, ih]
    apply ByteArray.ext
    simp
theorem asT_nat (l : List UInt8) : asText (l.map fun x => (x.toNat : Int)) = ⟨l.toArray⟩ := by
  unfold asText
  rw [asT_go]
  apply ByteArray.ext
  simp
theorem FB.text {W : World} {b i : Nat} {l : List UInt8} (h : FB W b i l) (n cap : Nat) (hn : n = l.length) : (convert 48 9 (.slice (some ⟨b, i, none⟩) n cap)).run Tryz.prog W = .ok (.string ⟨l.toArray⟩) W := by
  subst hn
  obtain ⟨c, h1, h2, h3⟩ := h.ex
  rw [run_convert_bytes_string W 48 9 5 _ _ _ Tryz.underlying48 Tryz.underlying5 Tryz.underlying9]
  have hc : ∀ (j : Nat) u, ((l.map fun x => Value.int .u8 (x.toNat : Int)))[j]? = some u → W.cell? (Addr.add ⟨b, i, none⟩ j) = some u := fun j u hj => by
    rw [List.getElem?_map] at hj
    cases hx : l[j]? with
    | none => rw [hx] at hj; cases hj
    | some x =>
      rw [hx] at hj
      have hj : Value.int .u8 (x.toNat : Int) = u := by simpa using hj
      subst hj
      rw [Addr.add_lit, cell_of_row W b (i + j) _ 128 (0, 0) h1]
      exact h3 j x hx
  have h5 := run_loadCells_list (P := Tryz.prog) (w := W) ⟨b, i, none⟩ (l.map fun x => Value.int .u8 (x.toNat : Int)) hc
  rw [List.length_map] at h5
  have h6 := run_bytesToString (P := Tryz.prog) W ⟨b, i, none⟩ l.length cap (l.map fun x => (x.toNat : Int)) (by rw [List.map_map]; exact h5)
  rw [h6]
  exact congrArg (fun s => Result.ok (Value.string s) W) (asT_nat l)
theorem and15u (u : Nat) (hu : u < 18446744073709551616) : bits .and .u64 (u : Int) 15 = ((u % 16 : Nat) : Int) := by
  have h := bits_and_u64_nat u 15 hu (by omega)
  rw [show (15 : Nat) = 2 ^ 4 - 1 from rfl, Nat.and_two_pow_sub_one_eq_mod] at h
  exact h
end Go.Proofs.YthffklhojdldkaaGreatDoor

namespace Go.Proofs.YthffklhojdldkaaGreatDoor
open Go.RowKit
def d36 : ByteArray := ⟨#[48, 49, 50, 51, 52, 53, 54, 55, 56, 57, 97, 98, 99, 100, 101, 102, 103, 104, 105, 106, 107, 108, 109, 110, 111, 112, 113, 114, 115, 116, 117, 118, 119, 120, 121, 122]⟩
theorem d36_get : ∀ m : Fin 16, (d36[m.val]'(Nat.lt_of_lt_of_le m.isLt (by decide))) = hexD m.val := by decide
/-- While the digits are laid. -/
structure FI (w W : World) (u0 u i : Nat) : Prop where
  ex : ∃ l, FB W w.heap.size i l ∧ dgT 16 u0 = dgT 16 u ++ l
  b : Below w.heap.size w W
theorem FI.low {w W : World} {u0 u i : Nat} (h : FI w W u0 u i) (hu : u0 ≤ 1114111) : 60 ≤ i ∧ i ≤ 65 := by
  obtain ⟨l, h1, h2⟩ := h.ex
  have h3 := dgT_len 16 (by omega) 5 u0 (by omega)
  have h4 := h1.len
  have h5 : 1 ≤ (dgT 16 u).length := by
    have := dgT_ne 16 u (by omega)
    cases hd : dgT 16 u with
    | nil => exact absurd hd this
    | cons a b => simp
  rw [h2, List.length_append] at h3
  omega
theorem FI.next {w W : World} {u0 u i : Nat} (h : FI w W u0 u (i + 1)) (hu : ¬ u < 16) : FI w (W.setCell ⟨w.heap.size, i, none⟩ (.int .u8 ((hexD (u % 16)).toNat : Int))) u0 (u / 16) i := by
  obtain ⟨l, h1, h2⟩ := h.ex
  refine ⟨⟨hexD (u % 16) :: l, h1.put _, ?_⟩, h.b.setCell (p := ⟨w.heap.size, i, none⟩) (Nat.le_refl _) _⟩
  rw [h2, dgT_hi (by omega) hu, List.append_assoc]
  rfl
theorem FI.last {w W : World} {u0 u i : Nat} (h : FI w W u0 u (i + 1)) (hu : u < 16) : FB (W.setCell ⟨w.heap.size, i, none⟩ (.int .u8 ((hexD u).toNat : Int))) w.heap.size i (dgT 16 u0) ∧ Below w.heap.size w (W.setCell ⟨w.heap.size, i, none⟩ (.int .u8 ((hexD u).toNat : Int))) := by
  obtain ⟨l, h1, h2⟩ := h.ex
  refine ⟨?_, h.b.setCell (p := ⟨w.heap.size, i, none⟩) (Nat.le_refl _) _⟩
  rw [h2, dgT_lo hu]
  exact h1.put _
theorem al128 : Tryz.prog.arrayLen 128 = 65 := by kernel_rfl
theorem slice128 (W : World) (b j : Nat) (hj : j < 65) : (Instr.sliceAt 128 (.pointer (some ⟨b, 0, none⟩)) (some (.int .i64 (j : Int))) none none).run Tryz.prog W = .ok (.slice (some ⟨b, j, none⟩) (65 - j) (65 - j)) W := by
  rw [run_sliceAt_array_l W 128 ⟨b, 0, none⟩ (by simp [Program.arrayLen, Program.elem, Tryz.underlying128]) .i64 (j : Int) (by omega) (by rw [al128]; omega)]
  rw [al128]
  have z5 := Tryz.sizeOf5
  have h1 : ¬ 65 = j := by omega
  simp [Program.elem, Tryz.underlying128, go_sem, z5, h1]
set_option maxRecDepth 100000 in
set_option maxHeartbeats 8000000 in
theorem formatBits_any (u0 : Nat) (hu : u0 ≤ 1114111) (w : World) (hz : TZ w) : Calls Tryz.prog 97 #[.slice none 0 0, .int .u64 u0, .int .i64 16, .bool false, .bool false] w fun e w' => e = .returned (.tuple #[.slice none 0 0, .string ⟨(dgT 16 u0).toArray⟩]) ∧ Below w.heap.size w w' := by
  have HZ := (show Hid _ from hz.later (below_box w (.cells zB 128)))
  have H0 : Hid (FI w (w.alloc (.cells zB 128)) u0 u0 65) := ⟨⟨[], FB.new w, by simp⟩, below_box _ _⟩
  have HU := (show Hid _ from hu)
  clear hz
  go_enter Tryz.func97, Tryz.ntmps97
  go_wp2_with (refine wpList_alloc128 rfl rfl ?_)
  refine (pow2_16 _).mono ?_
  rintro e w1 ⟨rfl, rfl⟩
  go_wp2_with fail
  refine (tz_16 _ HZ.out).mono ?_
  rintro e w1 ⟨rfl, rfl⟩
  clear HZ
  generalize w.alloc (.cells zB 128) = W0 at *
  go_wp2_with fail
  go_loopw [1, 13] (fun t s wr => ∃ u i : Nat, u ≤ 1114111 ∧ t = .int .u64 u ∧ s = .int .i64 i ∧ Hid (FI w wr u0 u i)) (fun t _ _ => (intOf t).toNat)
  case atStart => exact ⟨u0, 65, hu, rfl, rfl, H0⟩
  case round =>
    obtain ⟨u, i, h1, rfl, rfl, HI⟩ := hrel
    have h2 := HI.out.low HU.out
    obtain ⟨j, rfl⟩ : ∃ j, i = j + 1 := ⟨i - 1, by omega⟩
    have e1 : ((j + 1 : Nat) : Int) - 1 = (j : Int) := by omega
    have z0 : (0 : Int) ≤ (j : Int) := by omega
    have z1 : (j : Int) < 65 := by omega
    obtain ⟨y, c0⟩ : ∃ y, wr.cell? ⟨w.heap.size, j, none⟩ = some y := by
      obtain ⟨l, hf, _⟩ := HI.out.ex
      exact hf.cell j (by omega)
    have f0 : wr.frozen? ⟨w.heap.size, j, none⟩ = false := by
      obtain ⟨l, hf, _⟩ := HI.out.ex
      exact hf.fz j
    by_cases hlt : u < 16
    · have v : ¬ (16 : Int) ≤ (u : Int) := by omega
      have HL := (show Hid _ from HI.out.last hlt)
      have HD := (show Hid _ from d36_get ⟨u, hlt⟩)
      have u0' : (0 : Int) ≤ (u : Int) := by omega
      have u1' : (u : Int) < 36 := by omega
      rw [← d36_get ⟨u, hlt⟩] at HL
      unfold d36 at HL
      dsimp only at HL
      have hsl : ∀ W, (Instr.sliceAt 128 (.pointer (some ⟨w.heap.size, 0, none⟩)) (some (.int .i64 (j : Int))) none none).run Tryz.prog W = .ok (.slice (some ⟨w.heap.size, j, none⟩) (65 - j) (65 - j)) W := fun W => slice128 W _ j (by omega)
      have hcv := HL.out.1.text (65 - j) (65 - j) (by have := HL.out.1.len; omega)
      clear HI HD
      go_wp2_with fail
      go_ret2
      exact ⟨rfl, HL.out.2⟩
    · have v : (16 : Int) ≤ (u : Int) := by omega
      have HL := (show Hid _ from HI.out.next hlt)
      have hm : u % 16 < 16 := by omega
      have ha := and15u u (by omega)
      have t3 : (u : Int) / 16 = ((u / 16 : Nat) : Int) := by omega
      have q1 : u / 16 < u := by omega
      have q2 : u / 16 ≤ 1114111 := by omega
      rw [← d36_get ⟨u % 16, hm⟩] at HL
      unfold d36 at HL
      dsimp only at HL
      clear HI
      generalize u / 16 = p at *
      generalize u % 16 = m at *
      have u0' : (0 : Int) ≤ (m : Int) := by omega
      have u1' : (m : Int) < 36 := by omega
      go_wp2_with fail
      go_roundw
      case rel => exact ⟨p, j, q2, by go_num, by go_num, HL⟩
      case measure => simp [intOf]; omega
set_option maxRecDepth 100000 in
set_option maxHeartbeats 4000000 in
theorem fmtInt_in (u : Nat) (hu : u ≤ 1114111) (w : World) (hz : TZ w) : Calls Tryz.prog 70 #[.int .i64 u, .int .i64 16] w fun e w' => e = .returned (.string ⟨(dgT 16 u).toArray⟩) ∧ Below w.heap.size w w' := by
  have hw : IntKind.u64.wrap (u : Int) = (u : Int) := by rw [IntKind.wrap_u64]; omega
  have v : ¬ (u : Int) < 0 := by omega
  go_enter Tryz.func70, Tryz.ntmps70
  go_wp2_with fail
  refine (formatBits_any u hu w hz).mono ?_
  rintro e w1 ⟨rfl, hb⟩
  go_wp2_with fail
  go_ret
  exact ⟨rfl, hb⟩
set_option maxRecDepth 100000 in
set_option maxHeartbeats 4000000 in
theorem fmtUint_in (u : Nat) (hu : u ≤ 1114111) (w : World) (hz : TZ w) : Calls Tryz.prog 71 #[.int .u64 u, .int .i64 16] w fun e w' => e = .returned (.string ⟨(dgT 16 u).toArray⟩) ∧ Below w.heap.size w w' := by
  go_enter Tryz.func71, Tryz.ntmps71
  go_wp2_with fail
  refine (formatBits_any u hu w hz).mono ?_
  rintro e w1 ⟨rfl, hb⟩
  go_wp2_with fail
  go_ret
  exact ⟨rfl, hb⟩
set_option maxRecDepth 100000 in
set_option maxHeartbeats 4000000 in
theorem fmtInt_any (u : Nat) (hu : u ≤ 1114111) (w : World) (hz : TZ w) : Calls Tryz.prog 38 #[.int .i64 u, .int .i64 16] w fun e w' => e = .returned (.string ⟨(dgT 16 u).toArray⟩) ∧ Below w.heap.size w w' := by
  go_enter Tryz.func38, Tryz.ntmps38
  go_wp2_with fail
  refine (fmtInt_in u hu w hz).mono ?_
  rintro e w1 ⟨rfl, hb⟩
  go_wp2_with fail
  go_ret
  exact ⟨rfl, hb⟩
set_option maxRecDepth 100000 in
set_option maxHeartbeats 4000000 in
theorem fmtUint_any (u : Nat) (hu : u ≤ 1114111) (w : World) (hz : TZ w) : Calls Tryz.prog 39 #[.int .u64 u, .int .i64 16] w fun e w' => e = .returned (.string ⟨(dgT 16 u).toArray⟩) ∧ Below w.heap.size w w' := by
  go_enter Tryz.func39, Tryz.ntmps39
  go_wp2_with fail
  refine (fmtUint_in u hu w hz).mono ?_
  rintro e w1 ⟨rfl, hb⟩
  go_wp2_with fail
  go_ret
  exact ⟨rfl, hb⟩
end Go.Proofs.YthffklhojdldkaaGreatDoor

namespace Go.Proofs.YthffklhojdldkaaGreatDoor
open Go.RowKit
def lnB (c : Int) : Bool := decide (0 ≤ c) && !(c == 10)
def gpGo (s : ByteArray) : Nat → Nat → Nat
  | 0, i => i
  | f + 1, i => if i < s.size then (if chr s i = 45 ∧ chr s (i + 1) = 45 then gpGo s f (spN lnB s i) else if chr s i = 9 ∨ chr s i = 10 ∨ chr s i = 13 ∨ chr s i = 32 then gpGo s f (i + 1) else i) else i
def gapN (s : ByteArray) (i : Nat) : Nat := gpGo s (s.size + 1) i
/-- The sign of a kind. -/
def sgn (k : Nat) : List UInt8 :=
  if k = 6 then [60, 45] else if k = 27 then [45, 62] else if k = 7 then [47] else if k = 8 then [38] else if k = 9 then [33] else if k = 10 then [63] else if k = 11 then [42] else if k = 12 then [43] else if k = 16 then [40] else if k = 17 then [41]
  else if k = 18 then [46] else if k = 22 then [58, 125] else if k = 23 then [123, 124] else if k = 24 then [124, 125] else if k = 25 then [123, 126] else if k = 26 then [126, 125] else if k = 19 then [123] else if k = 20 then [125] else []
end Go.Proofs.YthffklhojdldkaaGreatDoor

namespace Go.Proofs.YthffklhojdldkaaGreatDoor
open Go.RowKit
def esV (i : Nat) : Option (Nat × Nat) → Value
  | some p => .tuple #[.int .i64 p.1, .int .i64 p.2]
  | none => .tuple #[.int .i64 (-1), .int .i64 i]
end Go.Proofs.YthffklhojdldkaaGreatDoor

namespace Go.Proofs.YthffklhojdldkaaGreatDoor
open Go.RowKit
theorem TX.grown {W W' : World} {b : Nat} {t : Tk} {X : Option Nat} (h : TX W b t) (hg : W.grownBy W' X) (hx : X ≠ some b) : TX W' b t := h.same (hg.block b h.lt (fun e => hx e.symm))
end Go.Proofs.YthffklhojdldkaaGreatDoor

namespace Go.Proofs.YthffklhojdldkaaGreatDoor
open Go.RowKit
theorem ownB {W W' : World} {B e s n : Nat} {v : Value} {xs : List Value} (h : W.ownsRow B e s v n xs) (hb : Below W.heap.size W W') : W'.ownsRow B e s v n xs := by
  refine ⟨h.1, ?_⟩
  rcases h.2 with hn | ⟨g, cap, cur, rfl, hB, hgg, rest⟩
  · exact .inl hn
  · refine .inr ⟨g, cap, cur, rfl, hB, ?_, rest⟩
    rw [hb.block g (Array.getElem?_eq_some_iff.1 hgg).1]
    exact hgg
theorem gpGo_bd (s : ByteArray) : ∀ f i, i ≤ s.size → i ≤ gpGo s f i ∧ gpGo s f i ≤ s.size := by
  intro f
  induction f with
  | zero => intro i hi; exact ⟨Nat.le_refl _, hi⟩
  | succ f ih =>
    intro i hi
    rw [gpGo]
    split
    · split
      · have h1 := spN_ge lnB s (by decide) i
        have h2 := spN_le lnB s (by decide) i hi
        obtain ⟨a, b⟩ := ih (spN lnB s i) h2
        exact ⟨by omega, b⟩
      · split
        · obtain ⟨a, b⟩ := ih (i + 1) (by omega)
          exact ⟨by omega, b⟩
        · exact ⟨Nat.le_refl _, hi⟩
    · exact ⟨Nat.le_refl _, hi⟩
theorem gapN_bd {s : ByteArray} {i : Nat} (h : i ≤ s.size) : i ≤ gapN s i ∧ gapN s i ≤ s.size := gpGo_bd s _ i h
def tkV (t : Tk) : List Value := [.int .i64 t.kd, .int .i64 t.nn, .int .i64 t.fr, .int .i64 t.en, .string t.tx, .int .u64 t.s0, .int .u64 t.s1, .int .u64 t.s2, .int .u64 t.s3]
def tkc (l : List Tk) : List Value := l.flatMap tkV
theorem tkc_append (a b : List Tk) : tkc (a ++ b) = tkc a ++ tkc b := List.flatMap_append
theorem tkc_one (t : Tk) : tkc [t] = tkV t := by unfold tkc; rw [List.flatMap_cons, List.flatMap_nil, List.append_nil]
theorem tk_one (t : Tk) : ∀ u ∈ tkV t, u.oneCell' = true := fun u hu => by
  simp only [tkV, List.mem_cons, List.not_mem_nil, or_false] at hu
  rcases hu with rfl | rfl | rfl | rfl | rfl | rfl | rfl | rfl | rfl <;> rfl
def lexGo (one : Nat → Sum Tk (Nat × Int)) (s : ByteArray) : Nat → List Tk → Nat → Sum (List Tk) (Nat × Int)
  | 0, out, _ => .inl out
  | f + 1, out, i => if i < s.size then (match one i with
    | .inr q => .inr q
    | .inl t => lexGo one s f (out ++ [t]) (gapN s t.en.toNat)) else .inl out
def lexR (one : Nat → Sum Tk (Nat × Int)) (s : ByteArray) : Sum (List Tk) (Nat × Int) := if 65536 < s.size then .inr (0, 2) else lexGo one s (s.size + 1) [] (gapN s 0)
theorem Tryz.info36 : (Tryz.prog.info? 45).map (fun i => (i.zero, i.size, i.bytes)) = some (some (tkG tk0), 9, 80) := by kernel_rfl
end Go.Proofs.YthffklhojdldkaaGreatDoor

namespace Go.Proofs.YthffklhojdldkaaGreatDoor
open Go.RowKit
theorem eq26 (a b c d : Int) (w : World) : (Op.equalIn 10000 37 (.agg #[.int .i64 a, .int .i64 b]) (.agg #[.int .i64 c, .int .i64 d])).run Tryz.prog w = .ok (a == c && b == d) w := by
  have u3 := Tryz.underlying3
  have a3 := Tryz.isAgg3
  have z3 := Tryz.sizeOf3
  have u4 := Tryz.underlying24
  have a4 := Tryz.isAgg24
  have z4 := Tryz.sizeOf24
  have hS : Tryz.prog.underlying 37 = some (.struct (Tryz.prog.fieldsOf 37)) := by kernel_rfl
  have hp : Tryz.prog.stoodInHeld 37 = false := by kernel_rfl
  rw [show (10000 : Nat) = 9999 + 1 from rfl, run_equalIn_agg w 9999 37 _ _ hS hp]
  simp only [Program.fieldsOf, Tryz.underlying37]
  go_simp
  by_cases h1 : a = c <;> by_cases h2 : b = d <;> simp [h1, h2]
theorem eqSet (a b c d : Int) (w : World) : (Op.equalIn 9999 43 (.agg #[.int .u64 a, .int .u64 b, .int .u64 c, .int .u64 d]) (.agg #[.int .u64 a, .int .u64 b, .int .u64 c, .int .u64 d])).run Tryz.prog w = .ok true w := by
  have u3 := Tryz.underlying41
  have a3 := Tryz.isAgg41
  have z3 := Tryz.sizeOf41
  rw [show (9999 : Nat) = 9998 + 1 from rfl, Op.equalIn]
  simp only [Sem.run_bind, run_underlying Tryz.underlying43, Result.andThen_ok]
  simp only [Std.Legacy.Range.forIn_eq_forIn_range', Std.Legacy.Range.size, Nat.sub_zero, Nat.add_sub_cancel, Nat.div_one, List.range'_succ, List.range'_zero, List.forIn_cons, List.forIn_nil]
  go_simp
set_option maxRecDepth 100000 in
theorem tok_neq (t : Tk) (W : World) : (binOp .neq 45 (tkG t) (tkG t)).run Tryz.prog W = .ok (.bool false) W := by
  have hp : Tryz.prog.stoodInHeld 45 = false := by kernel_rfl
  simp [go_sem, Tryz.underlying45, Tryz.underlying3, Tryz.underlying9, Tryz.isAgg43, Tryz.isAgg3, Tryz.isAgg9, Tryz.sizeOf43, hp, eqSet]
set_option maxRecDepth 100000 in
theorem tok_eql (t : Tk) (W : World) : (binOp .eql 45 (tkG t) (tkG t)).run Tryz.prog W = .ok (.bool true) W := by
  have hp : Tryz.prog.stoodInHeld 45 = false := by kernel_rfl
  simp [go_sem, Tryz.underlying45, Tryz.underlying3, Tryz.underlying9, Tryz.isAgg43, Tryz.isAgg3, Tryz.isAgg9, Tryz.sizeOf43, hp, eqSet]
/-- A token's cells in a row. -/
structure TR (W : World) (g o : Nat) (t : Tk) : Prop where
  c0 : W.cell? ⟨g, o, none⟩ = some (.int .i64 t.kd)
  c1 : W.cell? ⟨g, o + 1, none⟩ = some (.int .i64 t.nn)
  c2 : W.cell? ⟨g, o + 2, none⟩ = some (.int .i64 t.fr)
  c3 : W.cell? ⟨g, o + 3, none⟩ = some (.int .i64 t.en)
  c4 : W.cell? ⟨g, o + 4, none⟩ = some (.string t.tx)
  c5 : W.cell? ⟨g, o + 5, none⟩ = some (.int .u64 t.s0)
  c6 : W.cell? ⟨g, o + 6, none⟩ = some (.int .u64 t.s1)
  c7 : W.cell? ⟨g, o + 7, none⟩ = some (.int .u64 t.s2)
  c8 : W.cell? ⟨g, o + 8, none⟩ = some (.int .u64 t.s3)
/-- A slice reads as a list of tokens. -/
structure RdT (W : World) (A : Option Addr) (L : List Tk) : Prop where
  rd : L ≠ [] → ∃ g, A = some ⟨g, 0, none⟩ ∧ g < W.heap.size ∧ ∀ (k : Nat) t, L[k]? = some t → TR W g (k * 9) t
theorem RdT.later {W W' : World} {A : Option Addr} {L : List Tk} (h : RdT W A L) (hb : Below W.heap.size W W') : RdT W' A L := ⟨fun hne => by
  obtain ⟨g, e, lt, hc⟩ := h.rd hne
  have key : ∀ j, W'.cell? ⟨g, j, none⟩ = W.cell? ⟨g, j, none⟩ := fun j => hb.cell (p := ⟨g, j, none⟩) lt
  refine ⟨g, e, Nat.lt_of_lt_of_le lt hb.size, fun k t hk => ?_⟩
  obtain ⟨c0, c1, c2, c3, c4, c5, c6, c7, c8⟩ := hc k t hk
  exact ⟨(key _).trans c0, (key _).trans c1, (key _).trans c2, (key _).trans c3, (key _).trans c4, (key _).trans c5, (key _).trans c6, (key _).trans c7, (key _).trans c8⟩⟩
theorem tkc_get (L : List Tk) : ∀ (k j : Nat) (t : Tk) (u : Value), L[k]? = some t → (tkV t)[j]? = some u → (tkc L)[k * 9 + j]? = some u := by
  induction L with
  | nil => intro k j t u h; simp at h
  | cons a L ih =>
    intro k j t u h hj
    have e : tkc (a :: L) = tkV a ++ tkc L := by unfold tkc; rw [List.flatMap_cons]
    have hl : (tkV a).length = 9 := rfl
    rw [e]
    cases k with
    | zero =>
      have h : a = t := by simpa using h
      subst h
      rw [Nat.zero_mul, Nat.zero_add, List.getElem?_append_left (by have := (List.getElem?_eq_some_iff.1 hj).1; omega)]
      exact hj
    | succ k =>
      rw [List.getElem?_append_right (by omega), hl, show (k + 1) * 9 + j - 9 = k * 9 + j from by omega]
      exact ih k j t u (by simpa using h) hj
theorem own_rdt {W : World} {B n : Nat} {v : Value} {L : List Tk} (h : W.ownsRow B 45 9 v n (tkc L)) (hn : n = L.length) : ∃ A c, v = .slice A L.length c ∧ RdT W A L := by
  subst hn
  have hc := h
  rcases h.2 with ⟨rfl, h0⟩ | ⟨g, cap, cur, rfl, _⟩
  · exact ⟨none, 0, by rw [h0], ⟨fun hl => absurd (List.eq_nil_of_length_eq_zero h0) hl⟩⟩
  · refine ⟨_, cap, rfl, ⟨fun _ => ⟨g, rfl, (hc.lt g rfl).2, fun k t hk => ?_⟩⟩⟩
    have key : ∀ j u, (tkV t)[j]? = some u → W.cell? ⟨g, k * 9 + j, none⟩ = some u := fun j u hj => by
      have := (hc.cells (g := g) rfl) (k * 9 + j) u (tkc_get L k j t u hk hj)
      rwa [Addr.add_lit, Nat.zero_add] at this
    exact ⟨key 0 _ rfl, key 1 _ rfl, key 2 _ rfl, key 3 _ rfl, key 4 _ rfl, key 5 _ rfl, key 6 _ rfl, key 7 _ rfl, key 8 _ rfl⟩
end Go.Proofs.YthffklhojdldkaaGreatDoor

namespace Go.Proofs.YthffklhojdldkaaGreatDoor
open Go.RowKit
theorem eqW (x y : BitVec 256) : (x == y) = (wd x 0 == wd y 0 && (wd x 1 == wd y 1 && (wd x 2 == wd y 2 && wd x 3 == wd y 3))) := by
  rw [Bool.eq_iff_iff]
  simp only [Bool.and_eq_true, beq_iff_eq]
  exact ⟨fun h => by rw [h]; simp, fun ⟨a, b, c, d⟩ => set_ext x y a b c d⟩
theorem eq24w (a b c d a' b' c' d' : Int) (w : World) : (Op.equalIn 10000 43 (.agg #[.int .u64 a, .int .u64 b, .int .u64 c, .int .u64 d]) (.agg #[.int .u64 a', .int .u64 b', .int .u64 c', .int .u64 d'])).run Tryz.prog w = .ok (a == a' && (b == b' && (c == c' && d == d'))) w := by
  have u3 := Tryz.underlying41
  have a3 := Tryz.isAgg41
  have z3 := Tryz.sizeOf41
  rw [show (10000 : Nat) = 9999 + 1 from rfl, Op.equalIn]
  simp only [Sem.run_bind, run_underlying Tryz.underlying43, Result.andThen_ok]
  simp only [Std.Legacy.Range.forIn_eq_forIn_range', Std.Legacy.Range.size, Nat.sub_zero, Nat.add_sub_cancel, Nat.div_one, List.range'_succ, List.range'_zero, List.forIn_cons, List.forIn_nil]
  go_simp
  by_cases h1 : a = a' <;> by_cases h2 : b = b' <;> by_cases h3 : c = c' <;> by_cases h4 : d = d' <;> simp [h1, h2, h3, h4]
theorem eq24 (x y : BitVec 256) (w : World) : (Op.equalIn 10000 43 (.agg #[.int .u64 (wd x 0), .int .u64 (wd x 1), .int .u64 (wd x 2), .int .u64 (wd x 3)]) (.agg #[.int .u64 (wd y 0), .int .u64 (wd y 1), .int .u64 (wd y 2), .int .u64 (wd y 3)])).run Tryz.prog w = .ok (x == y) w := by
  rw [eq24w, eqW]
end Go.Proofs.YthffklhojdldkaaGreatDoor

namespace Go.Proofs.YthffklhojdldkaaGreatDoor
open Go.RowKit
def hxB (c : Int) : Bool := dgB c || (decide (97 ≤ c) && decide (c ≤ 102))
def blB (c : Int) : Bool := c == 9 || c == 10 || c == 13 || c == 32
set_option maxRecDepth 100000 in
set_option maxHeartbeats 4000000 in
theorem pbegins_any (c : Int) (w : World) : Calls Tryz.prog 46 #[.int .u8 c] w fun e w' => e = .returned (.bool (hdB c)) ∧ w' = w := by
  by_cases a1 : 97 ≤ c <;> by_cases a2 : c ≤ 122 <;> by_cases a3 : 65 ≤ c <;> by_cases a4 : c ≤ 90 <;> by_cases a5 : c = 95 <;> first
    | (exfalso; omega)
    | (subst a5; go_enter Tryz.func46, Tryz.ntmps46; go_wp2_with fail; go_ret; exact ⟨rfl, rfl⟩)
    | (have a6 : (c == 95) = false := beq_eq_false_iff_ne.2 a5; go_enter Tryz.func46, Tryz.ntmps46; go_wp2_with fail; go_ret; exact ⟨by simp [hdB, *], rfl⟩)
set_option maxRecDepth 100000 in
set_option maxHeartbeats 4000000 in
theorem pdigit_any (c : Int) (w : World) : Calls Tryz.prog 48 #[.int .u8 c] w fun e w' => e = .returned (.bool (dgB c)) ∧ w' = w := by
  by_cases a1 : 48 ≤ c <;> by_cases a2 : c ≤ 57 <;> first
    | (exfalso; omega)
    | (go_enter Tryz.func48, Tryz.ntmps48; go_wp2_with fail; go_ret; exact ⟨by simp [dgB, *], rfl⟩)
set_option maxRecDepth 100000 in
set_option maxHeartbeats 4000000 in
theorem pofname_any (c : Int) (w : World) : Calls Tryz.prog 78 #[.int .u8 c] w fun e w' => e = .returned (.bool (nmB c)) ∧ w' = w := by
  have HH : Hid (∀ w, Calls Tryz.prog 46 #[.int .u8 c] w fun e w' => e = .returned (.bool (hdB c)) ∧ w' = w) := fun w => pbegins_any c w
  have HD : Hid (∀ w, Calls Tryz.prog 48 #[.int .u8 c] w fun e w' => e = .returned (.bool (dgB c)) ∧ w' = w) := fun w => pdigit_any c w
  cases hh : hdB c with
  | true =>
    have HE : Hid (nmB c = true) := by show nmB c = true; unfold nmB; rw [hh]; rfl
    rw [hh] at HH
    clear HD hh
    go_enter Tryz.func78, Tryz.ntmps78
    go_wp2_with fail
    refine (HH.out _).mono ?_
    rintro e w ⟨rfl, rfl⟩
    go_wp2_with fail
    go_ret
    exact ⟨by rw [HE.out]; rfl, rfl⟩
  | false =>
    have HE : Hid (nmB c = dgB c) := by show nmB c = _; unfold nmB; rw [hh]; rfl
    rw [hh] at HH
    clear hh
    go_enter Tryz.func78, Tryz.ntmps78
    go_wp2_with fail
    refine (HH.out _).mono ?_
    rintro e w ⟨rfl, rfl⟩
    go_wp2_with fail
    refine (HD.out _).mono ?_
    rintro e w ⟨rfl, rfl⟩
    go_wp2_with fail
    go_ret
    exact ⟨by rw [HE.out]; rfl, rfl⟩
set_option maxRecDepth 100000 in
set_option maxHeartbeats 4000000 in
theorem phexd_any (c : Int) (w : World) : Calls Tryz.prog 127 #[.int .u8 c] w fun e w' => e = .returned (.bool (hxB c)) ∧ w' = w := by
  have HD : Hid (∀ w, Calls Tryz.prog 48 #[.int .u8 c] w fun e w' => e = .returned (.bool (dgB c)) ∧ w' = w) := fun w => pdigit_any c w
  cases hh : dgB c with
  | true =>
    have HE : Hid (hxB c = true) := by show hxB c = true; unfold hxB; rw [hh]; rfl
    rw [hh] at HD
    clear hh
    go_enter Tryz.func127, Tryz.ntmps127
    go_wp2_with fail
    refine (HD.out _).mono ?_
    rintro e w ⟨rfl, rfl⟩
    go_wp2_with fail
    go_ret
    exact ⟨by rw [HE.out]; rfl, rfl⟩
  | false =>
    have HE : Hid (hxB c = (decide (97 ≤ c) && decide (c ≤ 102))) := by show hxB c = _; unfold hxB; rw [hh]; rfl
    rw [hh] at HD
    clear hh
    by_cases a1 : 97 ≤ c <;> by_cases a2 : c ≤ 102 <;> first
      | (exfalso; omega)
      | (go_enter Tryz.func127, Tryz.ntmps127
         go_wp2_with fail
         refine (HD.out _).mono ?_
         rintro e w ⟨rfl, rfl⟩
         go_wp2_with fail
         go_ret
         exact ⟨by rw [HE.out]; simp [*], rfl⟩)
set_option maxRecDepth 100000 in
set_option maxHeartbeats 4000000 in
theorem runEnd_of (F : Nat) (P : Int → Bool) (hn : P (-1) = false) (he : ∀ args w, (callFunc F args).run Tryz.prog w = .ok (.enter F args) w)
    (HC : ∀ c w, Calls Tryz.prog F #[.int .u8 c] w fun e w' => e = .returned (.bool (P c)) ∧ w' = w) (s : ByteArray) (i : Nat) (hs : s.size ≤ 140737488355328) (hi : i ≤ s.size) (w : World) :
    Calls Tryz.prog 77 #[.string s, .int .i64 i, .func (.func F) #[] #[]] w fun e w' => e = .returned (.int .i64 (spN P s i)) ∧ w' = w := by
  have HP : Hid (∀ k (h : k < s.size) w, Calls Tryz.prog F #[.int .u8 (s[k].toNat : Int)] w fun e w' => e = .returned (.bool (P (chr s k))) ∧ w' = w) := fun k h w => by rw [chr_in h]; exact HC _ w
  have HN : Hid (∀ k, P (chr s k) = true → spN P s k = spN P s (k + 1)) := fun k h => (spN_next hn h).2
  have HS : Hid (∀ k, P (chr s k) = false → spN P s k = k) := fun k h => spN_stop h
  have HO : Hid (∀ k, ¬ k < s.size → spN P s k = k) := fun k h => spN_stop (by rw [chr_out h]; exact hn)
  clear HC
  go_enter Tryz.func77, Tryz.ntmps77
  go_wp2_with fail
  go_loopw [1] (fun t wr => ∃ k : Nat, k ≤ s.size ∧ t = .int .i64 k ∧ wr = w ∧ Hid (spN P s k = spN P s i)) (fun t _ => s.size - (intOf t).toNat)
  case atStart => exact ⟨i, hi, rfl, rfl, rfl⟩
  case round =>
    obtain ⟨k, hk, rfl, rfl, HI⟩ := hrel
    have z0 : (0 : Int) ≤ (k : Int) := by omega
    by_cases h1 : k < s.size
    · have z1 : (k : Int) < (s.size : Int) := by omega
      have HPk := (show Hid _ from HP.out k h1)
      cases hp : P (chr s k) with
      | true =>
        have HI2 : Hid (spN P s (k + 1) = spN P s i) := (HN.out k hp).symm.trans HI.out
        rw [hp] at HPk
        clear HP HN HS HO hp HI
        go_wp2_with fail
        refine (HPk.out _).mono ?_
        rintro e w ⟨rfl, rfl⟩
        go_wp2_with fail
        go_roundw
        case rel => exact ⟨k + 1, by omega, by go_num, trivial, HI2⟩
        case measure => simp [intOf]; omega
      | false =>
        have HI2 : Hid (spN P s i = k) := HI.out.symm.trans (HS.out k hp)
        rw [hp] at HPk
        clear HP HN HS HO hp HI
        go_wp2_with fail
        refine (HPk.out _).mono ?_
        rintro e w ⟨rfl, rfl⟩
        go_wp2_with fail
        go_ret
        exact ⟨by rw [HI2.out]; rfl, rfl⟩
    · have z1 : ¬ (k : Int) < (s.size : Int) := by omega
      have HI2 : Hid (spN P s i = k) := HI.out.symm.trans (HO.out k h1)
      clear HP HN HS HO HI
      go_wp2_with fail
      go_ret
      exact ⟨by rw [HI2.out]; rfl, rfl⟩
theorem runName_any (s : ByteArray) (i : Nat) (hs : s.size ≤ 140737488355328) (hi : i ≤ s.size) (w : World) :
    Calls Tryz.prog 77 #[.string s, .int .i64 i, .func (.func 78) #[] #[]] w fun e w' => e = .returned (.int .i64 (spN nmB s i)) ∧ w' = w := runEnd_of 78 nmB (by decide) (enters_of Tryz.func78 (by kernel_rfl) rfl) pofname_any s i hs hi w
theorem runDigit_any (s : ByteArray) (i : Nat) (hs : s.size ≤ 140737488355328) (hi : i ≤ s.size) (w : World) :
    Calls Tryz.prog 77 #[.string s, .int .i64 i, .func (.func 48) #[] #[]] w fun e w' => e = .returned (.int .i64 (spN dgB s i)) ∧ w' = w := runEnd_of 48 dgB (by decide) (enters_of Tryz.func48 (by kernel_rfl) rfl) pdigit_any s i hs hi w
theorem runHex_any (s : ByteArray) (i : Nat) (hs : s.size ≤ 140737488355328) (hi : i ≤ s.size) (w : World) :
    Calls Tryz.prog 77 #[.string s, .int .i64 i, .func (.func 127) #[] #[]] w fun e w' => e = .returned (.int .i64 (spN hxB s i)) ∧ w' = w := runEnd_of 127 hxB (by decide) (enters_of Tryz.func127 (by kernel_rfl) rfl) phexd_any s i hs hi w
end Go.Proofs.YthffklhojdldkaaGreatDoor
