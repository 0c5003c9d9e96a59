/- DERIVED. Walks, laid together: RdA, RdB, RdC, RdD. -/
import Derived.Test.YtlcmlipldkpliaaRdP
import Derived.Test.YtlcmlipldkpliaaClassA
import Derived.Test.YtlcmlipldkpliaaClassQ
import Derived.Test.YtlcmlipldkpliaaOps
namespace Go.Proofs.Ytlcmlipldkpliaa
open Go.RowKit

set_option maxRecDepth 100000 in
set_option maxHeartbeats 1000000 in
theorem standsAt_any (s : ByteArray) (i : Nat) (c : Int) (hc : 0 ≤ c) (w : World) :
    Calls Try.prog 66 #[.string s, .int .i64 i, .int .u8 c] w fun e w' => e = .returned (.bool (chr s i == c)) ∧ w' = w := by
  by_cases h : i < s.size
  · have HE := (show Hid _ from chr_in h)
    have h0 : (0 : Int) ≤ (i : Int) := by omega
    have h1 : (i : Int) < (s.size : Int) := by omega
    go_enter Try.func66, Try.ntmps66
    go_wp2
    go_ret
    exact ⟨by rw [HE.out]; rfl, rfl⟩
  · have HE : Hid ((chr s i == c) = false) := (by show (chr s i == c) = false; rw [chr_out h]; exact beq_eq_false_iff_ne.2 (by omega))
    have h1 : ¬ (i : Int) < (s.size : Int) := by omega
    go_enter Try.func66, Try.ntmps66
    go_wp2
    go_ret
    exact ⟨ret_bool HE.out.symm, rfl⟩

/-- The digits of 16. -/
abbrev digs : ByteArray := ⟨#[48, 49, 50, 51, 52, 53, 54, 55, 56, 57, 97, 98, 99, 100, 101, 102]⟩
theorem idx_hex (c : UInt8) : Lib.indexByte digs.data.toList c = hexV (c.toNat : Int) := by
  have key : ∀ n, n < 256 → Lib.indexByte digs.data.toList (UInt8.ofNat n) = hexV (n : Int) := by decide +kernel
  have := key c.toNat c.toNat_lt
  rw [UInt8.ofNat_toNat] at this
  exact this
theorem index_hex (c : UInt8) (w : World) : Calls Try.prog 92 #[.string digs, .int .u8 (c.toNat : Int)] w fun e w' => e = .returned (.int .i64 (hexV (c.toNat : Int))) ∧ w' = w := by
  refine (Try.strings_IndexByte digs (c.toNat : Int) w).mono ?_
  rintro e w' ⟨rfl, rfl⟩
  refine ⟨?_, rfl⟩
  rw [← idx_hex]
  simp

/-- What a reading of one item answers. -/
def itV : Option (Nat × Nat) → Value
  | none => .tuple #[.int .i64 0, .int .i64 0, .bool false]
  | some (b, n) => .tuple #[.int .i64 b, .int .i64 n, .bool true]

theorem ret_it {b n : Nat} {b' n' : Int} (hb : b' = b) (hn : n' = n) : Ending.returned (.tuple #[.int .i64 b', .int .i64 n', .bool true]) = .returned (itV (some (b, n))) := by rw [hb, hn]; rfl

set_option maxRecDepth 100000 in
set_option maxHeartbeats 1000000 in
theorem readHex_any (s : ByteArray) (i : Nat) (hi : i + 1 < s.size) (hs : s.size ≤ 140737488355328) (w : World) :
    Calls Try.prog 91 #[.string s, .int .i64 i] w fun e w' => e = .returned (itV (rdHex s i)) ∧ w' = w := by
  by_cases h : i + 3 < s.size
  · have h2 : i + 2 < s.size := by omega
    have hb1 := hexV_bd (s[i + 2].toNat : Int)
    have hb2 := hexV_bd (s[i + 3].toNat : Int)
    have HE : Hid (rdHex s i = if 0 ≤ hexV (s[i + 2].toNat : Int) ∧ 0 ≤ hexV (s[i + 3].toNat : Int) then some ((16 * hexV (s[i + 2].toNat : Int) + hexV (s[i + 3].toNat : Int)).toNat, i + 4) else none) := (by show rdHex s i = _; unfold rdHex; rw [chr_in h, chr_in h2])
    have HI : Hid (∀ w, Calls Try.prog 92 #[.string digs, .int .u8 (s[i + 2].toNat : Int)] w fun e w' => e = .returned (.int .i64 (hexV (s[i + 2].toNat : Int))) ∧ w' = w) := fun w => index_hex _ w
    have HJ : Hid (∀ w, Calls Try.prog 92 #[.string digs, .int .u8 (s[i + 3].toNat : Int)] w fun e w' => e = .returned (.int .i64 (hexV (s[i + 3].toNat : Int))) ∧ w' = w) := fun w => index_hex _ w
    go_enter Try.func91, Try.ntmps91
    go_wp2_with fail
    refine (HI.out _).mono ?_
    rintro e w' ⟨rfl, rfl⟩
    clear HI
    go_wp2_with fail
    refine (HJ.out _).mono ?_
    rintro e w' ⟨rfl, rfl⟩
    clear HJ
    generalize hexV (s[i + 2].toNat : Int) = a at *
    generalize hexV (s[i + 3].toNat : Int) = b at *
    by_cases ha : 0 ≤ a
    · by_cases hb : 0 ≤ b
      · go_wp2
        go_ret3
        exact ⟨by rw [HE.out, if_pos ⟨ha, hb⟩]; exact ret_it (by omega) (by omega), rfl⟩
      · go_wp2
        go_ret3
        exact ⟨by rw [HE.out, if_neg (fun h => by omega)]; rfl, rfl⟩
    · go_wp2
      go_ret3
      exact ⟨by rw [HE.out, if_neg (fun h => by omega)]; rfl, rfl⟩
  · have h1 : ¬ (i : Int) + 3 < (s.size : Int) := by omega
    have HE : Hid (rdHex s i = none) := (by show rdHex s i = none; unfold rdHex; rw [chr_out h]; rw [if_neg]; rintro ⟨_, h2⟩; simp [hexV] at h2)
    go_enter Try.func91, Try.ntmps91
    go_wp2
    go_ret3
    exact ⟨by rw [HE.out]; rfl, rfl⟩

set_option maxRecDepth 100000 in
set_option maxHeartbeats 1000000 in
theorem readEsc_any (s : ByteArray) (i : Nat) (hi : i < s.size) (hs : s.size ≤ 140737488355328) (w : World) :
    Calls Try.prog 90 #[.string s, .int .i64 i] w fun e w' => e = .returned (itV (rdEsc s i)) ∧ w' = w := by
  by_cases h : i + 1 < s.size
  · have HX : Hid (∀ w, Calls Try.prog 91 #[.string s, .int .i64 i] w fun e w' => e = .returned (itV (rdHex s i)) ∧ w' = w) := fun w => readHex_any s i h hs w
    have hb : (0 : Int) ≤ (s[i + 1].toNat : Int) ∧ (s[i + 1].toNat : Int) ≤ 255 := by have := s[i + 1].toNat_lt; omega
    have hw8 : IntKind.i64.wrap (s[i + 1].toNat : Int) = (s[i + 1].toNat : Int) := by rw [IntKind.wrap_i64]; omega
    have HE : Hid (rdEsc s i = if (s[i + 1].toNat : Int) = 110 then some (10, i + 2) else if (s[i + 1].toNat : Int) = 114 then some (13, i + 2) else if (s[i + 1].toNat : Int) = 116 then some (9, i + 2) else
  if (s[i + 1].toNat : Int) = 120 then rdHex s i else if signB (s[i + 1].toNat : Int) then some ((s[i + 1].toNat : Int).toNat, i + 2) else none) := (by show rdEsc s i = _; unfold rdEsc; rw [chr_in h])
    by_cases h110 : (s[i + 1].toNat : Int) = 110
    · have HF := (show Hid (rdEsc s i = some (10, i + 2)) from (by show rdEsc s i = _; rw [HE.out]; rw [if_pos h110]))
      clear HE HX
      have e110 : ((s[i + 1].toNat : Int) == 110) = true := beq_iff_eq.2 h110
      clear h110
      go_enter Try.func90, Try.ntmps90
      go_wp2
      go_ret3
      exact ⟨by rw [HF.out]; exact ret_it rfl (by omega), rfl⟩
    have e110 : ((s[i + 1].toNat : Int) == 110) = false := beq_eq_false_iff_ne.2 h110
    by_cases h114 : (s[i + 1].toNat : Int) = 114
    · have HF := (show Hid (rdEsc s i = some (13, i + 2)) from (by show rdEsc s i = _; rw [HE.out]; rw [if_neg h110, if_pos h114]))
      clear HE HX
      have e114 : ((s[i + 1].toNat : Int) == 114) = true := beq_iff_eq.2 h114
      clear h114
      go_enter Try.func90, Try.ntmps90
      go_wp2
      go_ret3
      exact ⟨by rw [HF.out]; exact ret_it rfl (by omega), rfl⟩
    have e114 : ((s[i + 1].toNat : Int) == 114) = false := beq_eq_false_iff_ne.2 h114
    by_cases h116 : (s[i + 1].toNat : Int) = 116
    · have HF := (show Hid (rdEsc s i = some (9, i + 2)) from (by show rdEsc s i = _; rw [HE.out]; rw [if_neg h110, if_neg h114, if_pos h116]))
      clear HE HX
      have e116 : ((s[i + 1].toNat : Int) == 116) = true := beq_iff_eq.2 h116
      clear h116
      go_enter Try.func90, Try.ntmps90
      go_wp2
      go_ret3
      exact ⟨by rw [HF.out]; exact ret_it rfl (by omega), rfl⟩
    have e116 : ((s[i + 1].toNat : Int) == 116) = false := beq_eq_false_iff_ne.2 h116
    by_cases h120 : (s[i + 1].toNat : Int) = 120
    · have HF := (show Hid (rdEsc s i = rdHex s i) from (by show rdEsc s i = _; rw [HE.out]; rw [if_neg h110, if_neg h114, if_neg h116, if_pos h120]))
      have e120 : ((s[i + 1].toNat : Int) == 120) = true := beq_iff_eq.2 h120
      clear HE h110 h114 h116 h120
      go_enter Try.func90, Try.ntmps90
      go_wp2_with fail
      refine (HX.out _).mono ?_
      rintro e w' ⟨rfl, rfl⟩
      cases hq : rdHex s i with
      | none =>
        rw [hq] at HF
        clear HX hq
        dsimp only [itV]
        go_wp2
        go_ret3
        exact ⟨by rw [HF.out]; rfl, rfl⟩
      | some q =>
        obtain ⟨qb, qn⟩ := q
        rw [hq] at HF
        clear HX hq
        dsimp only [itV]
        go_wp2
        go_ret3
        exact ⟨by rw [HF.out]; rfl, rfl⟩
    have e120 : ((s[i + 1].toNat : Int) == 120) = false := beq_eq_false_iff_ne.2 h120
    cases hg : signB (s[i + 1].toNat : Int)
    · have HF := (show Hid (rdEsc s i = none) from (by show rdEsc s i = _; rw [HE.out]; rw [if_neg h110, if_neg h114, if_neg h116, if_neg h120, if_neg (by rw [hg]; simp)]))
      clear HE HX h110 h114 h116 h120
      go_enter Try.func90, Try.ntmps90
      go_wp2_with fail
      refine (isSign_any _ _).mono ?_
      rintro e w' ⟨rfl, rfl⟩
      go_wp2
      go_ret3
      exact ⟨by rw [HF.out]; rfl, rfl⟩
    · have HF := (show Hid (rdEsc s i = some ((s[i + 1].toNat : Int).toNat, i + 2)) from (by show rdEsc s i = _; rw [HE.out]; rw [if_neg h110, if_neg h114, if_neg h116, if_neg h120, if_pos (by rw [hg])]))
      clear HE HX h110 h114 h116 h120
      go_enter Try.func90, Try.ntmps90
      go_wp2_with fail
      refine (isSign_any _ _).mono ?_
      rintro e w' ⟨rfl, rfl⟩
      go_wp2
      go_ret3
      exact ⟨by rw [HF.out]; exact ret_it (by omega) (by omega), rfl⟩
  · have HE : Hid (rdEsc s i = none) := (by show rdEsc s i = none; unfold rdEsc; rw [chr_out h]; rfl)
    have h1 : ¬ (i : Int) + 1 < (s.size : Int) := by omega
    go_enter Try.func90, Try.ntmps90
    go_wp2
    go_ret3
    exact ⟨by rw [HE.out]; rfl, rfl⟩

set_option maxRecDepth 100000 in
set_option maxHeartbeats 1000000 in
theorem readItem_any (s : ByteArray) (i : Nat) (hs : s.size ≤ 140737488355328) (w : World) :
    Calls Try.prog 86 #[.string s, .int .i64 i] w fun e w' => e = .returned (itV (rdItem s i)) ∧ w' = w := by
  by_cases h : i < s.size
  · have HX : Hid (∀ w, Calls Try.prog 90 #[.string s, .int .i64 i] w fun e w' => e = .returned (itV (rdEsc s i)) ∧ w' = w) := fun w => readEsc_any s i h hs w
    have hb : (0 : Int) ≤ (s[i].toNat : Int) ∧ (s[i].toNat : Int) ≤ 255 := by have := s[i].toNat_lt; omega
    have hw8 : IntKind.i64.wrap (s[i].toNat : Int) = (s[i].toNat : Int) := by rw [IntKind.wrap_i64]; omega
    have HE : Hid (rdItem s i = if (s[i].toNat : Int) = 92 then rdEsc s i else if (s[i].toNat : Int) = 93 ∨ (s[i].toNat : Int) = 45 ∨ (s[i].toNat : Int) = 37 ∨ prnB (s[i].toNat : Int) = false then none else some ((s[i].toNat : Int).toNat, i + 1)) := (by show rdItem s i = _; unfold rdItem; rw [chr_in h])
    by_cases h92 : (s[i].toNat : Int) = 92
    · have HF := (show Hid (rdItem s i = rdEsc s i) from (by show rdItem s i = _; rw [HE.out]; rw [if_pos h92]))
      have e92 : ((s[i].toNat : Int) == 92) = true := beq_iff_eq.2 h92
      clear HE h92
      go_enter Try.func86, Try.ntmps86
      go_wp2_with fail
      refine (HX.out _).mono ?_
      rintro e w' ⟨rfl, rfl⟩
      cases hq : rdEsc s i with
      | none =>
        rw [hq] at HF
        clear HX hq
        dsimp only [itV]
        go_wp2
        go_ret3
        exact ⟨by rw [HF.out]; rfl, rfl⟩
      | some q =>
        obtain ⟨qb, qn⟩ := q
        rw [hq] at HF
        clear HX hq
        dsimp only [itV]
        go_wp2
        go_ret3
        exact ⟨by rw [HF.out]; rfl, rfl⟩
    have e92 : ((s[i].toNat : Int) == 92) = false := beq_eq_false_iff_ne.2 h92
    clear HX
    by_cases h93 : (s[i].toNat : Int) = 93
    · have HF := (show Hid (rdItem s i = none) from (by show rdItem s i = _; rw [HE.out, if_neg h92, if_pos (.inl h93)]))
      have e93 : ((s[i].toNat : Int) == 93) = true := beq_iff_eq.2 h93
      clear HE h92 h93
      go_enter Try.func86, Try.ntmps86
      go_wp2
      go_ret3
      exact ⟨by rw [HF.out]; rfl, rfl⟩
    have e93 : ((s[i].toNat : Int) == 93) = false := beq_eq_false_iff_ne.2 h93
    by_cases h45 : (s[i].toNat : Int) = 45
    · have HF := (show Hid (rdItem s i = none) from (by show rdItem s i = _; rw [HE.out, if_neg h92, if_pos (.inr (.inl h45))]))
      have e45 : ((s[i].toNat : Int) == 45) = true := beq_iff_eq.2 h45
      clear HE h92 h93 h45
      go_enter Try.func86, Try.ntmps86
      go_wp2
      go_ret3
      exact ⟨by rw [HF.out]; rfl, rfl⟩
    have e45 : ((s[i].toNat : Int) == 45) = false := beq_eq_false_iff_ne.2 h45
    by_cases h37 : (s[i].toNat : Int) = 37
    · have HF := (show Hid (rdItem s i = none) from (by show rdItem s i = _; rw [HE.out, if_neg h92, if_pos (.inr (.inr (.inl h37)))]))
      have e37 : ((s[i].toNat : Int) == 37) = true := beq_iff_eq.2 h37
      clear HE h92 h93 h45 h37
      go_enter Try.func86, Try.ntmps86
      go_wp2
      go_ret3
      exact ⟨by rw [HF.out]; rfl, rfl⟩
    have e37 : ((s[i].toNat : Int) == 37) = false := beq_eq_false_iff_ne.2 h37
    cases hg : prnB (s[i].toNat : Int)
    · have HF := (show Hid (rdItem s i = none) from (by show rdItem s i = _; rw [HE.out, if_neg h92, if_pos (.inr (.inr (.inr hg)))]))
      clear HE h92 h93 h45 h37
      go_enter Try.func86, Try.ntmps86
      go_wp2_with fail
      refine (isPrintable_any _ _).mono ?_
      rintro e w' ⟨rfl, rfl⟩
      go_wp2
      go_ret3
      exact ⟨by rw [HF.out]; rfl, rfl⟩
    · have HF := (show Hid (rdItem s i = some ((s[i].toNat : Int).toNat, i + 1)) from (by show rdItem s i = _; rw [HE.out, if_neg h92, if_neg (by rw [hg]; simp; omega)]))
      clear HE h92 h93 h45 h37
      go_enter Try.func86, Try.ntmps86
      go_wp2_with fail
      refine (isPrintable_any _ _).mono ?_
      rintro e w' ⟨rfl, rfl⟩
      go_wp2
      go_ret3
      exact ⟨by rw [HF.out]; exact ret_it (by omega) (by omega), rfl⟩
  · have HE : Hid (rdItem s i = none) := (by show rdItem s i = none; unfold rdItem; rw [chr_out h]; rfl)
    have h1 : ¬ (i : Int) < (s.size : Int) := by omega
    go_enter Try.func86, Try.ntmps86
    go_wp2
    go_ret3
    exact ⟨by rw [HE.out]; rfl, rfl⟩
end Go.Proofs.Ytlcmlipldkpliaa

namespace Go.Proofs.Ytlcmlipldkpliaa
open Go.RowKit

/-- What a reading of members answers. -/
def mbV : Rd (BitVec 256 × Nat) → Value
  | .inl (x, n) => .tuple #[sv x, .int .i64 n, .agg #[.int .i64 0, .int .i64 0]]
  | .inr (a, c) => .tuple #[sv 0#256, .int .i64 0, .agg #[.int .i64 a, .int .i64 c]]

/-- Block b holds a fault, and may be written. -/
structure FHolds (w : World) (b : Nat) (p q : Int) : Prop where
  lt : b < w.heap.size
  c0 : w.cell? ⟨b, 0, none⟩ = some (.int .i64 p)
  c1 : w.cell? ⟨b, 1, none⟩ = some (.int .i64 q)
  f0 : w.frozen? ⟨b, 0, none⟩ = false
  f1 : w.frozen? ⟨b, 1, none⟩ = false
theorem FHolds.below {B : Nat} {w w' : World} {b : Nat} {p q : Int} (h : FHolds w b p q) (hb : Below B w w') (hB : b < B) : FHolds w' b p q :=
  ⟨Nat.lt_of_lt_of_le h.lt hb.size, (hb.cell (p := ⟨b, 0, none⟩) hB).trans h.c0, (hb.cell (p := ⟨b, 1, none⟩) hB).trans h.c1, (hb.frozen (p := ⟨b, 0, none⟩) hB).trans h.f0, (hb.frozen (p := ⟨b, 1, none⟩) hB).trans h.f1⟩
theorem FHolds.new (w : World) (p q : Int) : FHolds (w.alloc (.cells #[.int .i64 p, .int .i64 q] 57)) w.heap.size p q := by
  constructor <;> simp [go_sem]
abbrev fz : Obj := .cells #[.int .i64 0, .int .i64 0] 57
/-- The two boxes of the results: a set and a fault. -/
theorem boxes2 (w : World) : Holds ((w.alloc z4).alloc fz) w.heap.size 0#256 ∧ FHolds ((w.alloc z4).alloc fz) (w.heap.size + 1) 0 0 ∧ Below w.heap.size w ((w.alloc z4).alloc fz) := by
  refine ⟨(Holds.zero w).alloc _, ?_, ((Below.refl _ _).alloc (Nat.le_refl _) _).alloc (by simp) _⟩
  have h := FHolds.new (w.alloc z4) 0 0
  rw [show (w.alloc z4).heap.size = w.heap.size + 1 from by simp] at h
  exact h

theorem put6_below {B : Nat} {w w' : World} {b c : Nat} {x0 x1 x2 x3 y0 y1 : Value} (h : Below B w w') (hb : B ≤ b) (hc : B ≤ c) :
    Below B w ((((((w'.setCell ⟨b, 0, none⟩ x0).setCell ⟨b, 1, none⟩ x1).setCell ⟨b, 2, none⟩ x2).setCell ⟨b, 3, none⟩ x3).setCell ⟨c, 0, none⟩ y0).setCell ⟨c, 1, none⟩ y1) :=
  (((((h.setCell hb _).setCell hb _).setCell hb _).setCell hb _).setCell hc _).setCell hc _
theorem set_size (w : World) (p : Addr) (v : Value) : (w.setCell p v).heap.size = w.heap.size := by simp [World.setCell]
theorem put6_size {w' : World} {b c : Nat} {x0 x1 x2 x3 y0 y1 : Value} :
    ((((((w'.setCell ⟨b, 0, none⟩ x0).setCell ⟨b, 1, none⟩ x1).setCell ⟨b, 2, none⟩ x2).setCell ⟨b, 3, none⟩ x3).setCell ⟨c, 0, none⟩ y0).setCell ⟨c, 1, none⟩ y1).heap.size = w'.heap.size := by
  simp only [set_size]

set_option maxRecDepth 100000 in
set_option maxHeartbeats 1000000 in
theorem readClass_any (s : ByteArray) (i : Nat) (hi : i ≤ s.size) (hs : s.size ≤ 140737488355328) (w : World) :
    Calls Try.prog 85 #[.string s, .int .i64 i] w fun e w' => e = .returned (mbV (rdClass s i)) ∧ Below w.heap.size w w' := by
  obtain ⟨q1, q2, q3⟩ := boxes2 w
  have HH := (show Hid _ from q1)
  have HG := (show Hid _ from q2)
  have HR := (show Hid _ from q3)
  clear q1 q2 q3
  by_cases h : i + 1 < s.size
  · have hb : s[i + 1].toNat < 256 := s[i + 1].toNat_lt
    have HX : Hid (∀ w, Calls Try.prog 24 #[.int .u8 (s[i + 1].toNat : Int)] w fun e w' => e = .returned (.tuple #[sv (cls s[i + 1].toNat).1, .int .i64 (cls s[i + 1].toNat).2]) ∧ Below w.heap.size w w') := fun w => class_any _ hb w
    by_cases hc : (cls s[i + 1].toNat).2 = 0
    · have HF := (show Hid (rdClass s i = .inl ((cls s[i + 1].toNat).1, i + 2)) from (by show rdClass s i = _; unfold rdClass; rw [chr_in h]; rw [if_pos ⟨h, hc⟩]; rfl))
      go_enter Try.func85, Try.ntmps85
      go_wp2_with fail
      refine (HX.out _).mono ?_
      rintro e w1 ⟨rfl, hb1⟩
      rw [hc]
      have hl : w.heap.size + 1 < w1.heap.size := by have h := hb1.size; simp at h; omega
      have HR1 := (show Hid _ from HR.out.trans (hb1.mono (by simp; omega)))
      obtain ⟨_, g0, g1, k0, k1⟩ := HG.out.below hb1 (by simp)
      obtain ⟨_, c0, c1, c2, c3, f0, f1, f2, f3⟩ := HH.out.below hb1 (by simp; omega)
      clear hb1 HX hc HH HG HR
      generalize (cls s[i + 1].toNat).1 = r at *
      go_wp2
      rw [HF.out]
      refine bodyPost_ret (v := mbV (.inl (r, i + 2))) (by simp [results, Try.results85, go_sem, mbV, wd_zero, *]) rfl ⟨rfl, ?_⟩
      exact (put6_below HR1.out (Nat.le_refl _) (by omega)).alloc (by rw [put6_size]; omega) _
    · have HF := (show Hid (rdClass s i = .inr (i, 10)) from (by show rdClass s i = _; unfold rdClass; rw [chr_in h]; rw [if_neg (fun q => hc q.2)]))
      have hc' : ((cls s[i + 1].toNat).2 == 0) = false := beq_eq_false_iff_ne.2 hc
      clear hc
      go_enter Try.func85, Try.ntmps85
      go_wp2_with fail
      refine (HX.out _).mono ?_
      rintro e w1 ⟨rfl, hb1⟩
      have hl : w.heap.size + 1 < w1.heap.size := by have h := hb1.size; simp at h; omega
      have HR1 := (show Hid _ from HR.out.trans (hb1.mono (by simp; omega)))
      obtain ⟨_, g0, g1, k0, k1⟩ := HG.out.below hb1 (by simp)
      obtain ⟨_, c0, c1, c2, c3, f0, f1, f2, f3⟩ := HH.out.below hb1 (by simp; omega)
      clear hb1 HX HH HG HR
      generalize cls s[i + 1].toNat = r at *
      go_wp2
      rw [HF.out]
      refine bodyPost_ret (v := mbV (.inr (i, 10))) (by simp [results, Try.results85, go_sem, mbV, wd_zero, *]) rfl ⟨rfl, ?_⟩
      exact (put6_below HR1.out (Nat.le_refl _) (by omega)).alloc (by rw [put6_size]; omega) _
  · have HF := (show Hid (rdClass s i = .inr (i, 10)) from (by show rdClass s i = _; unfold rdClass; rw [if_neg (fun q => h q.1)]))
    have h1 : ¬ (i : Int) + 1 < (s.size : Int) := by omega
    go_enter Try.func85, Try.ntmps85
    go_wp2
    rw [HF.out]
    refine bodyPost_ret (v := mbV (.inr (i, 10))) (by simp [results, Try.results85, go_sem, mbV, wd_zero, *]) rfl ⟨rfl, ?_⟩
    exact ((Below.refl _ _).alloc (Nat.le_refl _) _).alloc (by simp) _
end Go.Proofs.Ytlcmlipldkpliaa

namespace Go.Proofs.Ytlcmlipldkpliaa
open Go.RowKit

set_option maxRecDepth 100000 in
set_option maxHeartbeats 1000000 in
theorem member_class (s : ByteArray) (i : Nat) (hi : i ≤ s.size) (hs : s.size ≤ 140737488355328) (w : World) (hc : (chr s i == 37) = true) :
    Calls Try.prog 79 #[.string s, .int .i64 i] w fun e w' => e = .returned (mbV (rdMember s i)) ∧ Below w.heap.size w w' := by
  have HF := (show Hid (rdMember s i = rdClass s i) from (by show rdMember s i = _; unfold rdMember; rw [if_pos (beq_iff_eq.1 hc)]))
  obtain ⟨q1, q2, q3⟩ := boxes2 w
  have HH := (show Hid _ from q1)
  have HG := (show Hid _ from q2)
  have HR := (show Hid _ from q3)
  clear q1 q2 q3
  go_enter Try.func79, Try.ntmps79
  go_wp2_with fail
  refine (standsAt_any s i 37 (by omega) _).mono ?_
  rintro e w1 ⟨rfl, rfl⟩
  rw [hc]
  clear hc
  go_wp2_with fail
  refine (readClass_any s i hi hs _).mono ?_
  rintro e w1 ⟨rfl, hb1⟩
  have hl : w.heap.size + 1 < w1.heap.size := by have h := hb1.size; simp at h; omega
  have HR1 := (show Hid _ from HR.out.trans (hb1.mono (by simp; omega)))
  obtain ⟨_, g0, g1, k0, k1⟩ := HG.out.below hb1 (by simp)
  obtain ⟨_, c0, c1, c2, c3, f0, f1, f2, f3⟩ := HH.out.below hb1 (by simp; omega)
  clear hb1 HH HG HR
  cases hq : rdClass s i with
  | inl p =>
    obtain ⟨y, n⟩ := p
    rw [hq] at HF
    dsimp only [mbV]
    clear hq
    go_wp2
    rw [HF.out]
    refine bodyPost_ret (v := mbV (.inl (y, n))) (by simp [results, Try.results79, go_sem, mbV, wd_zero, *]) rfl ⟨rfl, ?_⟩
    exact put6_below HR1.out (Nat.le_refl _) (by omega)
  | inr pq =>
    obtain ⟨a, c⟩ := pq
    rw [hq] at HF
    dsimp only [mbV]
    clear hq
    go_wp2
    rw [HF.out]
    refine bodyPost_ret (v := mbV (.inr (a, c))) (by simp [results, Try.results79, go_sem, mbV, wd_zero, *]) rfl ⟨rfl, ?_⟩
    exact put6_below HR1.out (Nat.le_refl _) (by omega)

set_option maxRecDepth 100000 in
set_option maxHeartbeats 1000000 in
theorem member_none (s : ByteArray) (i : Nat) (_hi : i ≤ s.size) (hs : s.size ≤ 140737488355328) (w : World) (hc : (chr s i == 37) = false) (h1 : rdItem s i = none) :
    Calls Try.prog 79 #[.string s, .int .i64 i] w fun e w' => e = .returned (mbV (rdMember s i)) ∧ Below w.heap.size w w' := by
  have hn37 : ¬ chr s i = 37 := beq_eq_false_iff_ne.1 hc
  have HF := (show Hid (rdMember s i = .inr (i, 6)) from (by show rdMember s i = _; unfold rdMember; rw [if_neg hn37, h1]))
  clear hn37
  obtain ⟨q1, q2, q3⟩ := boxes2 w
  have HH := (show Hid _ from q1)
  have HG := (show Hid _ from q2)
  have HR := (show Hid _ from q3)
  clear q1 q2 q3
  go_enter Try.func79, Try.ntmps79
  go_wp2_with fail
  refine (standsAt_any s i 37 (by omega) _).mono ?_
  rintro e w1 ⟨rfl, rfl⟩
  rw [hc]
  clear hc
  go_wp2_with fail
  refine (readItem_any s i hs _).mono ?_
  rintro e w1 ⟨rfl, rfl⟩
  rw [h1]
  dsimp only [itV]
  clear h1
  go_wp2
  rw [HF.out]
  refine bodyPost_ret (v := mbV (.inr (i, 6))) (by simp [results, Try.results79, go_sem, mbV, wd_zero, *]) rfl ⟨rfl, ?_⟩
  exact ((Below.refl _ _).alloc (Nat.le_refl _) _).alloc (by simp) _

set_option maxRecDepth 100000 in
set_option maxHeartbeats 1000000 in
theorem member_one (s : ByteArray) (i : Nat) (_hi : i ≤ s.size) (hs : s.size ≤ 140737488355328) (w : World) (hc : (chr s i == 37) = false) (lo n : Nat) (h1 : rdItem s i = some (lo, n)) (h2 : (chr s n == 45) = false) :
    Calls Try.prog 79 #[.string s, .int .i64 i] w fun e w' => e = .returned (mbV (rdMember s i)) ∧ Below w.heap.size w w' := by
  have hn37 : ¬ chr s i = 37 := beq_eq_false_iff_ne.1 hc
  have HF := (show Hid (rdMember s i = .inl (spn lo lo, n)) from (by show rdMember s i = _; unfold rdMember; rw [if_neg hn37, h1]; exact if_neg (beq_eq_false_iff_ne.1 h2)))
  obtain ⟨b1, b2, b3⟩ := rdItem_bd h1
  clear hn37
  obtain ⟨q1, q2, q3⟩ := boxes2 w
  have HH := (show Hid _ from q1)
  have HG := (show Hid _ from q2)
  have HR := (show Hid _ from q3)
  clear q1 q2 q3
  go_enter Try.func79, Try.ntmps79
  go_wp2_with fail
  refine (standsAt_any s i 37 (by omega) _).mono ?_
  rintro e w1 ⟨rfl, rfl⟩
  rw [hc]
  clear hc
  go_wp2_with fail
  refine (readItem_any s i hs _).mono ?_
  rintro e w1 ⟨rfl, rfl⟩
  rw [h1]
  dsimp only [itV]
  clear h1
  go_wp2_with fail
  refine (standsAt_any s n 45 (by omega) _).mono ?_
  rintro e w1 ⟨rfl, rfl⟩
  rw [h2]
  clear h2
  go_wp2_with fail
  refine (bytesFrom_any lo lo _ (by omega) (by omega) (by omega)).mono ?_
  rintro e w1 ⟨rfl, hb1⟩
  have hl : w.heap.size + 1 < w1.heap.size := by have h := hb1.size; simp at h; omega
  have HR1 := (show Hid _ from HR.out.trans (hb1.mono (by simp; omega)))
  obtain ⟨_, g0, g1, k0, k1⟩ := HG.out.below hb1 (by simp)
  obtain ⟨_, c0, c1, c2, c3, f0, f1, f2, f3⟩ := HH.out.below hb1 (by simp; omega)
  clear hb1 HH HG HR
  generalize spn lo lo = y at *
  go_wp2
  rw [HF.out]
  refine bodyPost_ret (v := mbV (.inl (y, n))) (by simp [results, Try.results79, go_sem, mbV, wd_zero, *]) rfl ⟨rfl, ?_⟩
  exact put6_below HR1.out (Nat.le_refl _) (by omega)

set_option maxRecDepth 100000 in
set_option maxHeartbeats 1000000 in
theorem member_hole (s : ByteArray) (i : Nat) (_hi : i ≤ s.size) (hs : s.size ≤ 140737488355328) (w : World) (hc : (chr s i == 37) = false) (lo n : Nat) (h1 : rdItem s i = some (lo, n)) (h2 : (chr s n == 45) = true) (h3 : rdItem s (n + 1) = none) :
    Calls Try.prog 79 #[.string s, .int .i64 i] w fun e w' => e = .returned (mbV (rdMember s i)) ∧ Below w.heap.size w w' := by
  have hn37 : ¬ chr s i = 37 := beq_eq_false_iff_ne.1 hc
  have HF := (show Hid (rdMember s i = .inr ((n + 1), 6)) from (by show rdMember s i = _; unfold rdMember; rw [if_neg hn37, h1]; exact (if_pos (beq_iff_eq.1 h2)).trans (by rw [h3])))
  obtain ⟨b1, b2, b3⟩ := rdItem_bd h1
  clear hn37
  obtain ⟨q1, q2, q3⟩ := boxes2 w
  have HH := (show Hid _ from q1)
  have HG := (show Hid _ from q2)
  have HR := (show Hid _ from q3)
  clear q1 q2 q3
  go_enter Try.func79, Try.ntmps79
  go_wp2_with fail
  refine (standsAt_any s i 37 (by omega) _).mono ?_
  rintro e w1 ⟨rfl, rfl⟩
  rw [hc]
  clear hc
  go_wp2_with fail
  refine (readItem_any s i hs _).mono ?_
  rintro e w1 ⟨rfl, rfl⟩
  rw [h1]
  dsimp only [itV]
  clear h1
  go_wp2_with fail
  refine (standsAt_any s n 45 (by omega) _).mono ?_
  rintro e w1 ⟨rfl, rfl⟩
  rw [h2]
  clear h2
  go_wp2_with fail
  rw [show (n : Int) + 1 = ((n + 1 : Nat) : Int) from by omega]
  refine (readItem_any s (n + 1) hs _).mono ?_
  rintro e w1 ⟨rfl, rfl⟩
  rw [h3]
  dsimp only [itV]
  clear h3
  go_wp2
  rw [HF.out]
  refine bodyPost_ret (v := mbV (.inr ((n + 1), 6))) (by simp [results, Try.results79, go_sem, mbV, wd_zero, *]) rfl ⟨rfl, ?_⟩
  exact ((Below.refl _ _).alloc (Nat.le_refl _) _).alloc (by simp) _

set_option maxRecDepth 100000 in
set_option maxHeartbeats 1000000 in
theorem member_turned (s : ByteArray) (i : Nat) (_hi : i ≤ s.size) (hs : s.size ≤ 140737488355328) (w : World) (hc : (chr s i == 37) = false) (lo n hi_ e_ : Nat) (h1 : rdItem s i = some (lo, n)) (h2 : (chr s n == 45) = true) (h3 : rdItem s (n + 1) = some (hi_, e_)) (h4 : hi_ < lo) :
    Calls Try.prog 79 #[.string s, .int .i64 i] w fun e w' => e = .returned (mbV (rdMember s i)) ∧ Below w.heap.size w w' := by
  have hn37 : ¬ chr s i = 37 := beq_eq_false_iff_ne.1 hc
  have HF := (show Hid (rdMember s i = .inr (i, 1)) from (by show rdMember s i = _; unfold rdMember; rw [if_neg hn37, h1]; exact (if_pos (beq_iff_eq.1 h2)).trans (by rw [h3]; exact if_pos h4)))
  obtain ⟨b1, b2, b3⟩ := rdItem_bd h1
  have h5 : (hi_ : Int) < (lo : Int) := by omega
  clear hn37
  obtain ⟨q1, q2, q3⟩ := boxes2 w
  have HH := (show Hid _ from q1)
  have HG := (show Hid _ from q2)
  have HR := (show Hid _ from q3)
  clear q1 q2 q3
  go_enter Try.func79, Try.ntmps79
  go_wp2_with fail
  refine (standsAt_any s i 37 (by omega) _).mono ?_
  rintro e w1 ⟨rfl, rfl⟩
  rw [hc]
  clear hc
  go_wp2_with fail
  refine (readItem_any s i hs _).mono ?_
  rintro e w1 ⟨rfl, rfl⟩
  rw [h1]
  dsimp only [itV]
  clear h1
  go_wp2_with fail
  refine (standsAt_any s n 45 (by omega) _).mono ?_
  rintro e w1 ⟨rfl, rfl⟩
  rw [h2]
  clear h2
  go_wp2_with fail
  rw [show (n : Int) + 1 = ((n + 1 : Nat) : Int) from by omega]
  refine (readItem_any s (n + 1) hs _).mono ?_
  rintro e w1 ⟨rfl, rfl⟩
  rw [h3]
  dsimp only [itV]
  clear h3
  go_wp2
  rw [HF.out]
  refine bodyPost_ret (v := mbV (.inr (i, 1))) (by simp [results, Try.results79, go_sem, mbV, wd_zero, *]) rfl ⟨rfl, ?_⟩
  exact ((Below.refl _ _).alloc (Nat.le_refl _) _).alloc (by simp) _

set_option maxRecDepth 100000 in
set_option maxHeartbeats 1000000 in
theorem member_span (s : ByteArray) (i : Nat) (_hi : i ≤ s.size) (hs : s.size ≤ 140737488355328) (w : World) (hc : (chr s i == 37) = false) (lo n hi_ e_ : Nat) (h1 : rdItem s i = some (lo, n)) (h2 : (chr s n == 45) = true) (h3 : rdItem s (n + 1) = some (hi_, e_)) (h4 : ¬ hi_ < lo) :
    Calls Try.prog 79 #[.string s, .int .i64 i] w fun e w' => e = .returned (mbV (rdMember s i)) ∧ Below w.heap.size w w' := by
  have hn37 : ¬ chr s i = 37 := beq_eq_false_iff_ne.1 hc
  have HF := (show Hid (rdMember s i = .inl (spn lo hi_, e_)) from (by show rdMember s i = _; unfold rdMember; rw [if_neg hn37, h1]; exact (if_pos (beq_iff_eq.1 h2)).trans (by rw [h3]; exact if_neg h4)))
  obtain ⟨b1, b2, b3⟩ := rdItem_bd h1
  obtain ⟨d1, d2, d3⟩ := rdItem_bd h3
  have h5 : ¬ (hi_ : Int) < (lo : Int) := by omega
  clear hn37
  obtain ⟨q1, q2, q3⟩ := boxes2 w
  have HH := (show Hid _ from q1)
  have HG := (show Hid _ from q2)
  have HR := (show Hid _ from q3)
  clear q1 q2 q3
  go_enter Try.func79, Try.ntmps79
  go_wp2_with fail
  refine (standsAt_any s i 37 (by omega) _).mono ?_
  rintro e w1 ⟨rfl, rfl⟩
  rw [hc]
  clear hc
  go_wp2_with fail
  refine (readItem_any s i hs _).mono ?_
  rintro e w1 ⟨rfl, rfl⟩
  rw [h1]
  dsimp only [itV]
  clear h1
  go_wp2_with fail
  refine (standsAt_any s n 45 (by omega) _).mono ?_
  rintro e w1 ⟨rfl, rfl⟩
  rw [h2]
  clear h2
  go_wp2_with fail
  rw [show (n : Int) + 1 = ((n + 1 : Nat) : Int) from by omega]
  refine (readItem_any s (n + 1) hs _).mono ?_
  rintro e w1 ⟨rfl, rfl⟩
  rw [h3]
  dsimp only [itV]
  clear h3
  go_wp2_with fail
  refine (bytesFrom_any lo hi_ _ (by omega) (by omega) (by omega)).mono ?_
  rintro e w1 ⟨rfl, hb1⟩
  have hl : w.heap.size + 1 < w1.heap.size := by have h := hb1.size; simp at h; omega
  have HR1 := (show Hid _ from HR.out.trans (hb1.mono (by simp; omega)))
  obtain ⟨_, g0, g1, k0, k1⟩ := HG.out.below hb1 (by simp)
  obtain ⟨_, c0, c1, c2, c3, f0, f1, f2, f3⟩ := HH.out.below hb1 (by simp; omega)
  clear hb1 HH HG HR
  generalize spn lo hi_ = y at *
  go_wp2
  rw [HF.out]
  refine bodyPost_ret (v := mbV (.inl (y, e_))) (by simp [results, Try.results79, go_sem, mbV, wd_zero, *]) rfl ⟨rfl, ?_⟩
  exact put6_below HR1.out (Nat.le_refl _) (by omega)

theorem readMember_any (s : ByteArray) (i : Nat) (hi : i ≤ s.size) (hs : s.size ≤ 140737488355328) (w : World) :
    Calls Try.prog 79 #[.string s, .int .i64 i] w fun e w' => e = .returned (mbV (rdMember s i)) ∧ Below w.heap.size w w' := by
  cases hc : (chr s i == 37)
  · cases h1 : rdItem s i with
    | none => exact member_none s i hi hs w hc h1
    | some p =>
      obtain ⟨lo, n⟩ := p
      cases h2 : (chr s n == 45)
      · exact member_one s i hi hs w hc lo n h1 h2
      · cases h3 : rdItem s (n + 1) with
        | none => exact member_hole s i hi hs w hc lo n h1 h2 h3
        | some p =>
          obtain ⟨hi_, e_⟩ := p
          by_cases h4 : hi_ < lo
          · exact member_turned s i hi hs w hc lo n hi_ e_ h1 h2 h3 h4
          · exact member_span s i hi hs w hc lo n hi_ e_ h1 h2 h3 h4
  · exact member_class s i hi hs w hc
end Go.Proofs.Ytlcmlipldkpliaa

namespace Go.Proofs.Ytlcmlipldkpliaa
open Go.RowKit

theorem rdMembers_end {s : ByteArray} {f : Nat} {x : BitVec 256} {k : Nat} (h : chr s k = 93) : rdMembers s (f + 1) x k = .inl (x, k) := by
  unfold rdMembers; rw [if_pos h]
theorem rdMembers_err {s : ByteArray} {f : Nat} {x : BitVec 256} {k a : Nat} {c : Int} (h : ¬ chr s k = 93) (h1 : rdMember s k = .inr (a, c)) : rdMembers s (f + 1) x k = .inr (a, c) := by
  rw [rdMembers, if_neg h, h1]
theorem rdMembers_step {s : ByteArray} {f : Nat} {x y : BitVec 256} {k n : Nat} (h : ¬ chr s k = 93) (h1 : rdMember s k = .inl (y, n)) : rdMembers s (f + 1) x k = rdMembers s f (x ||| y) n := by
  rw [rdMembers, if_neg h, h1]

theorem rdMember_code {s : ByteArray} {i a : Nat} {c : Int} (h : rdMember s i = .inr (a, c)) : (c != 0) = true ∧ a ≤ s.size + i + 1 := by
  unfold rdMember at h
  split at h
  · unfold rdClass at h
    split at h
    · simp at h
    · simp only [Sum.inr.injEq, Prod.mk.injEq] at h; obtain ⟨rfl, rfl⟩ := h; exact ⟨rfl, by omega⟩
  · split at h
    · simp only [Sum.inr.injEq, Prod.mk.injEq] at h; obtain ⟨rfl, rfl⟩ := h; exact ⟨rfl, by omega⟩
    · rename_i lo m hm
      have b1 := rdItem_bd hm
      split at h
      · split at h
        · simp only [Sum.inr.injEq, Prod.mk.injEq] at h; obtain ⟨rfl, rfl⟩ := h; exact ⟨rfl, by omega⟩
        · split at h
          · simp only [Sum.inr.injEq, Prod.mk.injEq] at h; obtain ⟨rfl, rfl⟩ := h; exact ⟨rfl, by omega⟩
          · simp at h
      · simp at h
theorem rdMembers_code {s : ByteArray} : ∀ {f : Nat} {x : BitVec 256} {i a : Nat} {c : Int}, rdMembers s f x i = .inr (a, c) → (c != 0) = true := by
  intro f
  induction f with
  | zero => intro x i a c h; simp only [rdMembers, Sum.inr.injEq, Prod.mk.injEq] at h; obtain ⟨rfl, rfl⟩ := h; rfl
  | succ f ih =>
    intro x i a c h
    by_cases hc : chr s i = 93
    · rw [rdMembers_end hc] at h; simp at h
    · cases hm : rdMember s i with
      | inr pq =>
        obtain ⟨a', c'⟩ := pq
        rw [rdMembers_err hc hm] at h; simp only [Sum.inr.injEq, Prod.mk.injEq] at h; obtain ⟨rfl, rfl⟩ := h; exact (rdMember_code hm).1
      | inl p => obtain ⟨y, n⟩ := p; rw [rdMembers_step hc hm] at h; exact ih h
theorem rdMembers_ok {s : ByteArray} : ∀ {f : Nat} {x y : BitVec 256} {i n : Nat}, rdMembers s f x i = .inl (y, n) → i ≤ n ∧ n < s.size ∧ chr s n = 93 := by
  intro f
  induction f with
  | zero => intro x y i n h; simp [rdMembers] at h
  | succ f ih =>
    intro x y i n h
    by_cases hc : chr s i = 93
    · rw [rdMembers_end hc] at h; simp only [Sum.inl.injEq, Prod.mk.injEq] at h; obtain ⟨rfl, rfl⟩ := h; exact ⟨by omega, chr_lt (by omega), hc⟩
    · cases hm : rdMember s i with
      | inr pq =>
        obtain ⟨a', c'⟩ := pq
        rw [rdMembers_err hc hm] at h; simp at h
      | inl p => obtain ⟨y, n⟩ := p; have b := rdMember_bd hm; rw [rdMembers_step hc hm] at h; have b2 := ih h; exact ⟨by omega, b2.2⟩

/-- The three boxes: a set, a fault, the set that is gathered. -/
theorem boxes3 (w : World) : Holds (((w.alloc z4).alloc fz).alloc z4) w.heap.size 0#256 ∧ FHolds (((w.alloc z4).alloc fz).alloc z4) (w.heap.size + 1) 0 0 ∧ Holds (((w.alloc z4).alloc fz).alloc z4) (w.heap.size + 1 + 1) 0#256 ∧ Below w.heap.size w (((w.alloc z4).alloc fz).alloc z4) := by
  obtain ⟨h1, h2, h3⟩ := boxes2 w
  have hs : ((w.alloc z4).alloc fz).heap.size = w.heap.size + 1 + 1 := by simp
  refine ⟨h1.alloc _, h2.below (B := w.heap.size + 1 + 1) ((Below.refl _ _).alloc (by rw [hs]; exact Nat.le_refl _) _) (by omega), ?_, h3.alloc (by rw [hs]; omega) _⟩
  have h := Holds.zero ((w.alloc z4).alloc fz)
  rw [hs] at h
  exact h
/-- What holds of the boxes while members are read. -/
structure AtM (w wr : World) (x : BitVec 256) : Prop where
  h1 : Holds wr w.heap.size 0#256
  h2 : FHolds wr (w.heap.size + 1) 0 0
  h3 : Holds wr (w.heap.size + 1 + 1) x
  hb : Below w.heap.size w wr
theorem AtM.below {B : Nat} {w wr w1 : World} {x : BitVec 256} (h : AtM w wr x) (hb : Below B wr w1) (hB : w.heap.size + 1 + 1 < B) : AtM w w1 x :=
  ⟨h.h1.below hb (by omega), h.h2.below hb (by omega), h.h3.below hb hB, h.hb.trans (hb.mono (by omega))⟩

theorem FHolds.put_other {w : World} {b c : Nat} {p q : Int} (h : FHolds w c p q) (hne : c ≠ b) (y : BitVec 256) : FHolds (put4 w b y) c p q := by
  obtain ⟨lt, c0, c1, f0, f1⟩ := h
  constructor <;> simp [go_sem, *]
theorem AtM.put {w wr : World} {x : BitVec 256} (h : AtM w wr x) (y : BitVec 256) : AtM w (put4 wr (w.heap.size + 1 + 1) y) y :=
  ⟨h.h1.put_other (by omega) y, h.h2.put_other (by omega) y, h.h3.put y, put4_below h.hb (by omega) y⟩

set_option maxRecDepth 100000 in
set_option maxHeartbeats 2000000 in
theorem readMembers_any (s : ByteArray) (i : Nat) (hi : i ≤ s.size) (hs : s.size ≤ 140737488355328) (w : World) :
    Calls Try.prog 67 #[.string s, .int .i64 i] w fun e w' => e = .returned (mbV (rdMembers s (s.size + 1) 0#256 i)) ∧ Below w.heap.size w w' := by
  obtain ⟨q1, q2, q3, q4⟩ := boxes3 w
  have HA := (show Hid (AtM w (((w.alloc z4).alloc fz).alloc z4) 0#256) from ⟨q1, q2, q3, q4⟩)
  clear q1 q2 q3 q4
  generalize hR : rdMembers s (s.size + 1) 0#256 i = R
  have HR := (show Hid _ from hR)
  clear hR
  go_enter Try.func67, Try.ntmps67
  go_wp2_with fail
  go_loopw [1] (fun t wr => ∃ k : Nat, ∃ f : Nat, ∃ x : BitVec 256, k ≤ s.size ∧ t = .int .i64 k ∧ Hid (s.size + 1 ≤ f + k) ∧ Hid (rdMembers s f x k = R) ∧ Hid (AtM w wr x)) (fun t _ => s.size - (intOf t).toNat)
  case atStart => exact ⟨i, s.size + 1, 0#256, hi, rfl, show _ ≤ _ by omega, HR, HA⟩
  case round =>
    obtain ⟨k, f, x, hk, rfl, hf, hr, ha⟩ := hrel
    obtain ⟨g, rfl⟩ : ∃ g, f = g + 1 := ⟨f - 1, by have h := hf.out; omega⟩
    clear HA HR
    go_wp2_with fail
    refine (standsAt_any s k 93 (by omega) _).mono ?_
    rintro e w1 ⟨rfl, rfl⟩
    cases hc : (chr s k == 93)
    · have hn : ¬ chr s k = 93 := beq_eq_false_iff_ne.1 hc
      cases hm : rdMember s k with
      | inl p =>
        obtain ⟨y, n⟩ := p
        obtain ⟨b1, b2⟩ := rdMember_bd hm
        have hr' := (show Hid (rdMembers s g (x ||| y) n = R) from ((rdMembers_step hn hm).symm.trans hr.out))
        have hf' := (show Hid (s.size + 1 ≤ g + n) from (by have h := hf.out; show _ ≤ _; omega))
        have HM := (show Hid _ from hm)
        clear hn hm hc hr hf
        go_wp2_with fail
        refine (readMember_any s k hk hs _).mono ?_
        rintro e w1 ⟨rfl, hb1⟩
        rw [HM.out]
        dsimp only [mbV]
        have HA1 := (show Hid _ from ha.out.below hb1 ha.out.h3.lt)
        clear hb1 ha HM
        have hl : w.heap.size + 1 + 1 < w1.heap.size := HA1.out.h3.lt
        have HA2 := (show Hid (AtM w ((w1.alloc (c4 y)).alloc fz) x) from HA1.out.below (B := w1.heap.size) (((Below.refl _ _).alloc (Nat.le_refl _) _).alloc (by simp) _) hl)
        clear HA1
        obtain ⟨_, c0, c1, c2, c3, f0, f1, f2, f3⟩ := HA2.out.h3
        go_wp2_with fail
        refine (union_any x y _).mono ?_
        rintro e w2 ⟨rfl, hb2⟩
        have HA3 := (show Hid _ from HA2.out.below hb2 HA2.out.h3.lt)
        clear HA2 hb2 c0 c1 c2 c3 f0 f1 f2 f3
        obtain ⟨_, c0, c1, c2, c3, f0, f1, f2, f3⟩ := HA3.out.h3
        go_wp2_with fail
        go_roundw
        case rel =>
          exact ⟨n, g, x ||| y, b2, rfl, hf', hr', HA3.out.put (x ||| y)⟩
        case measure => simp [intOf]; omega
      | inr pq =>
        obtain ⟨a, c⟩ := pq
        have hr' := (show Hid (R = .inr (a, c)) from (hr.out.symm.trans (rdMembers_err hn hm)))
        have HM := (show Hid _ from hm)
        have hcn := (rdMember_code hm).1
        clear hn hm hc hr hf
        go_wp2_with fail
        refine (readMember_any s k hk hs _).mono ?_
        rintro e w1 ⟨rfl, hb1⟩
        rw [HM.out]
        dsimp only [mbV]
        have HA1 := (show Hid _ from ha.out.below hb1 ha.out.h3.lt)
        clear hb1 ha HM
        have hl : w.heap.size + 1 + 1 < w1.heap.size := HA1.out.h3.lt
        have HA2 := (show Hid (AtM w ((w1.alloc (c4 0#256)).alloc (.cells #[.int .i64 (a : Int), .int .i64 c] 57)) x) from HA1.out.below (B := w1.heap.size) (((Below.refl _ _).alloc (Nat.le_refl _) _).alloc (by simp) _) hl)
        clear HA1
        obtain ⟨_, c0, c1, c2, c3, f0, f1, f2, f3⟩ := HA2.out.h1
        obtain ⟨_, d0, d1, g0, g1⟩ := HA2.out.h2
        go_wp2_with fail
        go_region
        all_goals
          go_wp2
          rw [hr'.out]
          have HB2 := HA2.out.hb
          simp only [c4, wd_zero] at c0 c1 c2 c3 f0 f1 f2 f3 d0 d1 g0 g1 HB2 ⊢
          refine bodyPost_ret (v := mbV (.inr (a, c))) (by simp [results, Try.results67, go_sem, mbV, wd_zero, *]) rfl ⟨rfl, ?_⟩
          first | exact (put6_below HB2 (Nat.le_refl _) (by omega)).drew | exact put6_below HB2 (Nat.le_refl _) (by omega)
    · have he : chr s k = 93 := beq_iff_eq.1 hc
      have hr' := (show Hid (R = .inl (x, k)) from (hr.out.symm.trans (rdMembers_end he)))
      clear he hr hf hc
      have hl : w.heap.size + 1 + 1 < w1.heap.size := ha.out.h3.lt
      obtain ⟨_, c0, c1, c2, c3, f0, f1, f2, f3⟩ := ha.out.h1
      obtain ⟨_, d0, d1, g0, g1⟩ := ha.out.h2
      obtain ⟨_, e0, e1, e2, e3, k0, k1, k2, k3⟩ := ha.out.h3
      go_wp2_with fail
      rw [hr'.out]
      refine bodyPost_ret (v := mbV (.inl (x, k))) (by simp [results, Try.results67, go_sem, mbV, wd_zero, *]) rfl ⟨rfl, ?_⟩
      exact put6_below ha.out.hb (Nat.le_refl _) (by omega)
end Go.Proofs.Ytlcmlipldkpliaa
