/- DERIVED. Plain mathematics and walks, laid together (9). -/
import Derived.LoopN
import Derived.Test.YthffklhojdldkaaGreatDoorTt08
namespace Go.Proofs.YthffklhojdldkaaGreatDoor
open Go.RowKit
/-- What a reading of members answers. -/
def mbV : Rd (BitVec 256 × Nat) → Value
  | .inl (x, n) => .tuple #[sv x, .int .i64 n, .agg #[.int .i64 0, .int .i64 0]]
  | .inr (a, c) => .tuple #[sv 0#256, .int .i64 0, .agg #[.int .i64 a, .int .i64 c]]

/-- Block b holds a fault, and may be written. -/
structure FHolds (w : World) (b : Nat) (p q : Int) : Prop where
  lt : b < w.heap.size
  c0 : w.cell? ⟨b, 0, none⟩ = some (.int .i64 p)
  c1 : w.cell? ⟨b, 1, none⟩ = some (.int .i64 q)
  f0 : w.frozen? ⟨b, 0, none⟩ = false
  f1 : w.frozen? ⟨b, 1, none⟩ = false
theorem FHolds.below {B : Nat} {w w' : World} {b : Nat} {p q : Int} (h : FHolds w b p q) (hb : Below B w w') (hB : b < B) : FHolds w' b p q :=
  ⟨Nat.lt_of_lt_of_le h.lt hb.size, (hb.cell (p := ⟨b, 0, none⟩) hB).trans h.c0, (hb.cell (p := ⟨b, 1, none⟩) hB).trans h.c1, (hb.frozen (p := ⟨b, 0, none⟩) hB).trans h.f0, (hb.frozen (p := ⟨b, 1, none⟩) hB).trans h.f1⟩
theorem FHolds.new (w : World) (p q : Int) : FHolds (w.alloc (.cells #[.int .i64 p, .int .i64 q] 37)) w.heap.size p q := by
  constructor <;> simp [go_sem]
abbrev fz : Obj := .cells #[.int .i64 0, .int .i64 0] 37
/-- The two boxes of the results: a set and a fault. -/
theorem boxes2 (w : World) : Holds ((w.alloc z4).alloc fz) w.heap.size 0#256 ∧ FHolds ((w.alloc z4).alloc fz) (w.heap.size + 1) 0 0 ∧ Below w.heap.size w ((w.alloc z4).alloc fz) := by
  refine ⟨(Holds.zero w).alloc _, ?_, ((Below.refl _ _).alloc (Nat.le_refl _) _).alloc (by simp) _⟩
  have h := FHolds.new (w.alloc z4) 0 0
  rw [show (w.alloc z4).heap.size = w.heap.size + 1 from by simp] at h
  exact h

theorem put6_below {B : Nat} {w w' : World} {b c : Nat} {x0 x1 x2 x3 y0 y1 : Value} (h : Below B w w') (hb : B ≤ b) (hc : B ≤ c) :
    Below B w ((((((w'.setCell ⟨b, 0, none⟩ x0).setCell ⟨b, 1, none⟩ x1).setCell ⟨b, 2, none⟩ x2).setCell ⟨b, 3, none⟩ x3).setCell ⟨c, 0, none⟩ y0).setCell ⟨c, 1, none⟩ y1) :=
  (((((h.setCell hb _).setCell hb _).setCell hb _).setCell hb _).setCell hc _).setCell hc _
theorem set_size (w : World) (p : Addr) (v : Value) : (w.setCell p v).heap.size = w.heap.size := by simp [World.setCell]
theorem put6_size {w' : World} {b c : Nat} {x0 x1 x2 x3 y0 y1 : Value} :
    ((((((w'.setCell ⟨b, 0, none⟩ x0).setCell ⟨b, 1, none⟩ x1).setCell ⟨b, 2, none⟩ x2).setCell ⟨b, 3, none⟩ x3).setCell ⟨c, 0, none⟩ y0).setCell ⟨c, 1, none⟩ y1).heap.size = w'.heap.size := by
  simp only [set_size]

set_option maxRecDepth 100000 in
set_option maxHeartbeats 1000000 in
theorem readClass_any (s : ByteArray) (i : Nat) (hi : i ≤ s.size) (hs : s.size ≤ 140737488355328) (w : World) :
    Calls Tryz.prog 135 #[.string s, .int .i64 i] w fun e w' => e = .returned (mbV (rdClass s i)) ∧ Below w.heap.size w w' := by
  obtain ⟨q1, q2, q3⟩ := boxes2 w
  have HH := (show Hid _ from q1)
  have HG := (show Hid _ from q2)
  have HR := (show Hid _ from q3)
  clear q1 q2 q3
  by_cases h : i + 1 < s.size
  · have hb : s[i + 1].toNat < 256 := s[i + 1].toNat_lt
    have HX : Hid (∀ w, Calls Tryz.prog 56 #[.int .u8 (s[i + 1].toNat : Int)] w fun e w' => e = .returned (.tuple #[sv (cls s[i + 1].toNat).1, .int .i64 (cls s[i + 1].toNat).2]) ∧ Below w.heap.size w w') := fun w => class_any _ hb w
    by_cases hc : (cls s[i + 1].toNat).2 = 0
    · have HF := (show Hid (rdClass s i = .inl ((cls s[i + 1].toNat).1, i + 2)) from (by show rdClass s i = _; unfold rdClass; rw [chr_in h]; rw [if_pos ⟨h, hc⟩]; rfl))
      go_enter Tryz.func135, Tryz.ntmps135
      go_wp2_with fail
      refine (HX.out _).mono ?_
      rintro e w1 ⟨rfl, hb1⟩
      rw [hc]
      have hl : w.heap.size + 1 < w1.heap.size := by have h := hb1.size; simp at h; omega
      have HR1 := (show Hid _ from HR.out.trans (hb1.mono (by simp; omega)))
      obtain ⟨_, g0, g1, k0, k1⟩ := HG.out.below hb1 (by simp)
      obtain ⟨_, c0, c1, c2, c3, f0, f1, f2, f3⟩ := HH.out.below hb1 (by simp; omega)
      clear hb1 HX hc HH HG HR
      generalize (cls s[i + 1].toNat).1 = r at *
      go_wp2
      rw [HF.out]
      refine bodyPost_ret (v := mbV (.inl (r, i + 2))) (by simp [results, Tryz.results135, go_sem, mbV, wd_zero, *]) rfl ⟨rfl, ?_⟩
      exact (put6_below HR1.out (Nat.le_refl _) (by omega)).alloc (by rw [put6_size]; omega) _
    · have HF := (show Hid (rdClass s i = .inr (i, 10)) from (by show rdClass s i = _; unfold rdClass; rw [chr_in h]; rw [if_neg (fun q => hc q.2)]))
      have hc' : ((cls s[i + 1].toNat).2 == 0) = false := beq_eq_false_iff_ne.2 hc
      clear hc
      go_enter Tryz.func135, Tryz.ntmps135
      go_wp2_with fail
      refine (HX.out _).mono ?_
      rintro e w1 ⟨rfl, hb1⟩
      have hl : w.heap.size + 1 < w1.heap.size := by have h := hb1.size; simp at h; omega
      have HR1 := (show Hid _ from HR.out.trans (hb1.mono (by simp; omega)))
      obtain ⟨_, g0, g1, k0, k1⟩ := HG.out.below hb1 (by simp)
      obtain ⟨_, c0, c1, c2, c3, f0, f1, f2, f3⟩ := HH.out.below hb1 (by simp; omega)
      clear hb1 HX HH HG HR
      generalize cls s[i + 1].toNat = r at *
      go_wp2
      rw [HF.out]
      refine bodyPost_ret (v := mbV (.inr (i, 10))) (by simp [results, Tryz.results135, go_sem, mbV, wd_zero, *]) rfl ⟨rfl, ?_⟩
      exact (put6_below HR1.out (Nat.le_refl _) (by omega)).alloc (by rw [put6_size]; omega) _
  · have HF := (show Hid (rdClass s i = .inr (i, 10)) from (by show rdClass s i = _; unfold rdClass; rw [if_neg (fun q => h q.1)]))
    have h1 : ¬ (i : Int) + 1 < (s.size : Int) := by omega
    go_enter Tryz.func135, Tryz.ntmps135
    go_wp2
    rw [HF.out]
    refine bodyPost_ret (v := mbV (.inr (i, 10))) (by simp [results, Tryz.results135, go_sem, mbV, wd_zero, *]) rfl ⟨rfl, ?_⟩
    exact ((Below.refl _ _).alloc (Nat.le_refl _) _).alloc (by simp) _
end Go.Proofs.YthffklhojdldkaaGreatDoor

namespace Go.Proofs.YthffklhojdldkaaGreatDoor
open Go.RowKit
set_option maxRecDepth 100000 in
set_option maxHeartbeats 1000000 in
theorem member_class (s : ByteArray) (i : Nat) (hi : i ≤ s.size) (hs : s.size ≤ 140737488355328) (w : World) (hc : (chr s i == 37) = true) :
    Calls Tryz.prog 125 #[.string s, .int .i64 i] w fun e w' => e = .returned (mbV (rdMember s i)) ∧ Below w.heap.size w w' := by
  have HF := (show Hid (rdMember s i = rdClass s i) from (by show rdMember s i = _; unfold rdMember; rw [if_pos (beq_iff_eq.1 hc)]))
  obtain ⟨q1, q2, q3⟩ := boxes2 w
  have HH := (show Hid _ from q1)
  have HG := (show Hid _ from q2)
  have HR := (show Hid _ from q3)
  clear q1 q2 q3
  go_enter Tryz.func125, Tryz.ntmps125
  go_wp2_with fail
  refine (standsAt_any s i 37 (by omega) _).mono ?_
  rintro e w1 ⟨rfl, rfl⟩
  rw [hc]
  clear hc
  go_wp2_with fail
  refine (readClass_any s i hi hs _).mono ?_
  rintro e w1 ⟨rfl, hb1⟩
  have hl : w.heap.size + 1 < w1.heap.size := by have h := hb1.size; simp at h; omega
  have HR1 := (show Hid _ from HR.out.trans (hb1.mono (by simp; omega)))
  obtain ⟨_, g0, g1, k0, k1⟩ := HG.out.below hb1 (by simp)
  obtain ⟨_, c0, c1, c2, c3, f0, f1, f2, f3⟩ := HH.out.below hb1 (by simp; omega)
  clear hb1 HH HG HR
  cases hq : rdClass s i with
  | inl p =>
    obtain ⟨y, n⟩ := p
    rw [hq] at HF
    dsimp only [mbV]
    clear hq
    go_wp2
    rw [HF.out]
    refine bodyPost_ret (v := mbV (.inl (y, n))) (by simp [results, Tryz.results125, go_sem, mbV, wd_zero, *]) rfl ⟨rfl, ?_⟩
    exact put6_below HR1.out (Nat.le_refl _) (by omega)
  | inr pq =>
    obtain ⟨a, c⟩ := pq
    rw [hq] at HF
    dsimp only [mbV]
    clear hq
    go_wp2
    rw [HF.out]
    refine bodyPost_ret (v := mbV (.inr (a, c))) (by simp [results, Tryz.results125, go_sem, mbV, wd_zero, *]) rfl ⟨rfl, ?_⟩
    exact put6_below HR1.out (Nat.le_refl _) (by omega)

set_option maxRecDepth 100000 in
set_option maxHeartbeats 1000000 in
theorem member_none (s : ByteArray) (i : Nat) (_hi : i ≤ s.size) (hs : s.size ≤ 140737488355328) (w : World) (hc : (chr s i == 37) = false) (h1 : rdItem s i = none) :
    Calls Tryz.prog 125 #[.string s, .int .i64 i] w fun e w' => e = .returned (mbV (rdMember s i)) ∧ Below w.heap.size w w' := by
  have hn37 : ¬ chr s i = 37 := beq_eq_false_iff_ne.1 hc
  have HF := (show Hid (rdMember s i = .inr (i, 6)) from (by show rdMember s i = _; unfold rdMember; rw [if_neg hn37, h1]))
  clear hn37
  obtain ⟨q1, q2, q3⟩ := boxes2 w
  have HH := (show Hid _ from q1)
  have HG := (show Hid _ from q2)
  have HR := (show Hid _ from q3)
  clear q1 q2 q3
  go_enter Tryz.func125, Tryz.ntmps125
  go_wp2_with fail
  refine (standsAt_any s i 37 (by omega) _).mono ?_
  rintro e w1 ⟨rfl, rfl⟩
  rw [hc]
  clear hc
  go_wp2_with fail
  refine (readItem_any s i hs _).mono ?_
  rintro e w1 ⟨rfl, rfl⟩
  rw [h1]
  dsimp only [itV]
  clear h1
  go_wp2
  rw [HF.out]
  refine bodyPost_ret (v := mbV (.inr (i, 6))) (by simp [results, Tryz.results125, go_sem, mbV, wd_zero, *]) rfl ⟨rfl, ?_⟩
  exact ((Below.refl _ _).alloc (Nat.le_refl _) _).alloc (by simp) _

set_option maxRecDepth 100000 in
set_option maxHeartbeats 1000000 in
theorem member_one (s : ByteArray) (i : Nat) (_hi : i ≤ s.size) (hs : s.size ≤ 140737488355328) (w : World) (hc : (chr s i == 37) = false) (lo n : Nat) (h1 : rdItem s i = some (lo, n)) (h2 : (chr s n == 45) = false) :
    Calls Tryz.prog 125 #[.string s, .int .i64 i] w fun e w' => e = .returned (mbV (rdMember s i)) ∧ Below w.heap.size w w' := by
  have hn37 : ¬ chr s i = 37 := beq_eq_false_iff_ne.1 hc
  have HF := (show Hid (rdMember s i = .inl (spn lo lo, n)) from (by show rdMember s i = _; unfold rdMember; rw [if_neg hn37, h1]; exact if_neg (beq_eq_false_iff_ne.1 h2)))
  obtain ⟨b1, b2, b3⟩ := rdItem_bd h1
  clear hn37
  obtain ⟨q1, q2, q3⟩ := boxes2 w
  have HH := (show Hid _ from q1)
  have HG := (show Hid _ from q2)
  have HR := (show Hid _ from q3)
  clear q1 q2 q3
  go_enter Tryz.func125, Tryz.ntmps125
  go_wp2_with fail
  refine (standsAt_any s i 37 (by omega) _).mono ?_
  rintro e w1 ⟨rfl, rfl⟩
  rw [hc]
  clear hc
  go_wp2_with fail
  refine (readItem_any s i hs _).mono ?_
  rintro e w1 ⟨rfl, rfl⟩
  rw [h1]
  dsimp only [itV]
  clear h1
  go_wp2_with fail
  refine (standsAt_any s n 45 (by omega) _).mono ?_
  rintro e w1 ⟨rfl, rfl⟩
  rw [h2]
  clear h2
  go_wp2_with fail
  refine (bytesFrom_any lo lo _ (by omega) (by omega) (by omega)).mono ?_
  rintro e w1 ⟨rfl, hb1⟩
  have hl : w.heap.size + 1 < w1.heap.size := by have h := hb1.size; simp at h; omega
  have HR1 := (show Hid _ from HR.out.trans (hb1.mono (by simp; omega)))
  obtain ⟨_, g0, g1, k0, k1⟩ := HG.out.below hb1 (by simp)
  obtain ⟨_, c0, c1, c2, c3, f0, f1, f2, f3⟩ := HH.out.below hb1 (by simp; omega)
  clear hb1 HH HG HR
  generalize spn lo lo = y at *
  go_wp2
  rw [HF.out]
  refine bodyPost_ret (v := mbV (.inl (y, n))) (by simp [results, Tryz.results125, go_sem, mbV, wd_zero, *]) rfl ⟨rfl, ?_⟩
  exact put6_below HR1.out (Nat.le_refl _) (by omega)

set_option maxRecDepth 100000 in
set_option maxHeartbeats 1000000 in
theorem member_hole (s : ByteArray) (i : Nat) (_hi : i ≤ s.size) (hs : s.size ≤ 140737488355328) (w : World) (hc : (chr s i == 37) = false) (lo n : Nat) (h1 : rdItem s i = some (lo, n)) (h2 : (chr s n == 45) = true) (h3 : rdItem s (n + 1) = none) :
    Calls Tryz.prog 125 #[.string s, .int .i64 i] w fun e w' => e = .returned (mbV (rdMember s i)) ∧ Below w.heap.size w w' := by
  have hn37 : ¬ chr s i = 37 := beq_eq_false_iff_ne.1 hc
  have HF := (show Hid (rdMember s i = .inr ((n + 1), 6)) from (by show rdMember s i = _; unfold rdMember; rw [if_neg hn37, h1]; exact (if_pos (beq_iff_eq.1 h2)).trans (by rw [h3])))
  obtain ⟨b1, b2, b3⟩ := rdItem_bd h1
  clear hn37
  obtain ⟨q1, q2, q3⟩ := boxes2 w
  have HH := (show Hid _ from q1)
  have HG := (show Hid _ from q2)
  have HR := (show Hid _ from q3)
  clear q1 q2 q3
  go_enter Tryz.func125, Tryz.ntmps125
  go_wp2_with fail
  refine (standsAt_any s i 37 (by omega) _).mono ?_
  rintro e w1 ⟨rfl, rfl⟩
  rw [hc]
  clear hc
  go_wp2_with fail
  refine (readItem_any s i hs _).mono ?_
  rintro e w1 ⟨rfl, rfl⟩
  rw [h1]
  dsimp only [itV]
  clear h1
  go_wp2_with fail
  refine (standsAt_any s n 45 (by omega) _).mono ?_
  rintro e w1 ⟨rfl, rfl⟩
  rw [h2]
  clear h2
  go_wp2_with fail
  rw [show (n : Int) + 1 = ((n + 1 : Nat) : Int) from by omega]
  refine (readItem_any s (n + 1) hs _).mono ?_
  rintro e w1 ⟨rfl, rfl⟩
  rw [h3]
  dsimp only [itV]
  clear h3
  go_wp2
  rw [HF.out]
  refine bodyPost_ret (v := mbV (.inr ((n + 1), 6))) (by simp [results, Tryz.results125, go_sem, mbV, wd_zero, *]) rfl ⟨rfl, ?_⟩
  exact ((Below.refl _ _).alloc (Nat.le_refl _) _).alloc (by simp) _

set_option maxRecDepth 100000 in
set_option maxHeartbeats 1000000 in
theorem member_turned (s : ByteArray) (i : Nat) (_hi : i ≤ s.size) (hs : s.size ≤ 140737488355328) (w : World) (hc : (chr s i == 37) = false) (lo n hi_ e_ : Nat) (h1 : rdItem s i = some (lo, n)) (h2 : (chr s n == 45) = true) (h3 : rdItem s (n + 1) = some (hi_, e_)) (h4 : hi_ < lo) :
    Calls Tryz.prog 125 #[.string s, .int .i64 i] w fun e w' => e = .returned (mbV (rdMember s i)) ∧ Below w.heap.size w w' := by
  have hn37 : ¬ chr s i = 37 := beq_eq_false_iff_ne.1 hc
  have HF := (show Hid (rdMember s i = .inr (i, 1)) from (by show rdMember s i = _; unfold rdMember; rw [if_neg hn37, h1]; exact (if_pos (beq_iff_eq.1 h2)).trans (by rw [h3]; exact if_pos h4)))
  obtain ⟨b1, b2, b3⟩ := rdItem_bd h1
  have h5 : (hi_ : Int) < (lo : Int) := by omega
  clear hn37
  obtain ⟨q1, q2, q3⟩ := boxes2 w
  have HH := (show Hid _ from q1)
  have HG := (show Hid _ from q2)
  have HR := (show Hid _ from q3)
  clear q1 q2 q3
  go_enter Tryz.func125, Tryz.ntmps125
  go_wp2_with fail
  refine (standsAt_any s i 37 (by omega) _).mono ?_
  rintro e w1 ⟨rfl, rfl⟩
  rw [hc]
  clear hc
  go_wp2_with fail
  refine (readItem_any s i hs _).mono ?_
  rintro e w1 ⟨rfl, rfl⟩
  rw [h1]
  dsimp only [itV]
  clear h1
  go_wp2_with fail
  refine (standsAt_any s n 45 (by omega) _).mono ?_
  rintro e w1 ⟨rfl, rfl⟩
  rw [h2]
  clear h2
  go_wp2_with fail
  rw [show (n : Int) + 1 = ((n + 1 : Nat) : Int) from by omega]
  refine (readItem_any s (n + 1) hs _).mono ?_
  rintro e w1 ⟨rfl, rfl⟩
  rw [h3]
  dsimp only [itV]
  clear h3
  go_wp2
  rw [HF.out]
  refine bodyPost_ret (v := mbV (.inr (i, 1))) (by simp [results, Tryz.results125, go_sem, mbV, wd_zero, *]) rfl ⟨rfl, ?_⟩
  exact ((Below.refl _ _).alloc (Nat.le_refl _) _).alloc (by simp) _

set_option maxRecDepth 100000 in
set_option maxHeartbeats 1000000 in
theorem member_span (s : ByteArray) (i : Nat) (_hi : i ≤ s.size) (hs : s.size ≤ 140737488355328) (w : World) (hc : (chr s i == 37) = false) (lo n hi_ e_ : Nat) (h1 : rdItem s i = some (lo, n)) (h2 : (chr s n == 45) = true) (h3 : rdItem s (n + 1) = some (hi_, e_)) (h4 : ¬ hi_ < lo) :
    Calls Tryz.prog 125 #[.string s, .int .i64 i] w fun e w' => e = .returned (mbV (rdMember s i)) ∧ Below w.heap.size w w' := by
  have hn37 : ¬ chr s i = 37 := beq_eq_false_iff_ne.1 hc
  have HF := (show Hid (rdMember s i = .inl (spn lo hi_, e_)) from (by show rdMember s i = _; unfold rdMember; rw [if_neg hn37, h1]; exact (if_pos (beq_iff_eq.1 h2)).trans (by rw [h3]; exact if_neg h4)))
  obtain ⟨b1, b2, b3⟩ := rdItem_bd h1
  obtain ⟨d1, d2, d3⟩ := rdItem_bd h3
  have h5 : ¬ (hi_ : Int) < (lo : Int) := by omega
  clear hn37
  obtain ⟨q1, q2, q3⟩ := boxes2 w
  have HH := (show Hid _ from q1)
  have HG := (show Hid _ from q2)
  have HR := (show Hid _ from q3)
  clear q1 q2 q3
  go_enter Tryz.func125, Tryz.ntmps125
  go_wp2_with fail
  refine (standsAt_any s i 37 (by omega) _).mono ?_
  rintro e w1 ⟨rfl, rfl⟩
  rw [hc]
  clear hc
  go_wp2_with fail
  refine (readItem_any s i hs _).mono ?_
  rintro e w1 ⟨rfl, rfl⟩
  rw [h1]
  dsimp only [itV]
  clear h1
  go_wp2_with fail
  refine (standsAt_any s n 45 (by omega) _).mono ?_
  rintro e w1 ⟨rfl, rfl⟩
  rw [h2]
  clear h2
  go_wp2_with fail
  rw [show (n : Int) + 1 = ((n + 1 : Nat) : Int) from by omega]
  refine (readItem_any s (n + 1) hs _).mono ?_
  rintro e w1 ⟨rfl, rfl⟩
  rw [h3]
  dsimp only [itV]
  clear h3
  go_wp2_with fail
  refine (bytesFrom_any lo hi_ _ (by omega) (by omega) (by omega)).mono ?_
  rintro e w1 ⟨rfl, hb1⟩
  have hl : w.heap.size + 1 < w1.heap.size := by have h := hb1.size; simp at h; omega
  have HR1 := (show Hid _ from HR.out.trans (hb1.mono (by simp; omega)))
  obtain ⟨_, g0, g1, k0, k1⟩ := HG.out.below hb1 (by simp)
  obtain ⟨_, c0, c1, c2, c3, f0, f1, f2, f3⟩ := HH.out.below hb1 (by simp; omega)
  clear hb1 HH HG HR
  generalize spn lo hi_ = y at *
  go_wp2
  rw [HF.out]
  refine bodyPost_ret (v := mbV (.inl (y, e_))) (by simp [results, Tryz.results125, go_sem, mbV, wd_zero, *]) rfl ⟨rfl, ?_⟩
  exact put6_below HR1.out (Nat.le_refl _) (by omega)

theorem readMember_any (s : ByteArray) (i : Nat) (hi : i ≤ s.size) (hs : s.size ≤ 140737488355328) (w : World) :
    Calls Tryz.prog 125 #[.string s, .int .i64 i] w fun e w' => e = .returned (mbV (rdMember s i)) ∧ Below w.heap.size w w' := by
  cases hc : (chr s i == 37)
  · cases h1 : rdItem s i with
    | none => exact member_none s i hi hs w hc h1
    | some p =>
      obtain ⟨lo, n⟩ := p
      cases h2 : (chr s n == 45)
      · exact member_one s i hi hs w hc lo n h1 h2
      · cases h3 : rdItem s (n + 1) with
        | none => exact member_hole s i hi hs w hc lo n h1 h2 h3
        | some p =>
          obtain ⟨hi_, e_⟩ := p
          by_cases h4 : hi_ < lo
          · exact member_turned s i hi hs w hc lo n hi_ e_ h1 h2 h3 h4
          · exact member_span s i hi hs w hc lo n hi_ e_ h1 h2 h3 h4
  · exact member_class s i hi hs w hc
end Go.Proofs.YthffklhojdldkaaGreatDoor

namespace Go.Proofs.YthffklhojdldkaaGreatDoor
open Go.RowKit
theorem rdMembers_end {s : ByteArray} {f : Nat} {x : BitVec 256} {k : Nat} (h : chr s k = 93) : rdMembers s (f + 1) x k = .inl (x, k) := by
  unfold rdMembers; rw [if_pos h]
theorem rdMembers_err {s : ByteArray} {f : Nat} {x : BitVec 256} {k a : Nat} {c : Int} (h : ¬ chr s k = 93) (h1 : rdMember s k = .inr (a, c)) : rdMembers s (f + 1) x k = .inr (a, c) := by
  rw [rdMembers, if_neg h, h1]
theorem rdMembers_step {s : ByteArray} {f : Nat} {x y : BitVec 256} {k n : Nat} (h : ¬ chr s k = 93) (h1 : rdMember s k = .inl (y, n)) : rdMembers s (f + 1) x k = rdMembers s f (x ||| y) n := by
  rw [rdMembers, if_neg h, h1]

theorem rdMember_code {s : ByteArray} {i a : Nat} {c : Int} (h : rdMember s i = .inr (a, c)) : (c != 0) = true ∧ a ≤ s.size + i + 1 := by
  unfold rdMember at h
  split at h
  · unfold rdClass at h
    split at h
    · simp at h
    · simp only [Sum.inr.injEq, Prod.mk.injEq] at h; obtain ⟨rfl, rfl⟩ := h; exact ⟨rfl, by omega⟩
  · split at h
    · simp only [Sum.inr.injEq, Prod.mk.injEq] at h; obtain ⟨rfl, rfl⟩ := h; exact ⟨rfl, by omega⟩
    · rename_i lo m hm
      have b1 := rdItem_bd hm
      split at h
      · split at h
        · simp only [Sum.inr.injEq, Prod.mk.injEq] at h; obtain ⟨rfl, rfl⟩ := h; exact ⟨rfl, by omega⟩
        · split at h
          · simp only [Sum.inr.injEq, Prod.mk.injEq] at h; obtain ⟨rfl, rfl⟩ := h; exact ⟨rfl, by omega⟩
          · simp at h
      · simp at h
theorem rdMembers_code {s : ByteArray} : ∀ {f : Nat} {x : BitVec 256} {i a : Nat} {c : Int}, rdMembers s f x i = .inr (a, c) → (c != 0) = true := by
  intro f
  induction f with
  | zero => intro x i a c h; simp only [rdMembers, Sum.inr.injEq, Prod.mk.injEq] at h; obtain ⟨rfl, rfl⟩ := h; rfl
  | succ f ih =>
    intro x i a c h
    by_cases hc : chr s i = 93
    · rw [rdMembers_end hc] at h; simp at h
    · cases hm : rdMember s i with
      | inr pq =>
        obtain ⟨a', c'⟩ := pq
        rw [rdMembers_err hc hm] at h; simp only [Sum.inr.injEq, Prod.mk.injEq] at h; obtain ⟨rfl, rfl⟩ := h; exact (rdMember_code hm).1
      | inl p => obtain ⟨y, n⟩ := p; rw [rdMembers_step hc hm] at h; exact ih h
theorem rdMembers_ok {s : ByteArray} : ∀ {f : Nat} {x y : BitVec 256} {i n : Nat}, rdMembers s f x i = .inl (y, n) → i ≤ n ∧ n < s.size ∧ chr s n = 93 := by
  intro f
  induction f with
  | zero => intro x y i n h; simp [rdMembers] at h
  | succ f ih =>
    intro x y i n h
    by_cases hc : chr s i = 93
    · rw [rdMembers_end hc] at h; simp only [Sum.inl.injEq, Prod.mk.injEq] at h; obtain ⟨rfl, rfl⟩ := h; exact ⟨by omega, chr_lt (by omega), hc⟩
    · cases hm : rdMember s i with
      | inr pq =>
        obtain ⟨a', c'⟩ := pq
        rw [rdMembers_err hc hm] at h; simp at h
      | inl p => obtain ⟨y, n⟩ := p; have b := rdMember_bd hm; rw [rdMembers_step hc hm] at h; have b2 := ih h; exact ⟨by omega, b2.2⟩

/-- The three boxes: a set, a fault, the set that is gathered. -/
theorem boxes3 (w : World) : Holds (((w.alloc z4).alloc fz).alloc z4) w.heap.size 0#256 ∧ FHolds (((w.alloc z4).alloc fz).alloc z4) (w.heap.size + 1) 0 0 ∧ Holds (((w.alloc z4).alloc fz).alloc z4) (w.heap.size + 1 + 1) 0#256 ∧ Below w.heap.size w (((w.alloc z4).alloc fz).alloc z4) := by
  obtain ⟨h1, h2, h3⟩ := boxes2 w
  have hs : ((w.alloc z4).alloc fz).heap.size = w.heap.size + 1 + 1 := by simp
  refine ⟨h1.alloc _, h2.below (B := w.heap.size + 1 + 1) ((Below.refl _ _).alloc (by rw [hs]; exact Nat.le_refl _) _) (by omega), ?_, h3.alloc (by rw [hs]; omega) _⟩
  have h := Holds.zero ((w.alloc z4).alloc fz)
  rw [hs] at h
  exact h
/-- What holds of the boxes while members are read. -/
structure AtM (w wr : World) (x : BitVec 256) : Prop where
  h1 : Holds wr w.heap.size 0#256
  h2 : FHolds wr (w.heap.size + 1) 0 0
  h3 : Holds wr (w.heap.size + 1 + 1) x
  hb : Below w.heap.size w wr
theorem AtM.below {B : Nat} {w wr w1 : World} {x : BitVec 256} (h : AtM w wr x) (hb : Below B wr w1) (hB : w.heap.size + 1 + 1 < B) : AtM w w1 x :=
  ⟨h.h1.below hb (by omega), h.h2.below hb (by omega), h.h3.below hb hB, h.hb.trans (hb.mono (by omega))⟩

theorem FHolds.put_other {w : World} {b c : Nat} {p q : Int} (h : FHolds w c p q) (hne : c ≠ b) (y : BitVec 256) : FHolds (put4 w b y) c p q := by
  obtain ⟨lt, c0, c1, f0, f1⟩ := h
  constructor <;> simp [go_sem, *]
theorem AtM.put {w wr : World} {x : BitVec 256} (h : AtM w wr x) (y : BitVec 256) : AtM w (put4 wr (w.heap.size + 1 + 1) y) y :=
  ⟨h.h1.put_other (by omega) y, h.h2.put_other (by omega) y, h.h3.put y, put4_below h.hb (by omega) y⟩

set_option maxRecDepth 100000 in
set_option maxHeartbeats 2000000 in
theorem readMembers_any (s : ByteArray) (i : Nat) (hi : i ≤ s.size) (hs : s.size ≤ 140737488355328) (w : World) :
    Calls Tryz.prog 106 #[.string s, .int .i64 i] w fun e w' => e = .returned (mbV (rdMembers s (s.size + 1) 0#256 i)) ∧ Below w.heap.size w w' := by
  obtain ⟨q1, q2, q3, q4⟩ := boxes3 w
  have HA := (show Hid (AtM w (((w.alloc z4).alloc fz).alloc z4) 0#256) from ⟨q1, q2, q3, q4⟩)
  clear q1 q2 q3 q4
  generalize hR : rdMembers s (s.size + 1) 0#256 i = R
  have HR := (show Hid _ from hR)
  clear hR
  go_enter Tryz.func106, Tryz.ntmps106
  go_wp2_with fail
  go_loopw [1] (fun t wr => ∃ k : Nat, ∃ f : Nat, ∃ x : BitVec 256, k ≤ s.size ∧ t = .int .i64 k ∧ Hid (s.size + 1 ≤ f + k) ∧ Hid (rdMembers s f x k = R) ∧ Hid (AtM w wr x)) (fun t _ => s.size - (intOf t).toNat)
  case atStart => exact ⟨i, s.size + 1, 0#256, hi, rfl, show _ ≤ _ by omega, HR, HA⟩
  case round =>
    obtain ⟨k, f, x, hk, rfl, hf, hr, ha⟩ := hrel
    obtain ⟨g, rfl⟩ : ∃ g, f = g + 1 := ⟨f - 1, by have h := hf.out; omega⟩
    clear HA HR
    go_wp2_with fail
    refine (standsAt_any s k 93 (by omega) _).mono ?_
    rintro e w1 ⟨rfl, rfl⟩
    cases hc : (chr s k == 93)
    · have hn : ¬ chr s k = 93 := beq_eq_false_iff_ne.1 hc
      cases hm : rdMember s k with
      | inl p =>
        obtain ⟨y, n⟩ := p
        obtain ⟨b1, b2⟩ := rdMember_bd hm
        have hr' := (show Hid (rdMembers s g (x ||| y) n = R) from ((rdMembers_step hn hm).symm.trans hr.out))
        have hf' := (show Hid (s.size + 1 ≤ g + n) from (by have h := hf.out; show _ ≤ _; omega))
        have HM := (show Hid _ from hm)
        clear hn hm hc hr hf
        go_wp2_with fail
        refine (readMember_any s k hk hs _).mono ?_
        rintro e w1 ⟨rfl, hb1⟩
        rw [HM.out]
        dsimp only [mbV]
        have HA1 := (show Hid _ from ha.out.below hb1 ha.out.h3.lt)
        clear hb1 ha HM
        have hl : w.heap.size + 1 + 1 < w1.heap.size := HA1.out.h3.lt
        have HA2 := (show Hid (AtM w ((w1.alloc (c4 y)).alloc fz) x) from HA1.out.below (B := w1.heap.size) (((Below.refl _ _).alloc (Nat.le_refl _) _).alloc (by simp) _) hl)
        clear HA1
        obtain ⟨_, c0, c1, c2, c3, f0, f1, f2, f3⟩ := HA2.out.h3
        go_wp2_with fail
        refine (union_any x y _).mono ?_
        rintro e w2 ⟨rfl, hb2⟩
        have HA3 := (show Hid _ from HA2.out.below hb2 HA2.out.h3.lt)
        clear HA2 hb2 c0 c1 c2 c3 f0 f1 f2 f3
        obtain ⟨_, c0, c1, c2, c3, f0, f1, f2, f3⟩ := HA3.out.h3
        go_wp2_with fail
        go_roundw
        case rel =>
          exact ⟨n, g, x ||| y, b2, rfl, hf', hr', HA3.out.put (x ||| y)⟩
        case measure => simp [intOf]; omega
      | inr pq =>
        obtain ⟨a, c⟩ := pq
        have hr' := (show Hid (R = .inr (a, c)) from (hr.out.symm.trans (rdMembers_err hn hm)))
        have HM := (show Hid _ from hm)
        have hcn := (rdMember_code hm).1
        clear hn hm hc hr hf
        go_wp2_with fail
        refine (readMember_any s k hk hs _).mono ?_
        rintro e w1 ⟨rfl, hb1⟩
        rw [HM.out]
        dsimp only [mbV]
        have HA1 := (show Hid _ from ha.out.below hb1 ha.out.h3.lt)
        clear hb1 ha HM
        have hl : w.heap.size + 1 + 1 < w1.heap.size := HA1.out.h3.lt
        have HA2 := (show Hid (AtM w ((w1.alloc (c4 0#256)).alloc (.cells #[.int .i64 (a : Int), .int .i64 c] 37)) x) from HA1.out.below (B := w1.heap.size) (((Below.refl _ _).alloc (Nat.le_refl _) _).alloc (by simp) _) hl)
        clear HA1
        obtain ⟨_, c0, c1, c2, c3, f0, f1, f2, f3⟩ := HA2.out.h1
        obtain ⟨_, d0, d1, g0, g1⟩ := HA2.out.h2
        go_wp2_with fail
        go_region
        all_goals
          go_wp2
          rw [hr'.out]
          have HB2 := HA2.out.hb
          simp only [c4, wd_zero] at c0 c1 c2 c3 f0 f1 f2 f3 d0 d1 g0 g1 HB2 ⊢
          refine bodyPost_ret (v := mbV (.inr (a, c))) (by simp [results, Tryz.results106, go_sem, mbV, wd_zero, *]) rfl ⟨rfl, ?_⟩
          first | exact (put6_below HB2 (Nat.le_refl _) (by omega)).drew | exact put6_below HB2 (Nat.le_refl _) (by omega)
    · have he : chr s k = 93 := beq_iff_eq.1 hc
      have hr' := (show Hid (R = .inl (x, k)) from (hr.out.symm.trans (rdMembers_end he)))
      clear he hr hf hc
      have hl : w.heap.size + 1 + 1 < w1.heap.size := ha.out.h3.lt
      obtain ⟨_, c0, c1, c2, c3, f0, f1, f2, f3⟩ := ha.out.h1
      obtain ⟨_, d0, d1, g0, g1⟩ := ha.out.h2
      obtain ⟨_, e0, e1, e2, e3, k0, k1, k2, k3⟩ := ha.out.h3
      go_wp2_with fail
      rw [hr'.out]
      refine bodyPost_ret (v := mbV (.inl (x, k))) (by simp [results, Tryz.results106, go_sem, mbV, wd_zero, *]) rfl ⟨rfl, ?_⟩
      exact put6_below ha.out.hb (Nat.le_refl _) (by omega)
end Go.Proofs.YthffklhojdldkaaGreatDoor

namespace Go.Proofs.YthffklhojdldkaaGreatDoor
open Go.RowKit
def rdEnd : Rd (BitVec 256 × Nat) → Rd (BitVec 256 × Nat)
  | .inr (a, c) => .inr (a, c)
  | .inl (x, e) => .inl (x, e + 1)
def rdTurn : Rd (BitVec 256 × Nat) → Rd (BitVec 256 × Nat)
  | .inr (a, c) => .inr (a, c)
  | .inl (x, e) => .inl (~~~ x, e + 1)
def rdRead (s : ByteArray) (i : Int) : Rd (BitVec 256 × Nat) :=
  if i < 0 ∨ (s.size : Int) < i then .inr (0, 1) else
  if chr s i.toNat = 91 then
    if chr s (i.toNat + 1) = 94 then rdTurn (rdMembers s (s.size + 1) 0#256 (i.toNat + 2)) else rdEnd (rdMembers s (s.size + 1) 0#256 (i.toNat + 1))
  else .inr (i.toNat, 6)

set_option maxRecDepth 100000 in
set_option maxHeartbeats 2000000 in
theorem read_out (s : ByteArray) (i : Int) (h : i < 0 ∨ (s.size : Int) < i) (w : World) :
    Calls Tryz.prog 83 #[.string s, .int .i64 i] w fun e w' => e = .returned (mbV (rdRead s i)) ∧ Below w.heap.size w w' := by
  have HF := (show Hid (rdRead s i = .inr (0, 1)) from (by show rdRead s i = _; unfold rdRead; rw [if_pos h]))
  rcases h with h | h
  · go_enter Tryz.func83, Tryz.ntmps83
    go_wp2
    rw [HF.out]
    refine bodyPost_ret (v := mbV (.inr (0, 1))) (by simp [results, Tryz.results83, go_sem, mbV, wd_zero, *]) rfl ⟨rfl, ?_⟩
    exact ((Below.refl _ _).alloc (Nat.le_refl _) _).alloc (by simp) _
  · have h0 : ¬ i < 0 := by omega
    go_enter Tryz.func83, Tryz.ntmps83
    go_wp2
    rw [HF.out]
    refine bodyPost_ret (v := mbV (.inr (0, 1))) (by simp [results, Tryz.results83, go_sem, mbV, wd_zero, *]) rfl ⟨rfl, ?_⟩
    exact ((Below.refl _ _).alloc (Nat.le_refl _) _).alloc (by simp) _

set_option maxRecDepth 100000 in
set_option maxHeartbeats 2000000 in
theorem read_none (s : ByteArray) (i : Nat) (hi : i ≤ s.size) (_hs : s.size ≤ 140737488355328) (h : (chr s i == 91) = false) (w : World) :
    Calls Tryz.prog 83 #[.string s, .int .i64 i] w fun e w' => e = .returned (mbV (rdRead s i)) ∧ Below w.heap.size w w' := by
  have HF := (show Hid (rdRead s i = .inr (i, 6)) from (by show rdRead s i = _; unfold rdRead; rw [if_neg (by omega), if_neg (by exact beq_eq_false_iff_ne.1 h)]; rfl))
  go_enter Tryz.func83, Tryz.ntmps83
  go_wp2_with fail
  refine (standsAt_any s i 91 (by omega) _).mono ?_
  rintro e w1 ⟨rfl, rfl⟩
  rw [h]
  clear h
  go_wp2_with fail
  rw [HF.out]
  refine bodyPost_ret (v := mbV (.inr (i, 6))) (by simp [results, Tryz.results83, go_sem, mbV, wd_zero, *]) rfl ⟨rfl, ?_⟩
  exact ((Below.refl _ _).alloc (Nat.le_refl _) _).alloc (by simp) _

structure AtR (w wr : World) : Prop where
  h1 : Holds wr w.heap.size 0#256
  h2 : FHolds wr (w.heap.size + 1) 0 0
  hb : Below w.heap.size w wr
theorem AtR.below {B : Nat} {w wr w1 : World} (h : AtR w wr) (hb : Below B wr w1) (hB : w.heap.size + 1 < B) : AtR w w1 :=
  ⟨h.h1.below hb (by omega), h.h2.below hb hB, h.hb.trans (hb.mono (by omega))⟩
theorem AtR.start (w : World) : AtR w ((w.alloc z4).alloc fz) := ⟨(boxes2 w).1, (boxes2 w).2.1, (boxes2 w).2.2⟩

set_option maxRecDepth 100000 in
set_option maxHeartbeats 2000000 in
theorem read_plain_err (s : ByteArray) (i : Nat) (hi : i + 1 ≤ s.size) (hs : s.size ≤ 140737488355328) (h : (chr s i == 91) = true) (h2 : (chr s (i + 1) == 94) = false) (a : Nat) (c : Int) (hm : rdMembers s (s.size + 1) 0#256 (i + 1) = .inr (a, c)) (w : World) :
    Calls Tryz.prog 83 #[.string s, .int .i64 i] w fun e w' => e = .returned (mbV (rdRead s i)) ∧ Below w.heap.size w w' := by
  have HF := (show Hid (rdRead s i = .inr (a, c)) from (by
    show rdRead s i = _; unfold rdRead
    rw [if_neg (by omega), Int.toNat_natCast, if_pos (beq_iff_eq.1 h), if_neg (beq_eq_false_iff_ne.1 h2), hm]; rfl))
  have HM := (show Hid _ from hm)
  have HA := (show Hid _ from AtR.start w)
  have hcn := rdMembers_code hm
  clear hm
  go_enter Tryz.func83, Tryz.ntmps83
  go_wp2_with fail
  refine (standsAt_any s i 91 (by omega) _).mono ?_
  rintro e w1 ⟨rfl, rfl⟩
  rw [h]
  clear h
  go_wp2_with fail
  rw [show (i : Int) + 1 = ((i + 1 : Nat) : Int) from by omega]
  refine (standsAt_any s (i + 1) 94 (by omega) _).mono ?_
  rintro e w1 ⟨rfl, rfl⟩
  rw [h2]
  clear h2
  go_wp2_with fail
  refine (readMembers_any s (i + 1) hi hs _).mono ?_
  rintro e w1 ⟨rfl, hb1⟩
  rw [HM.out]
  dsimp only [mbV]
  have HA1 := (show Hid _ from HA.out.below hb1 HA.out.h2.lt)
  clear hb1 HA HM
  have hl : w.heap.size + 1 < w1.heap.size := HA1.out.h2.lt
  have HA2 := (show Hid (AtR w ((w1.alloc (c4 0#256)).alloc (.cells #[.int .i64 (a : Int), .int .i64 c] 37))) from HA1.out.below (B := w1.heap.size) (((Below.refl _ _).alloc (Nat.le_refl _) _).alloc (by simp) _) hl)
  clear HA1
  obtain ⟨_, c0, c1, c2, c3, f0, f1, f2, f3⟩ := HA2.out.h1
  obtain ⟨_, d0, d1, g0, g1⟩ := HA2.out.h2
  go_wp2_with fail
  go_region
  all_goals
    go_wp2
    rw [HF.out]
    have HB2 := HA2.out.hb
    simp only [c4, wd_zero] at c0 c1 c2 c3 f0 f1 f2 f3 d0 d1 g0 g1 HB2 ⊢
    refine bodyPost_ret (v := mbV (.inr (a, c))) (by simp [results, Tryz.results83, go_sem, mbV, wd_zero, *]) rfl ⟨rfl, ?_⟩
    first | exact (put6_below HB2 (Nat.le_refl _) (by omega)).drew | exact put6_below HB2 (Nat.le_refl _) (by omega)

set_option maxRecDepth 100000 in
set_option maxHeartbeats 2000000 in
theorem read_turn_err (s : ByteArray) (i : Nat) (hi : i + 2 ≤ s.size) (hs : s.size ≤ 140737488355328) (h : (chr s i == 91) = true) (h2 : (chr s (i + 1) == 94) = true) (a : Nat) (c : Int) (hm : rdMembers s (s.size + 1) 0#256 (i + 2) = .inr (a, c)) (w : World) :
    Calls Tryz.prog 83 #[.string s, .int .i64 i] w fun e w' => e = .returned (mbV (rdRead s i)) ∧ Below w.heap.size w w' := by
  have HF := (show Hid (rdRead s i = .inr (a, c)) from (by
    show rdRead s i = _; unfold rdRead
    rw [if_neg (by omega), Int.toNat_natCast, if_pos (beq_iff_eq.1 h), if_pos (beq_iff_eq.1 h2), hm]; rfl))
  have HM := (show Hid _ from hm)
  have HA := (show Hid _ from AtR.start w)
  have hcn := rdMembers_code hm
  clear hm
  go_enter Tryz.func83, Tryz.ntmps83
  go_wp2_with fail
  refine (standsAt_any s i 91 (by omega) _).mono ?_
  rintro e w1 ⟨rfl, rfl⟩
  rw [h]
  clear h
  go_wp2_with fail
  rw [show (i : Int) + 1 = ((i + 1 : Nat) : Int) from by omega]
  refine (standsAt_any s (i + 1) 94 (by omega) _).mono ?_
  rintro e w1 ⟨rfl, rfl⟩
  rw [h2]
  clear h2
  go_wp2_with fail
  rw [show (i : Int) + 1 + 1 = ((i + 2 : Nat) : Int) from by omega]
  refine (readMembers_any s (i + 2) hi hs _).mono ?_
  rintro e w1 ⟨rfl, hb1⟩
  rw [HM.out]
  dsimp only [mbV]
  have HA1 := (show Hid _ from HA.out.below hb1 HA.out.h2.lt)
  clear hb1 HA HM
  have hl : w.heap.size + 1 < w1.heap.size := HA1.out.h2.lt
  have HA2 := (show Hid (AtR w ((w1.alloc (c4 0#256)).alloc (.cells #[.int .i64 (a : Int), .int .i64 c] 37))) from HA1.out.below (B := w1.heap.size) (((Below.refl _ _).alloc (Nat.le_refl _) _).alloc (by simp) _) hl)
  clear HA1
  obtain ⟨_, c0, c1, c2, c3, f0, f1, f2, f3⟩ := HA2.out.h1
  obtain ⟨_, d0, d1, g0, g1⟩ := HA2.out.h2
  go_wp2_with fail
  go_region
  all_goals
    go_wp2
    rw [HF.out]
    have HB2 := HA2.out.hb
    simp only [c4, wd_zero] at c0 c1 c2 c3 f0 f1 f2 f3 d0 d1 g0 g1 HB2 ⊢
    refine bodyPost_ret (v := mbV (.inr (a, c))) (by simp [results, Tryz.results83, go_sem, mbV, wd_zero, *]) rfl ⟨rfl, ?_⟩
    first | exact (put6_below HB2 (Nat.le_refl _) (by omega)).drew | exact put6_below HB2 (Nat.le_refl _) (by omega)

set_option maxRecDepth 100000 in
set_option maxHeartbeats 2000000 in
theorem read_plain_ok (s : ByteArray) (i : Nat) (hi : i + 1 ≤ s.size) (hs : s.size ≤ 140737488355328) (h : (chr s i == 91) = true) (h2 : (chr s (i + 1) == 94) = false) (x : BitVec 256) (n : Nat) (hm : rdMembers s (s.size + 1) 0#256 (i + 1) = .inl (x, n)) (w : World) :
    Calls Tryz.prog 83 #[.string s, .int .i64 i] w fun e w' => e = .returned (mbV (rdRead s i)) ∧ Below w.heap.size w w' := by
  have HF := (show Hid (rdRead s i = .inl (x, n + 1)) from (by
    show rdRead s i = _; unfold rdRead
    rw [if_neg (by omega), Int.toNat_natCast, if_pos (beq_iff_eq.1 h), if_neg (beq_eq_false_iff_ne.1 h2), hm]; rfl))
  have HM := (show Hid _ from hm)
  have HA := (show Hid _ from AtR.start w)
  obtain ⟨hn1, hn2, -⟩ := rdMembers_ok hm
  clear hm
  go_enter Tryz.func83, Tryz.ntmps83
  go_wp2_with fail
  refine (standsAt_any s i 91 (by omega) _).mono ?_
  rintro e w1 ⟨rfl, rfl⟩
  rw [h]
  clear h
  go_wp2_with fail
  rw [show (i : Int) + 1 = ((i + 1 : Nat) : Int) from by omega]
  refine (standsAt_any s (i + 1) 94 (by omega) _).mono ?_
  rintro e w1 ⟨rfl, rfl⟩
  rw [h2]
  clear h2
  go_wp2_with fail
  refine (readMembers_any s (i + 1) hi hs _).mono ?_
  rintro e w1 ⟨rfl, hb1⟩
  rw [HM.out]
  dsimp only [mbV]
  have HA1 := (show Hid _ from HA.out.below hb1 HA.out.h2.lt)
  clear hb1 HA HM
  have hl : w.heap.size + 1 < w1.heap.size := HA1.out.h2.lt
  have HA2 := (show Hid (AtR w ((w1.alloc (c4 x)).alloc fz)) from HA1.out.below (B := w1.heap.size) (((Below.refl _ _).alloc (Nat.le_refl _) _).alloc (by simp) _) hl)
  clear HA1
  obtain ⟨_, c0, c1, c2, c3, f0, f1, f2, f3⟩ := HA2.out.h1
  obtain ⟨_, d0, d1, g0, g1⟩ := HA2.out.h2
  go_wp2_with fail
  rw [HF.out]
  refine bodyPost_ret (v := mbV (.inl (x, n + 1))) (by simp [results, Tryz.results83, go_sem, mbV, wd_zero, *]) rfl ⟨rfl, ?_⟩
  exact put6_below HA2.out.hb (Nat.le_refl _) (by omega)

set_option maxRecDepth 100000 in
set_option maxHeartbeats 2000000 in
theorem read_turn_ok (s : ByteArray) (i : Nat) (hi : i + 2 ≤ s.size) (hs : s.size ≤ 140737488355328) (h : (chr s i == 91) = true) (h2 : (chr s (i + 1) == 94) = true) (x : BitVec 256) (n : Nat) (hm : rdMembers s (s.size + 1) 0#256 (i + 2) = .inl (x, n)) (w : World) :
    Calls Tryz.prog 83 #[.string s, .int .i64 i] w fun e w' => e = .returned (mbV (rdRead s i)) ∧ Below w.heap.size w w' := by
  have HF := (show Hid (rdRead s i = .inl (~~~ x, n + 1)) from (by
    show rdRead s i = _; unfold rdRead
    rw [if_neg (by omega), Int.toNat_natCast, if_pos (beq_iff_eq.1 h), if_pos (beq_iff_eq.1 h2), hm]; rfl))
  have HM := (show Hid _ from hm)
  have HA := (show Hid _ from AtR.start w)
  obtain ⟨hn1, hn2, -⟩ := rdMembers_ok hm
  clear hm
  go_enter Tryz.func83, Tryz.ntmps83
  go_wp2_with fail
  refine (standsAt_any s i 91 (by omega) _).mono ?_
  rintro e w1 ⟨rfl, rfl⟩
  rw [h]
  clear h
  go_wp2_with fail
  rw [show (i : Int) + 1 = ((i + 1 : Nat) : Int) from by omega]
  refine (standsAt_any s (i + 1) 94 (by omega) _).mono ?_
  rintro e w1 ⟨rfl, rfl⟩
  rw [h2]
  clear h2
  go_wp2_with fail
  rw [show (i : Int) + 1 + 1 = ((i + 2 : Nat) : Int) from by omega]
  refine (readMembers_any s (i + 2) hi hs _).mono ?_
  rintro e w1 ⟨rfl, hb1⟩
  rw [HM.out]
  dsimp only [mbV]
  have HA1 := (show Hid _ from HA.out.below hb1 HA.out.h2.lt)
  clear hb1 HA HM
  have hl : w.heap.size + 1 < w1.heap.size := HA1.out.h2.lt
  have HA2 := (show Hid (AtR w ((w1.alloc (c4 x)).alloc fz)) from HA1.out.below (B := w1.heap.size) (((Below.refl _ _).alloc (Nat.le_refl _) _).alloc (by simp) _) hl)
  clear HA1
  have HX := (show Hid (Holds ((w1.alloc (c4 x)).alloc fz) w1.heap.size x) from (Holds.new w1 x).alloc _)
  go_wp2_with fail
  refine (not_any x _).mono ?_
  rintro e w2 ⟨rfl, hb2⟩
  have HA3 := (show Hid _ from HA2.out.below hb2 HA2.out.h2.lt)
  have HX3 := (show Hid _ from HX.out.below hb2 HX.out.lt)
  have hl2 : w1.heap.size + 1 < w2.heap.size := by have h := hb2.size; simp at h; omega
  clear hb2 HA2 HX
  obtain ⟨_, c0, c1, c2, c3, f0, f1, f2, f3⟩ := HA3.out.h1
  obtain ⟨_, d0, d1, g0, g1⟩ := HA3.out.h2
  obtain ⟨_, e0, e1, e2, e3, k0, k1, k2, k3⟩ := HX3.out
  generalize ~~~ x = y at *
  go_wp2_with fail
  rw [HF.out]
  refine bodyPost_ret (v := mbV (.inl (y, n + 1))) (by simp [results, Tryz.results83, go_sem, mbV, wd_zero, *]) rfl ⟨rfl, ?_⟩
  exact put6_below (put4_below HA3.out.hb (by omega) y) (Nat.le_refl _) (by omega)

theorem read_any (s : ByteArray) (i : Int) (hs : s.size ≤ 140737488355328) (w : World) :
    Calls Tryz.prog 83 #[.string s, .int .i64 i] w fun e w' => e = .returned (mbV (rdRead s i)) ∧ Below w.heap.size w w' := by
  by_cases h : i < 0 ∨ (s.size : Int) < i
  · exact read_out s i h w
  · obtain ⟨n, rfl⟩ : ∃ n : Nat, i = n := ⟨i.toNat, by omega⟩
    have hn : n ≤ s.size := by omega
    cases h1 : (chr s n == 91)
    · exact read_none s n hn hs h1 w
    · have hlt : n < s.size := chr_lt (by rw [beq_iff_eq.1 h1]; omega)
      cases h2 : (chr s (n + 1) == 94)
      · cases hm : rdMembers s (s.size + 1) 0#256 (n + 1) with
        | inr pq =>
          obtain ⟨a, c⟩ := pq
          exact read_plain_err s n hlt hs h1 h2 a c hm w
        | inl p => obtain ⟨x, e⟩ := p; exact read_plain_ok s n hlt hs h1 h2 x e hm w
      · have hlt2 : n + 1 < s.size := chr_lt (by rw [beq_iff_eq.1 h2]; omega)
        cases hm : rdMembers s (s.size + 1) 0#256 (n + 2) with
        | inr pq =>
          obtain ⟨a, c⟩ := pq
          exact read_turn_err s n hlt2 hs h1 h2 a c hm w
        | inl p => obtain ⟨x, e⟩ := p; exact read_turn_ok s n hlt2 hs h1 h2 x e hm w
theorem rdRead_ok {s : ByteArray} {i : Int} {x : BitVec 256} {n : Nat} (h : rdRead s i = .inl (x, n)) : n ≤ s.size := by
  unfold rdRead at h
  split at h
  · simp at h
  · split at h
    · split at h
      · cases hm : rdMembers s (s.size + 1) 0#256 (i.toNat + 2) with
        | inr pq =>
          obtain ⟨a', c'⟩ := pq
          rw [hm] at h; simp [rdTurn] at h
        | inl p => obtain ⟨y, m⟩ := p; have b := rdMembers_ok hm; rw [hm] at h; simp only [rdTurn, Sum.inl.injEq, Prod.mk.injEq] at h; omega
      · cases hm : rdMembers s (s.size + 1) 0#256 (i.toNat + 1) with
        | inr pq =>
          obtain ⟨a', c'⟩ := pq
          rw [hm] at h; simp [rdEnd] at h
        | inl p => obtain ⟨y, m⟩ := p; have b := rdMembers_ok hm; rw [hm] at h; simp only [rdEnd, Sum.inl.injEq, Prod.mk.injEq] at h; omega
    · simp at h
end Go.Proofs.YthffklhojdldkaaGreatDoor

namespace Go.Proofs.YthffklhojdldkaaGreatDoor
open Go.RowKit
/-- Is lo to hi a span of bytes? -/
def spanB (lo hi : Int) : Bool := decide (0 ≤ lo) && (decide (lo ≤ hi) && decide (hi ≤ 255))
theorem put4_below' {B : Nat} {w w' : World} {b : Nat} (h : Below B w w') (hb : B ≤ b) (y : BitVec 256) : Below B w (put4 w' b y) :=
  (((h.setCell hb _).setCell hb _).setCell hb _).setCell hb _
/-- What Range answers. -/
def rng (lo hi : Int) : BitVec 256 × Int := if spanB lo hi then (spn lo hi, 0) else (0#256, 1)
end Go.Proofs.YthffklhojdldkaaGreatDoor

namespace Go.Proofs.YthffklhojdldkaaGreatDoor
open Go.RowKit
/-- The slice v reads as the list of spans l. -/
def Reads (w : World) (v : Value) (l : List (Int × Int)) : Prop :=
  (v = .slice none 0 0 ∧ l = []) ∨ ∃ g off cap, v = .slice (some ⟨g, off, none⟩) l.length cap ∧ g < w.heap.size ∧
    ∀ i (h : i < l.length), w.cell? ⟨g, off + i * 2, none⟩ = some (.int .i64 (l[i]).1) ∧ w.cell? ⟨g, off + i * 2 + 1, none⟩ = some (.int .i64 (l[i]).2)
theorem Reads.below {B : Nat} {w w' : World} {v : Value} {l : List (Int × Int)} (h : Reads w v l) (hb : Below B w w') (hB : w.heap.size ≤ B) : Reads w' v l := by
  rcases h with h | ⟨g, off, cap, hv, hg, hc⟩
  · exact .inl h
  · refine .inr ⟨g, off, cap, hv, Nat.lt_of_lt_of_le hg hb.size, fun i hi => ?_⟩
    exact ⟨(hb.cell (p := ⟨g, off + i * 2, none⟩) (by simp; omega)).trans (hc i hi).1, (hb.cell (p := ⟨g, off + i * 2 + 1, none⟩) (by simp; omega)).trans (hc i hi).2⟩
end Go.Proofs.YthffklhojdldkaaGreatDoor

namespace Go.Proofs.YthffklhojdldkaaGreatDoor
open Go.RowKit
/-- The cells of a slice of spans. -/
def Cells (w : World) (g off : Nat) (l : List (Int × Int)) : Prop :=
  ∀ i (h : i < l.length), w.cell? ⟨g, off + i * 2, none⟩ = some (.int .i64 (l[i]).1) ∧ w.cell? ⟨g, off + i * 2 + 1, none⟩ = some (.int .i64 (l[i]).2)
theorem Cells.below {B : Nat} {w w' : World} {g off : Nat} {l : List (Int × Int)} (h : Cells w g off l) (hb : Below B w w') (hg : g < B) : Cells w' g off l :=
  fun i hi => ⟨(hb.cell (p := ⟨g, off + i * 2, none⟩) hg).trans (h i hi).1, (hb.cell (p := ⟨g, off + i * 2 + 1, none⟩) hg).trans (h i hi).2⟩
/-- What holds while spans are read. -/
structure AtF (w wr : World) (x : BitVec 256) : Prop where
  h1 : Holds wr w.heap.size 0#256
  h2 : Holds wr (w.heap.size + 1) x
  hb : Below w.heap.size w wr
theorem AtF.below {B : Nat} {w wr w1 : World} {x : BitVec 256} (h : AtF w wr x) (hb : Below B wr w1) (hB : w.heap.size + 1 < B) : AtF w w1 x :=
  ⟨h.h1.below hb (by omega), h.h2.below hb hB, h.hb.trans (hb.mono (by omega))⟩
theorem AtF.start (w : World) : AtF w ((w.alloc z4).alloc z4) 0#256 :=
  ⟨(Holds.zero w).alloc _, Holds.zero' w _, ((Below.refl _ _).alloc (Nat.le_refl _) _).alloc (by simp) _⟩
theorem AtF.put {w wr : World} {x : BitVec 256} (h : AtF w wr x) (y : BitVec 256) : AtF w (put4 wr (w.heap.size + 1) y) y :=
  ⟨h.h1.put_other (by omega) y, h.h2.put y, put4_below' h.hb (by omega) y⟩
end Go.Proofs.YthffklhojdldkaaGreatDoor

namespace Go.Proofs.YthffklhojdldkaaGreatDoor
open Go.RowKit
theorem AtF.drew {w wr : World} {x : BitVec 256} (h : AtF w wr x) : AtF w wr.drew x := h.below (Below.refl wr.heap.size wr).drew h.h2.lt

/-- The same, and one span that is read. -/
structure AtG (w wr : World) (x : BitVec 256) (g o : Nat) (lo hi : Int) : Prop where
  h : AtF w wr x
  e0 : wr.cell? ⟨g, o, none⟩ = some (.int .i64 lo)
  e1 : wr.cell? ⟨g, o + 1, none⟩ = some (.int .i64 hi)
  lt : g < wr.heap.size
theorem AtG.below {w wr w1 : World} {x : BitVec 256} {g o : Nat} {lo hi : Int} (h : AtG w wr x g o lo hi) (hb : Below wr.heap.size wr w1) : AtG w w1 x g o lo hi :=
  ⟨h.h.below hb h.h.h2.lt, (hb.cell (p := ⟨g, o, none⟩) h.lt).trans h.e0, (hb.cell (p := ⟨g, o + 1, none⟩) h.lt).trans h.e1, Nat.lt_of_lt_of_le h.lt hb.size⟩
theorem AtG.drew {w wr : World} {x : BitVec 256} {g o : Nat} {lo hi : Int} (h : AtG w wr x g o lo hi) : AtG w wr.drew x g o lo hi := h.below (Below.refl wr.heap.size wr).drew
end Go.Proofs.YthffklhojdldkaaGreatDoor

namespace Go.Proofs.YthffklhojdldkaaGreatDoor
open Go.RowKit
theorem rdMember_ne {s : ByteArray} {i a : Nat} {c : Int} (h : rdMember s i = .inr (a, c)) : c ≠ 0 := by
  unfold rdMember at h
  split at h
  · unfold rdClass at h
    split at h
    · cases h
    · cases h; decide
  · split at h
    · cases h; decide
    · split at h
      · split at h
        · cases h; decide
        · split at h
          · cases h; decide
          · cases h
      · cases h
theorem rdMembers_ne {s : ByteArray} : ∀ (f : Nat) (x : BitVec 256) (i a : Nat) (c : Int), rdMembers s f x i = .inr (a, c) → c ≠ 0 := by
  intro f
  induction f with
  | zero => intro x i a c h; rw [rdMembers] at h; cases h; decide
  | succ f ih =>
    intro x i a c h
    rw [rdMembers] at h
    split at h
    · cases h
    · split at h
      · next a2 c2 hm => cases h; exact rdMember_ne hm
      · exact ih _ _ _ _ h
theorem rdRead_ne {s : ByteArray} {i : Int} {a : Nat} {c : Int} (h : rdRead s i = .inr (a, c)) : c ≠ 0 := by
  unfold rdRead at h
  split at h
  · cases h; decide
  · split at h
    · split at h
      · cases hm : rdMembers s (s.size + 1) 0#256 (i.toNat + 2) with
        | inl p => rw [hm] at h; cases h
        | inr q => obtain ⟨a2, c2⟩ := q; rw [hm] at h; cases h; exact rdMembers_ne _ _ _ _ _ hm
      · cases hm : rdMembers s (s.size + 1) 0#256 (i.toNat + 1) with
        | inl p => rw [hm] at h; cases h
        | inr q => obtain ⟨a2, c2⟩ := q; rw [hm] at h; cases h; exact rdMembers_ne _ _ _ _ _ hm
    · cases h; decide
def clT (s : ByteArray) (b : Nat) : Rd (BitVec 256 × Nat) → Sum Tk (Nat × Int)
  | .inl p => .inl ⟨3, 0, b, p.2, ⟨#[]⟩, wd p.1 0, wd p.1 1, wd p.1 2, wd p.1 3⟩
  | .inr q => if q.2 = 6 ∧ q.1 = s.size then .inr (b, 52) else .inr q
end Go.Proofs.YthffklhojdldkaaGreatDoor

namespace Go.Proofs.YthffklhojdldkaaGreatDoor
open Go.RowKit
abbrev svO (x : BitVec 256) : Obj := .cells #[.int .u64 (wd x 0), .int .u64 (wd x 1), .int .u64 (wd x 2), .int .u64 (wd x 3)] 43
set_option maxRecDepth 100000 in
set_option maxHeartbeats 8000000 in
theorem readCls_any (s : ByteArray) (b : Nat) (hs : s.size ≤ 140737488355000) (w : World) : Calls Tryz.prog 51 #[.string s, .int .i64 b] w fun e w' => e = .returned (tokP (clT s b (rdRead s b))) ∧ Below w.heap.size w w' := by
  have HF : Hid (∀ i e w, Calls Tryz.prog 79 #[.int .i64 i, .int .i64 e] w fun e' w' => e' = .returned (pairV tk0 i e) ∧ Below w.heap.size w w') := fun i e w => fault_any i e w
  have HC : Hid (∀ w, Calls Tryz.prog 83 #[.string s, .int .i64 b] w fun e w' => e = .returned (mbV (rdRead s b)) ∧ Below w.heap.size w w') := fun w => read_any s b (by omega) w
  have HX := (show Hid (BX w ((w.alloc (tkO tk0)).alloc (fxO 0 0)) tk0 0 0) from BX.new w)
  cases hr : rdRead s b with
  | inr p =>
    obtain ⟨a, c⟩ := p
    have hne := rdRead_ne hr
    rw [hr] at HC
    clear hr
    unfold mbV at HC
    by_cases h6 : c = 6 ∧ a = s.size
    · obtain ⟨rfl, rfl⟩ := h6
      have HE : Hid (clT s b (.inr (s.size, 6)) = .inr (b, 52)) := by show clT s b (.inr (s.size, 6)) = _; rw [clT, if_pos ⟨rfl, rfl⟩]
      go_enter Tryz.func51, Tryz.ntmps51
      go_wp2_with fail
      refine (HC.out _).mono ?_
      rintro e w2 ⟨rfl, b2⟩
      have HX2 := (show Hid (BX w ((w2.alloc (svO 0#256)).alloc (fxO s.size 6)) tk0 0 0) from ((HX.out.below b2).below (below_box _ _)).below (below_box _ _))
      clear b2 HX HC
      go_wp2_with fail
      refine (HF.out _ _ _).mono ?_
      rintro e w3 ⟨rfl, b3⟩
      have HX3 := (show Hid (BX w w3 tk0 0 0) from HX2.out.below b3)
      clear b3 HX2 HF
      obtain ⟨f0, f1', f2', f3, f4, f5, f6, f7, f8, g0, g1⟩ := HX3.out.fz
      obtain ⟨c0, c1, c2, c3, c4, c5, c6, c7, c8, d0, d1⟩ := HX3.out.cells
      unfold pairV
      go_wp2_with fail
      have HP := HX3.out.put tk0 b 52
      exact ret_bx rfl rfl rfl rfl HP ⟨by rw [HE.out]; rfl, HP.b⟩
    · have HE : Hid (clT s b (.inr (a, c)) = .inr (a, c)) := by show clT s b (.inr (a, c)) = _; rw [clT, if_neg h6]
      have t1 : (c != 0) = true := by rw [bne, beq_eq_false_iff_ne.2 hne]; rfl
      by_cases hc6 : c = 6
      · have ha : ¬ a = s.size := fun q => h6 ⟨hc6, q⟩
        have t2 : ((a : Int) == (s.size : Int)) = false := by rw [beq_eq_false_iff_ne]; omega
        subst hc6
        clear h6 hne ha t1
        go_enter Tryz.func51, Tryz.ntmps51
        go_wp2_with fail
        refine (HC.out _).mono ?_
        rintro e w2 ⟨rfl, b2⟩
        have HX2 := (show Hid (BX w ((w2.alloc (svO 0#256)).alloc (fxO a 6)) tk0 0 0) from ((HX.out.below b2).below (below_box _ _)).below (below_box _ _))
        clear b2 HX HC
        go_wp2_with fail
        refine (HF.out _ _ _).mono ?_
        rintro e w3 ⟨rfl, b3⟩
        have HX3 := (show Hid (BX w w3 tk0 0 0) from HX2.out.below b3)
        clear b3 HX2 HF
        obtain ⟨f0, f1', f2', f3, f4, f5, f6, f7, f8, g0, g1⟩ := HX3.out.fz
        obtain ⟨c0, c1, c2, c3, c4, c5, c6, c7, c8, d0, d1⟩ := HX3.out.cells
        unfold pairV
        go_wp2_with fail
        have HP := HX3.out.put tk0 a 6
        exact ret_bx rfl rfl rfl rfl HP ⟨by rw [HE.out]; rfl, HP.b⟩
      · have t2 : (c == 6) = false := beq_eq_false_iff_ne.2 hc6
        clear h6 hne hc6
        go_enter Tryz.func51, Tryz.ntmps51
        go_wp2_with fail
        refine (HC.out _).mono ?_
        rintro e w2 ⟨rfl, b2⟩
        have HX2 := (show Hid (BX w ((w2.alloc (svO 0#256)).alloc (fxO a c)) tk0 0 0) from ((HX.out.below b2).below (below_box _ _)).below (below_box _ _))
        clear b2 HX HC
        go_wp2_with fail
        refine (HF.out _ _ _).mono ?_
        rintro e w3 ⟨rfl, b3⟩
        have HX3 := (show Hid (BX w w3 tk0 0 0) from HX2.out.below b3)
        clear b3 HX2 HF
        obtain ⟨f0, f1', f2', f3, f4, f5, f6, f7, f8, g0, g1⟩ := HX3.out.fz
        obtain ⟨c0, c1, c2, c3, c4, c5, c6, c7, c8, d0, d1⟩ := HX3.out.cells
        unfold pairV
        go_wp2_with fail
        have HP := HX3.out.put tk0 a c
        exact ret_bx rfl rfl rfl rfl HP ⟨by rw [HE.out]; rfl, HP.b⟩
  | inl p =>
    obtain ⟨x, n⟩ := p
    rw [hr] at HC
    clear hr HF
    unfold mbV at HC
    have HE := (show Hid (clT s b (.inl (x, n)) = .inl ⟨3, 0, b, n, ⟨#[]⟩, wd x 0, wd x 1, wd x 2, wd x 3⟩) from rfl)
    go_enter Tryz.func51, Tryz.ntmps51
    go_wp2_with fail
    refine (HC.out _).mono ?_
    rintro e w2 ⟨rfl, b2⟩
    have HX2 := (show Hid (BX w w2 tk0 0 0) from HX.out.below b2)
    clear b2 HX HC
    obtain ⟨f0, f1', f2', f3, f4, f5, f6, f7, f8, g0, g1⟩ := HX2.out.fz
    obtain ⟨c0, c1, c2, c3, c4, c5, c6, c7, c8, d0, d1⟩ := HX2.out.cells
    have hsz2 := HX2.out.size
    have hl1 : w.heap.size < w2.heap.size := by omega
    have hne1 : w.heap.size ≠ w2.heap.size := by omega
    have hne2 : w.heap.size + 1 ≠ w2.heap.size := by omega
    go_wp2_with fail
    have HP := ((HX2.out.put ⟨3, 0, b, n, ⟨#[]⟩, wd x 0, wd x 1, wd x 2, wd x 3⟩ 0 0).below (below_box _ (svO x))).below (below_box _ (fxO 0 0))
    exact ret_bx rfl rfl rfl rfl HP ⟨by rw [HE.out]; rfl, HP.b⟩
end Go.Proofs.YthffklhojdldkaaGreatDoor
