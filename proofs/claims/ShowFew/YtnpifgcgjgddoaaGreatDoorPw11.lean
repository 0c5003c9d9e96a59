/- DERIVED. Plain mathematics and walks, laid together (11). -/
import Derived.Test.YtnpifgcgjgddoaaGreatDoorPw10
set_option maxRecDepth 100000
set_option maxHeartbeats 8000000
namespace Go.Proofs.YtnpifgcgjgddoaaGreatDoor
open Go.RowKit
def mbV : Rd (BitVec 256 × Nat) -> Value
 | .inl (x, n) => .tuple #[sv x, .int .i64 n, .agg #[.int .i64 0, .int .i64 0]]
 | .inr (a, c) => .tuple #[sv 0#256, .int .i64 0, .agg #[.int .i64 a, .int .i64 c]]
structure FHolds (w : World) (b : Nat) (p q : Int) : Prop where
 lt : b < w.heap.size
 c0 : w.cell? ⟨b, 0, none⟩ = some (.int .i64 p)
 c1 : w.cell? ⟨b, 1, none⟩ = some (.int .i64 q)
 f0 : w.frozen? ⟨b, 0, none⟩ = false
 f1 : w.frozen? ⟨b, 1, none⟩ = false
theorem FHolds.below {B : Nat} {w w' : World} {b : Nat} {p q : Int} (h : FHolds w b p q) (hb : Below B w w') (hB : b < B) : FHolds w' b p q :=
 ⟨Nat.lt_of_lt_of_le h.lt hb.size, (hb.cell (p := ⟨b, 0, none⟩) hB).trans h.c0, (hb.cell (p := ⟨b, 1, none⟩) hB).trans h.c1, (hb.frozen (p := ⟨b, 0, none⟩) hB).trans h.f0, (hb.frozen (p := ⟨b, 1, none⟩) hB).trans h.f1⟩
theorem FHolds.new (w : World) (p q : Int) : FHolds (w.alloc (.cells #[.int .i64 p, .int .i64 q] 39)) w.heap.size p q := by
 constructor <;> simp [go_sem]
abbrev fz : Obj := .cells #[.int .i64 0, .int .i64 0] 39
theorem zcK (w : World) : Holds ((w.alloc z4).alloc fz) w.heap.size 0#256 /\ FHolds ((w.alloc z4).alloc fz) (w.heap.size + 1) 0 0 /\ Below w.heap.size w ((w.alloc z4).alloc fz) := by
 refine ⟨(Holds.zero w).alloc _, ?_, ((Below.refl _ _).alloc (Nat.le_refl _) _).alloc (by simp) _⟩
 have h := FHolds.new (w.alloc z4) 0 0
 rw [show (w.alloc z4).heap.size = w.heap.size + 1 from by simp] at h
 exact h
theorem zaz {B : Nat} {w w' : World} {b c : Nat} {x0 x1 x2 x3 y0 y1 : Value} (h : Below B w w') (hb : B <= b) (hc : B <= c) :
  Below B w ((((((w'.setCell ⟨b, 0, none⟩ x0).setCell ⟨b, 1, none⟩ x1).setCell ⟨b, 2, none⟩ x2).setCell ⟨b, 3, none⟩ x3).setCell ⟨c, 0, none⟩ y0).setCell ⟨c, 1, none⟩ y1) :=
 (((((h.setCell hb _).setCell hb _).setCell hb _).setCell hb _).setCell hc _).setCell hc _
theorem zmO (w : World) (p : Addr) (v : Value) : (w.setCell p v).heap.size = w.heap.size := by simp [World.setCell]
theorem zgH {w' : World} {b c : Nat} {x0 x1 x2 x3 y0 y1 : Value} :
  ((((((w'.setCell ⟨b, 0, none⟩ x0).setCell ⟨b, 1, none⟩ x1).setCell ⟨b, 2, none⟩ x2).setCell ⟨b, 3, none⟩ x3).setCell ⟨c, 0, none⟩ y0).setCell ⟨c, 1, none⟩ y1).heap.size = w'.heap.size := by
 simp only [zmO]
theorem zfU (s : ByteArray) (i : Nat) (hi : i <= s.size) (hs : s.size <= 140737488355328) (w : World) :
  Calls Tryz.prog 198 #[.string s, .int .i64 i] w fun e w' => e = .returned (mbV (za6 s i)) /\ Below w.heap.size w w' := by
 obtain ⟨q1, q2, q3⟩ := zcK w
 have HH := hO q1
 have HG := hO q2
 have HR := hO q3
 clear q1 q2 q3
 by_cases h : i + 1 < s.size
 ·have hb : s[i + 1].toNat < 256 := s[i + 1].toNat_lt
  have HX : Hid (∀ w, Calls Tryz.prog 143 #[.int .u8 (s[i + 1].toNat : Int)] w fun e w' => e = .returned (.tuple #[sv (cls s[i + 1].toNat).1, .int .i64 (cls s[i + 1].toNat).2]) /\ Below w.heap.size w w') := fun w => zer _ hb w
  by_cases hc : (cls s[i + 1].toNat).2 = 0
  ·have HF : Hid (za6 s i = .inl ((cls s[i + 1].toNat).1, i + 2)) := (by show za6 s i = _; unfold za6; rw [zai h]; rw [if_pos ⟨h, hc⟩]; rfl)
   go_enter Tryz.func198, Tryz.ntmps198
   go_wp2_with fail
   refine (HX.out _).mono ?_
   rintro e w1 ⟨rfl, hb1⟩
   rw [hc]
   have hl : w.heap.size + 1 < w1.heap.size := by have h := hb1.size; simp at h; omega
   have HR1 := hO (HR.out.trans (hb1.mono (by simp; omega)))
   obtain ⟨_, g0, g1, k0, k1⟩ := HG.out.below hb1 (by simp)
   obtain ⟨_, c0, c1, c2, c3, f0, f1, f2, f3⟩ := HH.out.below hb1 (by simp; omega)
   clear hb1 HX hc HH HG HR
   generalize (cls s[i + 1].toNat).1 = r at *
   go_wp2
   rw [HF.out]
   refine bodyPost_ret (v := mbV (.inl (r, i + 2))) (by simp [results, Tryz.results198, go_sem, mbV, zaj, *]) rfl ⟨rfl, ?_⟩
   exact (zaz HR1.out (Nat.le_refl _) (by omega)).alloc (by rw [zgH]; omega) _
  ·have HF : Hid (za6 s i = .inr (i, 10)) := (by show za6 s i = _; unfold za6; rw [zai h]; rw [if_neg (fun q => hc q.2)])
   have hc' : ((cls s[i + 1].toNat).2 == 0) = false := bF hc
   clear hc
   go_enter Tryz.func198, Tryz.ntmps198
   go_wp2_with fail
   refine (HX.out _).mono ?_
   rintro e w1 ⟨rfl, hb1⟩
   have hl : w.heap.size + 1 < w1.heap.size := by have h := hb1.size; simp at h; omega
   have HR1 := hO (HR.out.trans (hb1.mono (by simp; omega)))
   obtain ⟨_, g0, g1, k0, k1⟩ := HG.out.below hb1 (by simp)
   obtain ⟨_, c0, c1, c2, c3, f0, f1, f2, f3⟩ := HH.out.below hb1 (by simp; omega)
   clear hb1 HX HH HG HR
   generalize cls s[i + 1].toNat = r at *
   go_wp2
   rw [HF.out]
   refine bodyPost_ret (v := mbV (.inr (i, 10))) (by simp [results, Tryz.results198, go_sem, mbV, zaj, *]) rfl ⟨rfl, ?_⟩
   exact (zaz HR1.out (Nat.le_refl _) (by omega)).alloc (by rw [zgH]; omega) _
 ·have HF : Hid (za6 s i = .inr (i, 10)) := (by show za6 s i = _; unfold za6; rw [if_neg (fun q => h q.1)])
  have h1 : ¬ (i : Int) + 1 < (s.size : Int) := by omega
  go_enter Tryz.func198, Tryz.ntmps198
  go_wp2
  rw [HF.out]
  refine bodyPost_ret (v := mbV (.inr (i, 10))) (by simp [results, Tryz.results198, go_sem, mbV, zaj, *]) rfl ⟨rfl, ?_⟩
  exact ((Below.refl _ _).alloc (Nat.le_refl _) _).alloc (by simp) _
theorem zgI (s : ByteArray) (i : Nat) (hi : i <= s.size) (hs : s.size <= 140737488355328) (w : World) (hc : (chr s i == 37) = true) :
  Calls Tryz.prog 175 #[.string s, .int .i64 i] w fun e w' => e = .returned (mbV (zad s i)) /\ Below w.heap.size w w' := by
 have HF : Hid (zad s i = za6 s i) := (by show zad s i = _; unfold zad; rw [if_pos (beq_iff_eq.1 hc)])
 obtain ⟨q1, q2, q3⟩ := zcK w
 have HH := hO q1
 have HG := hO q2
 have HR := hO q3
 clear q1 q2 q3
 go_enter Tryz.func175, Tryz.ntmps175
 go_wp2_with fail
 refine (zag s i 37 (by omega) _).mono ?_
 rintro e w1 ⟨rfl, rfl⟩
 rw [hc]
 clear hc
 go_wp2_with fail
 refine (zfU s i hi hs _).mono ?_
 rintro e w1 ⟨rfl, hb1⟩
 have hl : w.heap.size + 1 < w1.heap.size := by have h := hb1.size; simp at h; omega
 have HR1 := hO (HR.out.trans (hb1.mono (by simp; omega)))
 obtain ⟨_, g0, g1, k0, k1⟩ := HG.out.below hb1 (by simp)
 obtain ⟨_, c0, c1, c2, c3, f0, f1, f2, f3⟩ := HH.out.below hb1 (by simp; omega)
 clear hb1 HH HG HR
 cases hq : za6 s i with
 | inl p =>
  obtain ⟨y, n⟩ := p
  rw [hq] at HF
  dsimp only [mbV]
  clear hq
  go_wp2
  rw [HF.out]
  refine bodyPost_ret (v := mbV (.inl (y, n))) (by simp [results, Tryz.results175, go_sem, mbV, zaj, *]) rfl ⟨rfl, ?_⟩
  exact zaz HR1.out (Nat.le_refl _) (by omega)
 | inr pq =>
  obtain ⟨a, c⟩ := pq
  rw [hq] at HF
  dsimp only [mbV]
  clear hq
  go_wp2
  rw [HF.out]
  refine bodyPost_ret (v := mbV (.inr (a, c))) (by simp [results, Tryz.results175, go_sem, mbV, zaj, *]) rfl ⟨rfl, ?_⟩
  exact zaz HR1.out (Nat.le_refl _) (by omega)
theorem zhB (s : ByteArray) (i : Nat) (_hi : i <= s.size) (hs : s.size <= 140737488355328) (w : World) (hc : (chr s i == 37) = false) (h1 : zap s i = none) :
  Calls Tryz.prog 175 #[.string s, .int .i64 i] w fun e w' => e = .returned (mbV (zad s i)) /\ Below w.heap.size w w' := by
 have hn37 : ¬ chr s i = 37 := beq_eq_false_iff_ne.1 hc
 have HF : Hid (zad s i = .inr (i, 6)) := (by show zad s i = _; unfold zad; rw [if_neg hn37, h1])
 clear hn37
 obtain ⟨q1, q2, q3⟩ := zcK w
 have HH := hO q1
 have HG := hO q2
 have HR := hO q3
 clear q1 q2 q3
 go_enter Tryz.func175, Tryz.ntmps175
 go_wp2_with fail
 refine (zag s i 37 (by omega) _).mono ?_
 rintro e w1 ⟨rfl, rfl⟩
 rw [hc]
 clear hc
 go_wp2_with fail
 refine (zaY s i hs _).mono ?_
 rintro e w1 ⟨rfl, rfl⟩
 rw [h1]
 dsimp only [itV]
 clear h1
 go_wp2
 rw [HF.out]
 refine bodyPost_ret (v := mbV (.inr (i, 6))) (by simp [results, Tryz.results175, go_sem, mbV, zaj, *]) rfl ⟨rfl, ?_⟩
 exact ((Below.refl _ _).alloc (Nat.le_refl _) _).alloc (by simp) _
theorem zjj (s : ByteArray) (i : Nat) (_hi : i <= s.size) (hs : s.size <= 140737488355328) (w : World) (hc : (chr s i == 37) = false) (lo n : Nat) (h1 : zap s i = some (lo, n)) (h2 : (chr s n == 45) = false) :
  Calls Tryz.prog 175 #[.string s, .int .i64 i] w fun e w' => e = .returned (mbV (zad s i)) /\ Below w.heap.size w w' := by
 have hn37 : ¬ chr s i = 37 := beq_eq_false_iff_ne.1 hc
 have HF : Hid (zad s i = .inl (spn lo lo, n)) := (by show zad s i = _; unfold zad; rw [if_neg hn37, h1]; exact if_neg (beq_eq_false_iff_ne.1 h2))
 obtain ⟨b1, b2, b3⟩ := zbd h1
 clear hn37
 obtain ⟨q1, q2, q3⟩ := zcK w
 have HH := hO q1
 have HG := hO q2
 have HR := hO q3
 clear q1 q2 q3
 go_enter Tryz.func175, Tryz.ntmps175
 go_wp2_with fail
 refine (zag s i 37 (by omega) _).mono ?_
 rintro e w1 ⟨rfl, rfl⟩
 rw [hc]
 clear hc
 go_wp2_with fail
 refine (zaY s i hs _).mono ?_
 rintro e w1 ⟨rfl, rfl⟩
 rw [h1]
 dsimp only [itV]
 clear h1
 go_wp2_with fail
 refine (zag s n 45 (by omega) _).mono ?_
 rintro e w1 ⟨rfl, rfl⟩
 rw [h2]
 clear h2
 go_wp2_with fail
 refine (zat lo lo _ (by omega) (by omega) (by omega)).mono ?_
 rintro e w1 ⟨rfl, hb1⟩
 have hl : w.heap.size + 1 < w1.heap.size := by have h := hb1.size; simp at h; omega
 have HR1 := hO (HR.out.trans (hb1.mono (by simp; omega)))
 obtain ⟨_, g0, g1, k0, k1⟩ := HG.out.below hb1 (by simp)
 obtain ⟨_, c0, c1, c2, c3, f0, f1, f2, f3⟩ := HH.out.below hb1 (by simp; omega)
 clear hb1 HH HG HR
 generalize spn lo lo = y at *
 go_wp2
 rw [HF.out]
 refine bodyPost_ret (v := mbV (.inl (y, n))) (by simp [results, Tryz.results175, go_sem, mbV, zaj, *]) rfl ⟨rfl, ?_⟩
 exact zaz HR1.out (Nat.le_refl _) (by omega)
theorem zhC (s : ByteArray) (i : Nat) (_hi : i <= s.size) (hs : s.size <= 140737488355328) (w : World) (hc : (chr s i == 37) = false) (lo n : Nat) (h1 : zap s i = some (lo, n)) (h2 : (chr s n == 45) = true) (h3 : zap s (n + 1) = none) :
  Calls Tryz.prog 175 #[.string s, .int .i64 i] w fun e w' => e = .returned (mbV (zad s i)) /\ Below w.heap.size w w' := by
 have hn37 : ¬ chr s i = 37 := beq_eq_false_iff_ne.1 hc
 have HF : Hid (zad s i = .inr ((n + 1), 6)) := (by show zad s i = _; unfold zad; rw [if_neg hn37, h1]; exact (if_pos (beq_iff_eq.1 h2)).trans (by rw [h3]))
 obtain ⟨b1, b2, b3⟩ := zbd h1
 clear hn37
 obtain ⟨q1, q2, q3⟩ := zcK w
 have HH := hO q1
 have HG := hO q2
 have HR := hO q3
 clear q1 q2 q3
 go_enter Tryz.func175, Tryz.ntmps175
 go_wp2_with fail
 refine (zag s i 37 (by omega) _).mono ?_
 rintro e w1 ⟨rfl, rfl⟩
 rw [hc]
 clear hc
 go_wp2_with fail
 refine (zaY s i hs _).mono ?_
 rintro e w1 ⟨rfl, rfl⟩
 rw [h1]
 dsimp only [itV]
 clear h1
 go_wp2_with fail
 refine (zag s n 45 (by omega) _).mono ?_
 rintro e w1 ⟨rfl, rfl⟩
 rw [h2]
 clear h2
 go_wp2_with fail
 rw [show (n : Int) + 1 = ((n + 1 : Nat) : Int) from by omega]
 refine (zaY s (n + 1) hs _).mono ?_
 rintro e w1 ⟨rfl, rfl⟩
 rw [h3]
 dsimp only [itV]
 clear h3
 go_wp2
 rw [HF.out]
 refine bodyPost_ret (v := mbV (.inr ((n + 1), 6))) (by simp [results, Tryz.results175, go_sem, mbV, zaj, *]) rfl ⟨rfl, ?_⟩
 exact ((Below.refl _ _).alloc (Nat.le_refl _) _).alloc (by simp) _
theorem zfV (s : ByteArray) (i : Nat) (_hi : i <= s.size) (hs : s.size <= 140737488355328) (w : World) (hc : (chr s i == 37) = false) (lo n hi_ e_ : Nat) (h1 : zap s i = some (lo, n)) (h2 : (chr s n == 45) = true) (h3 : zap s (n + 1) = some (hi_, e_)) (h4 : hi_ < lo) :
  Calls Tryz.prog 175 #[.string s, .int .i64 i] w fun e w' => e = .returned (mbV (zad s i)) /\ Below w.heap.size w w' := by
 have hn37 : ¬ chr s i = 37 := beq_eq_false_iff_ne.1 hc
 have HF : Hid (zad s i = .inr (i, 1)) := (by show zad s i = _; unfold zad; rw [if_neg hn37, h1]; exact (if_pos (beq_iff_eq.1 h2)).trans (by rw [h3]; exact if_pos h4))
 obtain ⟨b1, b2, b3⟩ := zbd h1
 have h5 : (hi_ : Int) < (lo : Int) := by omega
 clear hn37
 obtain ⟨q1, q2, q3⟩ := zcK w
 have HH := hO q1
 have HG := hO q2
 have HR := hO q3
 clear q1 q2 q3
 go_enter Tryz.func175, Tryz.ntmps175
 go_wp2_with fail
 refine (zag s i 37 (by omega) _).mono ?_
 rintro e w1 ⟨rfl, rfl⟩
 rw [hc]
 clear hc
 go_wp2_with fail
 refine (zaY s i hs _).mono ?_
 rintro e w1 ⟨rfl, rfl⟩
 rw [h1]
 dsimp only [itV]
 clear h1
 go_wp2_with fail
 refine (zag s n 45 (by omega) _).mono ?_
 rintro e w1 ⟨rfl, rfl⟩
 rw [h2]
 clear h2
 go_wp2_with fail
 rw [show (n : Int) + 1 = ((n + 1 : Nat) : Int) from by omega]
 refine (zaY s (n + 1) hs _).mono ?_
 rintro e w1 ⟨rfl, rfl⟩
 rw [h3]
 dsimp only [itV]
 clear h3
 go_wp2
 rw [HF.out]
 refine bodyPost_ret (v := mbV (.inr (i, 1))) (by simp [results, Tryz.results175, go_sem, mbV, zaj, *]) rfl ⟨rfl, ?_⟩
 exact ((Below.refl _ _).alloc (Nat.le_refl _) _).alloc (by simp) _
theorem zhD (s : ByteArray) (i : Nat) (_hi : i <= s.size) (hs : s.size <= 140737488355328) (w : World) (hc : (chr s i == 37) = false) (lo n hi_ e_ : Nat) (h1 : zap s i = some (lo, n)) (h2 : (chr s n == 45) = true) (h3 : zap s (n + 1) = some (hi_, e_)) (h4 : ¬ hi_ < lo) :
  Calls Tryz.prog 175 #[.string s, .int .i64 i] w fun e w' => e = .returned (mbV (zad s i)) /\ Below w.heap.size w w' := by
 have hn37 : ¬ chr s i = 37 := beq_eq_false_iff_ne.1 hc
 have HF : Hid (zad s i = .inl (spn lo hi_, e_)) := (by show zad s i = _; unfold zad; rw [if_neg hn37, h1]; exact (if_pos (beq_iff_eq.1 h2)).trans (by rw [h3]; exact if_neg h4))
 obtain ⟨b1, b2, b3⟩ := zbd h1
 obtain ⟨d1, d2, d3⟩ := zbd h3
 have h5 : ¬ (hi_ : Int) < (lo : Int) := by omega
 clear hn37
 obtain ⟨q1, q2, q3⟩ := zcK w
 have HH := hO q1
 have HG := hO q2
 have HR := hO q3
 clear q1 q2 q3
 go_enter Tryz.func175, Tryz.ntmps175
 go_wp2_with fail
 refine (zag s i 37 (by omega) _).mono ?_
 rintro e w1 ⟨rfl, rfl⟩
 rw [hc]
 clear hc
 go_wp2_with fail
 refine (zaY s i hs _).mono ?_
 rintro e w1 ⟨rfl, rfl⟩
 rw [h1]
 dsimp only [itV]
 clear h1
 go_wp2_with fail
 refine (zag s n 45 (by omega) _).mono ?_
 rintro e w1 ⟨rfl, rfl⟩
 rw [h2]
 clear h2
 go_wp2_with fail
 rw [show (n : Int) + 1 = ((n + 1 : Nat) : Int) from by omega]
 refine (zaY s (n + 1) hs _).mono ?_
 rintro e w1 ⟨rfl, rfl⟩
 rw [h3]
 dsimp only [itV]
 clear h3
 go_wp2_with fail
 refine (zat lo hi_ _ (by omega) (by omega) (by omega)).mono ?_
 rintro e w1 ⟨rfl, hb1⟩
 have hl : w.heap.size + 1 < w1.heap.size := by have h := hb1.size; simp at h; omega
 have HR1 := hO (HR.out.trans (hb1.mono (by simp; omega)))
 obtain ⟨_, g0, g1, k0, k1⟩ := HG.out.below hb1 (by simp)
 obtain ⟨_, c0, c1, c2, c3, f0, f1, f2, f3⟩ := HH.out.below hb1 (by simp; omega)
 clear hb1 HH HG HR
 generalize spn lo hi_ = y at *
 go_wp2
 rw [HF.out]
 refine bodyPost_ret (v := mbV (.inl (y, e_))) (by simp [results, Tryz.results175, go_sem, mbV, zaj, *]) rfl ⟨rfl, ?_⟩
 exact zaz HR1.out (Nat.le_refl _) (by omega)
theorem zcZ (s : ByteArray) (i : Nat) (hi : i <= s.size) (hs : s.size <= 140737488355328) (w : World) :
  Calls Tryz.prog 175 #[.string s, .int .i64 i] w fun e w' => e = .returned (mbV (zad s i)) /\ Below w.heap.size w w' := by
 cases hc : (chr s i == 37)
 ·cases h1 : zap s i with
  | none => exact zhB s i hi hs w hc h1
  | some p =>
   obtain ⟨lo, n⟩ := p
   cases h2 : (chr s n == 45)
   ·exact zjj s i hi hs w hc lo n h1 h2
   ·cases h3 : zap s (n + 1) with
    | none => exact zhC s i hi hs w hc lo n h1 h2 h3
    | some p =>
     obtain ⟨hi_, e_⟩ := p
     by_cases h4 : hi_ < lo
     ·exact zfV s i hi hs w hc lo n hi_ e_ h1 h2 h3 h4
     ·exact zhD s i hi hs w hc lo n hi_ e_ h1 h2 h3 h4
 ·exact zgI s i hi hs w hc
theorem zbv {s : ByteArray} {f : Nat} {x : BitVec 256} {k : Nat} (h : chr s k = 93) : zab s (f + 1) x k = .inl (x, k) := by
 unfold zab; rw [if_pos h]
theorem zbM {s : ByteArray} {f : Nat} {x : BitVec 256} {k a : Nat} {c : Int} (h : ¬ chr s k = 93) (h1 : zad s k = .inr (a, c)) : zab s (f + 1) x k = .inr (a, c) := by
 rw [zab, if_neg h, h1]
theorem zaJ {s : ByteArray} {f : Nat} {x y : BitVec 256} {k n : Nat} (h : ¬ chr s k = 93) (h1 : zad s k = .inl (y, n)) : zab s (f + 1) x k = zab s f (x ||| y) n := by
 rw [zab, if_neg h, h1]
theorem zdo {s : ByteArray} {i a : Nat} {c : Int} (h : zad s i = .inr (a, c)) : (c != 0) = true /\ a <= s.size + i + 1 := by
 unfold zad at h
 split at h
 ·unfold za6 at h
  split at h
  ·simp at h
  ·simp only [Sum.inr.injEq, Prod.mk.injEq] at h; obtain ⟨rfl, rfl⟩ := h; exact ⟨rfl, by omega⟩
 ·split at h
  ·simp only [Sum.inr.injEq, Prod.mk.injEq] at h; obtain ⟨rfl, rfl⟩ := h; exact ⟨rfl, by omega⟩
  ·rename_i lo m hm
   have b1 := zbd hm
   split at h
   ·split at h
    ·simp only [Sum.inr.injEq, Prod.mk.injEq] at h; obtain ⟨rfl, rfl⟩ := h; exact ⟨rfl, by omega⟩
    ·split at h
     ·simp only [Sum.inr.injEq, Prod.mk.injEq] at h; obtain ⟨rfl, rfl⟩ := h; exact ⟨rfl, by omega⟩
     ·simp at h
   ·simp at h
theorem zc0 {s : ByteArray} : ∀ {f : Nat} {x : BitVec 256} {i a : Nat} {c : Int}, zab s f x i = .inr (a, c) -> (c != 0) = true := by
 intro f
 induction f with
 | zero => intro x i a c h; simp only [zab, Sum.inr.injEq, Prod.mk.injEq] at h; obtain ⟨rfl, rfl⟩ := h; rfl
 | succ f ih =>
  intro x i a c h
  by_cases hc : chr s i = 93
  ·rw [zbv hc] at h; simp at h
  ·cases hm : zad s i with
   | inr pq =>
    obtain ⟨a', c'⟩ := pq
    rw [zbM hc hm] at h; simp only [Sum.inr.injEq, Prod.mk.injEq] at h; obtain ⟨rfl, rfl⟩ := h; exact (zdo hm).1
   | inl p => obtain ⟨y, n⟩ := p; rw [zaJ hc hm] at h; exact ih h
theorem zaK {s : ByteArray} : ∀ {f : Nat} {x y : BitVec 256} {i n : Nat}, zab s f x i = .inl (y, n) -> i <= n /\ n < s.size /\ chr s n = 93 := by
 intro f
 induction f with
 | zero => intro x y i n h; simp [zab] at h
 | succ f ih =>
  intro x y i n h
  by_cases hc : chr s i = 93
  ·rw [zbv hc] at h; simp only [Sum.inl.injEq, Prod.mk.injEq] at h; obtain ⟨rfl, rfl⟩ := h; exact ⟨by omega, zaD (by omega), hc⟩
  ·cases hm : zad s i with
   | inr pq =>
    obtain ⟨a', c'⟩ := pq
    rw [zbM hc hm] at h; simp at h
   | inl p => obtain ⟨y, n⟩ := p; have b := zbU hm; rw [zaJ hc hm] at h; have b2 := ih h; exact ⟨by omega, b2.2⟩
theorem boxes3 (w : World) : Holds (((w.alloc z4).alloc fz).alloc z4) w.heap.size 0#256 /\ FHolds (((w.alloc z4).alloc fz).alloc z4) (w.heap.size + 1) 0 0 /\ Holds (((w.alloc z4).alloc fz).alloc z4) (w.heap.size + 1 + 1) 0#256 /\ Below w.heap.size w (((w.alloc z4).alloc fz).alloc z4) := by
 obtain ⟨h1, h2, h3⟩ := zcK w
 have hs : ((w.alloc z4).alloc fz).heap.size = w.heap.size + 1 + 1 := by simp
 refine ⟨h1.alloc _, h2.below (B := w.heap.size + 1 + 1) ((Below.refl _ _).alloc (by rw [hs]; exact Nat.le_refl _) _) (by omega), ?_, h3.alloc (by rw [hs]; omega) _⟩
 have h := Holds.zero ((w.alloc z4).alloc fz)
 rw [hs] at h
 exact h
structure AtM (w wr : World) (x : BitVec 256) : Prop where
 h1 : Holds wr w.heap.size 0#256
 h2 : FHolds wr (w.heap.size + 1) 0 0
 h3 : Holds wr (w.heap.size + 1 + 1) x
 hb : Below w.heap.size w wr
theorem AtM.below {B : Nat} {w wr w1 : World} {x : BitVec 256} (h : AtM w wr x) (hb : Below B wr w1) (hB : w.heap.size + 1 + 1 < B) : AtM w w1 x :=
 ⟨h.h1.below hb (by omega), h.h2.below hb (by omega), h.h3.below hb hB, h.hb.trans (hb.mono (by omega))⟩
theorem FHolds.put_other {w : World} {b c : Nat} {p q : Int} (h : FHolds w c p q) (hne : c ≠ b) (y : BitVec 256) : FHolds (put4 w b y) c p q := by
 obtain ⟨lt, c0, c1, f0, f1⟩ := h
 constructor <;> simp [go_sem, *]
theorem AtM.put {w wr : World} {x : BitVec 256} (h : AtM w wr x) (y : BitVec 256) : AtM w (put4 wr (w.heap.size + 1 + 1) y) y :=
 ⟨h.h1.put_other (by omega) y, h.h2.put_other (by omega) y, h.h3.put y, zcT h.hb (by omega) y⟩
theorem zbw (s : ByteArray) (i : Nat) (hi : i <= s.size) (hs : s.size <= 140737488355328) (w : World) :
  Calls Tryz.prog 158 #[.string s, .int .i64 i] w fun e w' => e = .returned (mbV (zab s (s.size + 1) 0#256 i)) /\ Below w.heap.size w w' := by
 obtain ⟨q1, q2, q3, q4⟩ := boxes3 w
 have HA : Hid (AtM w (((w.alloc z4).alloc fz).alloc z4) 0#256) := ⟨q1, q2, q3, q4⟩
 clear q1 q2 q3 q4
 generalize hR : zab s (s.size + 1) 0#256 i = R
 have HR := hO hR
 clear hR
 go_enter Tryz.func158, Tryz.ntmps158
 go_wp2_with fail
 go_loopw [1] (fun t wr => ∃ k : Nat, ∃ f : Nat, ∃ x : BitVec 256, k <= s.size /\ t = .int .i64 k /\ Hid (s.size + 1 <= f + k) /\ Hid (zab s f x k = R) /\ Hid (AtM w wr x)) (fun t _ => s.size - (intOf t).toNat)
 case atStart => exact ⟨i, s.size + 1, 0#256, hi, rfl, show _ <= _ by omega, HR, HA⟩
 case round =>
  obtain ⟨k, f, x, hk, rfl, hf, hr, ha⟩ := hrel
  obtain ⟨g, rfl⟩ : ∃ g, f = g + 1 := ⟨f - 1, by have h := hf.out; omega⟩
  clear HA HR
  go_wp2_with fail
  refine (zag s k 93 (by omega) _).mono ?_
  rintro e w1 ⟨rfl, rfl⟩
  cases hc : (chr s k == 93)
  ·have hn : ¬ chr s k = 93 := beq_eq_false_iff_ne.1 hc
   cases hm : zad s k with
   | inl p =>
    obtain ⟨y, n⟩ := p
    obtain ⟨b1, b2⟩ := zbU hm
    have hr' : Hid (zab s g (x ||| y) n = R) := ((zaJ hn hm).symm.trans hr.out)
    have hf' : Hid (s.size + 1 <= g + n) := (by have h := hf.out; show _ <= _; omega)
    have HM := hO hm
    clear hn hm hc hr hf
    go_wp2_with fail
    refine (zcZ s k hk hs _).mono ?_
    rintro e w1 ⟨rfl, hb1⟩
    rw [HM.out]
    dsimp only [mbV]
    have HA1 := hO (ha.out.below hb1 ha.out.h3.lt)
    clear hb1 ha HM
    have hl : w.heap.size + 1 + 1 < w1.heap.size := HA1.out.h3.lt
    have HA2 : Hid (AtM w ((w1.alloc (c4 y)).alloc fz) x) := HA1.out.below (B := w1.heap.size) (((Below.refl _ _).alloc (Nat.le_refl _) _).alloc (by simp) _) hl
    clear HA1
    obtain ⟨_, c0, c1, c2, c3, f0, f1, f2, f3⟩ := HA2.out.h3
    go_wp2_with fail
    refine (zjK x y _).mono ?_
    rintro e w2 ⟨rfl, hb2⟩
    have HA3 := hO (HA2.out.below hb2 HA2.out.h3.lt)
    clear HA2 hb2 c0 c1 c2 c3 f0 f1 f2 f3
    obtain ⟨_, c0, c1, c2, c3, f0, f1, f2, f3⟩ := HA3.out.h3
    go_wp2_with fail
    go_roundw
    case rel =>
     exact ⟨n, g, x ||| y, b2, rfl, hf', hr', HA3.out.put (x ||| y)⟩
    case measure => simp [intOf]; omega
   | inr pq =>
    obtain ⟨a, c⟩ := pq
    have hr' : Hid (R = .inr (a, c)) := (hr.out.symm.trans (zbM hn hm))
    have HM := hO hm
    have hcn := (zdo hm).1
    clear hn hm hc hr hf
    go_wp2_with fail
    refine (zcZ s k hk hs _).mono ?_
    rintro e w1 ⟨rfl, hb1⟩
    rw [HM.out]
    dsimp only [mbV]
    have HA1 := hO (ha.out.below hb1 ha.out.h3.lt)
    clear hb1 ha HM
    have hl : w.heap.size + 1 + 1 < w1.heap.size := HA1.out.h3.lt
    have HA2 : Hid (AtM w ((w1.alloc (c4 0#256)).alloc (.cells #[.int .i64 (a : Int), .int .i64 c] 39)) x) := HA1.out.below (B := w1.heap.size) (((Below.refl _ _).alloc (Nat.le_refl _) _).alloc (by simp) _) hl
    clear HA1
    obtain ⟨_, c0, c1, c2, c3, f0, f1, f2, f3⟩ := HA2.out.h1
    obtain ⟨_, d0, d1, g0, g1⟩ := HA2.out.h2
    go_wp2_with fail
    go_region
    all_goals
     go_wp2
     rw [hr'.out]
     have HB2 := HA2.out.hb
     simp only [c4, zaj] at c0 c1 c2 c3 f0 f1 f2 f3 d0 d1 g0 g1 HB2 ⊢
     refine bodyPost_ret (v := mbV (.inr (a, c))) (by simp [results, Tryz.results158, go_sem, mbV, zaj, *]) rfl ⟨rfl, ?_⟩
     first | exact (zaz HB2 (Nat.le_refl _) (by omega)).drew | exact zaz HB2 (Nat.le_refl _) (by omega)
  ·have he : chr s k = 93 := beq_iff_eq.1 hc
   have hr' : Hid (R = .inl (x, k)) := (hr.out.symm.trans (zbv he))
   clear he hr hf hc
   have hl : w.heap.size + 1 + 1 < w1.heap.size := ha.out.h3.lt
   obtain ⟨_, c0, c1, c2, c3, f0, f1, f2, f3⟩ := ha.out.h1
   obtain ⟨_, d0, d1, g0, g1⟩ := ha.out.h2
   obtain ⟨_, e0, e1, e2, e3, k0, k1, k2, k3⟩ := ha.out.h3
   go_wp2_with fail
   rw [hr'.out]
   refine bodyPost_ret (v := mbV (.inl (x, k))) (by simp [results, Tryz.results158, go_sem, mbV, zaj, *]) rfl ⟨rfl, ?_⟩
   exact zaz ha.out.hb (Nat.le_refl _) (by omega)
def zfW : Rd (BitVec 256 × Nat) -> Rd (BitVec 256 × Nat)
 | .inr (a, c) => .inr (a, c)
 | .inl (x, e) => .inl (x, e + 1)
def zdL : Rd (BitVec 256 × Nat) -> Rd (BitVec 256 × Nat)
 | .inr (a, c) => .inr (a, c)
 | .inl (x, e) => .inl (~~~ x, e + 1)
def zal (s : ByteArray) (i : Int) : Rd (BitVec 256 × Nat) :=
 if i < 0 ∨ (s.size : Int) < i then .inr (0, 1) else
 if chr s i.toNat = 91 then
  if chr s (i.toNat + 1) = 94 then zdL (zab s (s.size + 1) 0#256 (i.toNat + 2)) else zfW (zab s (s.size + 1) 0#256 (i.toNat + 1))
 else .inr (i.toNat, 6)
theorem zmP (s : ByteArray) (i : Int) (h : i < 0 ∨ (s.size : Int) < i) (w : World) :
  Calls Tryz.prog 140 #[.string s, .int .i64 i] w fun e w' => e = .returned (mbV (zal s i)) /\ Below w.heap.size w w' := by
 have HF : Hid (zal s i = .inr (0, 1)) := (by show zal s i = _; unfold zal; rw [if_pos h])
 rcases h with h | h
 ·go_enter Tryz.func140, Tryz.ntmps140
  go_wp2
  rw [HF.out]
  refine bodyPost_ret (v := mbV (.inr (0, 1))) (by simp [results, Tryz.results140, go_sem, mbV, zaj, *]) rfl ⟨rfl, ?_⟩
  exact ((Below.refl _ _).alloc (Nat.le_refl _) _).alloc (by simp) _
 ·have h0 : ¬ i < 0 := by omega
  go_enter Tryz.func140, Tryz.ntmps140
  go_wp2
  rw [HF.out]
  refine bodyPost_ret (v := mbV (.inr (0, 1))) (by simp [results, Tryz.results140, go_sem, mbV, zaj, *]) rfl ⟨rfl, ?_⟩
  exact ((Below.refl _ _).alloc (Nat.le_refl _) _).alloc (by simp) _
theorem zkC (s : ByteArray) (i : Nat) (hi : i <= s.size) (_hs : s.size <= 140737488355328) (h : (chr s i == 91) = false) (w : World) :
  Calls Tryz.prog 140 #[.string s, .int .i64 i] w fun e w' => e = .returned (mbV (zal s i)) /\ Below w.heap.size w w' := by
 have HF : Hid (zal s i = .inr (i, 6)) := (by show zal s i = _; unfold zal; rw [if_neg (by omega), if_neg (by exact beq_eq_false_iff_ne.1 h)]; rfl)
 go_enter Tryz.func140, Tryz.ntmps140
 go_wp2_with fail
 refine (zag s i 91 (by omega) _).mono ?_
 rintro e w1 ⟨rfl, rfl⟩
 rw [h]
 clear h
 go_wp2_with fail
 rw [HF.out]
 refine bodyPost_ret (v := mbV (.inr (i, 6))) (by simp [results, Tryz.results140, go_sem, mbV, zaj, *]) rfl ⟨rfl, ?_⟩
 exact ((Below.refl _ _).alloc (Nat.le_refl _) _).alloc (by simp) _
structure AtR (w wr : World) : Prop where
 h1 : Holds wr w.heap.size 0#256
 h2 : FHolds wr (w.heap.size + 1) 0 0
 hb : Below w.heap.size w wr
theorem AtR.below {B : Nat} {w wr w1 : World} (h : AtR w wr) (hb : Below B wr w1) (hB : w.heap.size + 1 < B) : AtR w w1 :=
 ⟨h.h1.below hb (by omega), h.h2.below hb hB, h.hb.trans (hb.mono (by omega))⟩
theorem AtR.start (w : World) : AtR w ((w.alloc z4).alloc fz) := ⟨(zcK w).1, (zcK w).2.1, (zcK w).2.2⟩
theorem ze3 (s : ByteArray) (i : Nat) (hi : i + 1 <= s.size) (hs : s.size <= 140737488355328) (h : (chr s i == 91) = true) (h2 : (chr s (i + 1) == 94) = false) (a : Nat) (c : Int) (hm : zab s (s.size + 1) 0#256 (i + 1) = .inr (a, c)) (w : World) :
  Calls Tryz.prog 140 #[.string s, .int .i64 i] w fun e w' => e = .returned (mbV (zal s i)) /\ Below w.heap.size w w' := by
 have HF := (show Hid (zal s i = .inr (a, c)) from (by
  show zal s i = _; unfold zal
  rw [if_neg (by omega), Int.toNat_natCast, if_pos (beq_iff_eq.1 h), if_neg (beq_eq_false_iff_ne.1 h2), hm]; rfl))
 have HM := hO hm
 have HA := hO (AtR.start w)
 have hcn := zc0 hm
 clear hm
 go_enter Tryz.func140, Tryz.ntmps140
 go_wp2_with fail
 refine (zag s i 91 (by omega) _).mono ?_
 rintro e w1 ⟨rfl, rfl⟩
 rw [h]
 clear h
 go_wp2_with fail
 rw [show (i : Int) + 1 = ((i + 1 : Nat) : Int) from by omega]
 refine (zag s (i + 1) 94 (by omega) _).mono ?_
 rintro e w1 ⟨rfl, rfl⟩
 rw [h2]
 clear h2
 go_wp2_with fail
 refine (zbw s (i + 1) hi hs _).mono ?_
 rintro e w1 ⟨rfl, hb1⟩
 rw [HM.out]
 dsimp only [mbV]
 have HA1 := hO (HA.out.below hb1 HA.out.h2.lt)
 clear hb1 HA HM
 have hl : w.heap.size + 1 < w1.heap.size := HA1.out.h2.lt
 have HA2 : Hid (AtR w ((w1.alloc (c4 0#256)).alloc (.cells #[.int .i64 (a : Int), .int .i64 c] 39))) := HA1.out.below (B := w1.heap.size) (((Below.refl _ _).alloc (Nat.le_refl _) _).alloc (by simp) _) hl
 clear HA1
 obtain ⟨_, c0, c1, c2, c3, f0, f1, f2, f3⟩ := HA2.out.h1
 obtain ⟨_, d0, d1, g0, g1⟩ := HA2.out.h2
 go_wp2_with fail
 go_region
 all_goals
  go_wp2
  rw [HF.out]
  have HB2 := HA2.out.hb
  simp only [c4, zaj] at c0 c1 c2 c3 f0 f1 f2 f3 d0 d1 g0 g1 HB2 ⊢
  refine bodyPost_ret (v := mbV (.inr (a, c))) (by simp [results, Tryz.results140, go_sem, mbV, zaj, *]) rfl ⟨rfl, ?_⟩
  first | exact (zaz HB2 (Nat.le_refl _) (by omega)).drew | exact zaz HB2 (Nat.le_refl _) (by omega)
theorem zfX (s : ByteArray) (i : Nat) (hi : i + 2 <= s.size) (hs : s.size <= 140737488355328) (h : (chr s i == 91) = true) (h2 : (chr s (i + 1) == 94) = true) (a : Nat) (c : Int) (hm : zab s (s.size + 1) 0#256 (i + 2) = .inr (a, c)) (w : World) :
  Calls Tryz.prog 140 #[.string s, .int .i64 i] w fun e w' => e = .returned (mbV (zal s i)) /\ Below w.heap.size w w' := by
 have HF := (show Hid (zal s i = .inr (a, c)) from (by
  show zal s i = _; unfold zal
  rw [if_neg (by omega), Int.toNat_natCast, if_pos (beq_iff_eq.1 h), if_pos (beq_iff_eq.1 h2), hm]; rfl))
 have HM := hO hm
 have HA := hO (AtR.start w)
 have hcn := zc0 hm
 clear hm
 go_enter Tryz.func140, Tryz.ntmps140
 go_wp2_with fail
 refine (zag s i 91 (by omega) _).mono ?_
 rintro e w1 ⟨rfl, rfl⟩
 rw [h]
 clear h
 go_wp2_with fail
 rw [show (i : Int) + 1 = ((i + 1 : Nat) : Int) from by omega]
 refine (zag s (i + 1) 94 (by omega) _).mono ?_
 rintro e w1 ⟨rfl, rfl⟩
 rw [h2]
 clear h2
 go_wp2_with fail
 rw [show (i : Int) + 1 + 1 = ((i + 2 : Nat) : Int) from by omega]
 refine (zbw s (i + 2) hi hs _).mono ?_
 rintro e w1 ⟨rfl, hb1⟩
 rw [HM.out]
 dsimp only [mbV]
 have HA1 := hO (HA.out.below hb1 HA.out.h2.lt)
 clear hb1 HA HM
 have hl : w.heap.size + 1 < w1.heap.size := HA1.out.h2.lt
 have HA2 : Hid (AtR w ((w1.alloc (c4 0#256)).alloc (.cells #[.int .i64 (a : Int), .int .i64 c] 39))) := HA1.out.below (B := w1.heap.size) (((Below.refl _ _).alloc (Nat.le_refl _) _).alloc (by simp) _) hl
 clear HA1
 obtain ⟨_, c0, c1, c2, c3, f0, f1, f2, f3⟩ := HA2.out.h1
 obtain ⟨_, d0, d1, g0, g1⟩ := HA2.out.h2
 go_wp2_with fail
 go_region
 all_goals
  go_wp2
  rw [HF.out]
  have HB2 := HA2.out.hb
  simp only [c4, zaj] at c0 c1 c2 c3 f0 f1 f2 f3 d0 d1 g0 g1 HB2 ⊢
  refine bodyPost_ret (v := mbV (.inr (a, c))) (by simp [results, Tryz.results140, go_sem, mbV, zaj, *]) rfl ⟨rfl, ?_⟩
  first | exact (zaz HB2 (Nat.le_refl _) (by omega)).drew | exact zaz HB2 (Nat.le_refl _) (by omega)
theorem zfY (s : ByteArray) (i : Nat) (hi : i + 1 <= s.size) (hs : s.size <= 140737488355328) (h : (chr s i == 91) = true) (h2 : (chr s (i + 1) == 94) = false) (x : BitVec 256) (n : Nat) (hm : zab s (s.size + 1) 0#256 (i + 1) = .inl (x, n)) (w : World) :
  Calls Tryz.prog 140 #[.string s, .int .i64 i] w fun e w' => e = .returned (mbV (zal s i)) /\ Below w.heap.size w w' := by
 have HF := (show Hid (zal s i = .inl (x, n + 1)) from (by
  show zal s i = _; unfold zal
  rw [if_neg (by omega), Int.toNat_natCast, if_pos (beq_iff_eq.1 h), if_neg (beq_eq_false_iff_ne.1 h2), hm]; rfl))
 have HM := hO hm
 have HA := hO (AtR.start w)
 obtain ⟨hn1, hn2, -⟩ := zaK hm
 clear hm
 go_enter Tryz.func140, Tryz.ntmps140
 go_wp2_with fail
 refine (zag s i 91 (by omega) _).mono ?_
 rintro e w1 ⟨rfl, rfl⟩
 rw [h]
 clear h
 go_wp2_with fail
 rw [show (i : Int) + 1 = ((i + 1 : Nat) : Int) from by omega]
 refine (zag s (i + 1) 94 (by omega) _).mono ?_
 rintro e w1 ⟨rfl, rfl⟩
 rw [h2]
 clear h2
 go_wp2_with fail
 refine (zbw s (i + 1) hi hs _).mono ?_
 rintro e w1 ⟨rfl, hb1⟩
 rw [HM.out]
 dsimp only [mbV]
 have HA1 := hO (HA.out.below hb1 HA.out.h2.lt)
 clear hb1 HA HM
 have hl : w.heap.size + 1 < w1.heap.size := HA1.out.h2.lt
 have HA2 : Hid (AtR w ((w1.alloc (c4 x)).alloc fz)) := HA1.out.below (B := w1.heap.size) (((Below.refl _ _).alloc (Nat.le_refl _) _).alloc (by simp) _) hl
 clear HA1
 obtain ⟨_, c0, c1, c2, c3, f0, f1, f2, f3⟩ := HA2.out.h1
 obtain ⟨_, d0, d1, g0, g1⟩ := HA2.out.h2
 go_wp2_with fail
 rw [HF.out]
 refine bodyPost_ret (v := mbV (.inl (x, n + 1))) (by simp [results, Tryz.results140, go_sem, mbV, zaj, *]) rfl ⟨rfl, ?_⟩
 exact zaz HA2.out.hb (Nat.le_refl _) (by omega)
theorem zgJ (s : ByteArray) (i : Nat) (hi : i + 2 <= s.size) (hs : s.size <= 140737488355328) (h : (chr s i == 91) = true) (h2 : (chr s (i + 1) == 94) = true) (x : BitVec 256) (n : Nat) (hm : zab s (s.size + 1) 0#256 (i + 2) = .inl (x, n)) (w : World) :
  Calls Tryz.prog 140 #[.string s, .int .i64 i] w fun e w' => e = .returned (mbV (zal s i)) /\ Below w.heap.size w w' := by
 have HF := (show Hid (zal s i = .inl (~~~ x, n + 1)) from (by
  show zal s i = _; unfold zal
  rw [if_neg (by omega), Int.toNat_natCast, if_pos (beq_iff_eq.1 h), if_pos (beq_iff_eq.1 h2), hm]; rfl))
 have HM := hO hm
 have HA := hO (AtR.start w)
 obtain ⟨hn1, hn2, -⟩ := zaK hm
 clear hm
 go_enter Tryz.func140, Tryz.ntmps140
 go_wp2_with fail
 refine (zag s i 91 (by omega) _).mono ?_
 rintro e w1 ⟨rfl, rfl⟩
 rw [h]
 clear h
 go_wp2_with fail
 rw [show (i : Int) + 1 = ((i + 1 : Nat) : Int) from by omega]
 refine (zag s (i + 1) 94 (by omega) _).mono ?_
 rintro e w1 ⟨rfl, rfl⟩
 rw [h2]
 clear h2
 go_wp2_with fail
 rw [show (i : Int) + 1 + 1 = ((i + 2 : Nat) : Int) from by omega]
 refine (zbw s (i + 2) hi hs _).mono ?_
 rintro e w1 ⟨rfl, hb1⟩
 rw [HM.out]
 dsimp only [mbV]
 have HA1 := hO (HA.out.below hb1 HA.out.h2.lt)
 clear hb1 HA HM
 have hl : w.heap.size + 1 < w1.heap.size := HA1.out.h2.lt
 have HA2 : Hid (AtR w ((w1.alloc (c4 x)).alloc fz)) := HA1.out.below (B := w1.heap.size) (((Below.refl _ _).alloc (Nat.le_refl _) _).alloc (by simp) _) hl
 clear HA1
 have HX : Hid (Holds ((w1.alloc (c4 x)).alloc fz) w1.heap.size x) := (Holds.new w1 x).alloc _
 go_wp2_with fail
 refine (zfv x _).mono ?_
 rintro e w2 ⟨rfl, hb2⟩
 have HA3 := hO (HA2.out.below hb2 HA2.out.h2.lt)
 have HX3 := hO (HX.out.below hb2 HX.out.lt)
 have hl2 : w1.heap.size + 1 < w2.heap.size := by have h := hb2.size; simp at h; omega
 clear hb2 HA2 HX
 obtain ⟨_, c0, c1, c2, c3, f0, f1, f2, f3⟩ := HA3.out.h1
 obtain ⟨_, d0, d1, g0, g1⟩ := HA3.out.h2
 obtain ⟨_, e0, e1, e2, e3, k0, k1, k2, k3⟩ := HX3.out
 generalize ~~~ x = y at *
 go_wp2_with fail
 rw [HF.out]
 refine bodyPost_ret (v := mbV (.inl (y, n + 1))) (by simp [results, Tryz.results140, go_sem, mbV, zaj, *]) rfl ⟨rfl, ?_⟩
 exact zaz (zcT HA3.out.hb (by omega) y) (Nat.le_refl _) (by omega)
theorem zmQ (s : ByteArray) (i : Int) (hs : s.size <= 140737488355328) (w : World) :
  Calls Tryz.prog 140 #[.string s, .int .i64 i] w fun e w' => e = .returned (mbV (zal s i)) /\ Below w.heap.size w w' := by
 by_cases h : i < 0 ∨ (s.size : Int) < i
 ·exact zmP s i h w
 ·obtain ⟨n, rfl⟩ : ∃ n : Nat, i = n := ⟨i.toNat, by omega⟩
  have hn : n <= s.size := by omega
  cases h1 : (chr s n == 91)
  ·exact zkC s n hn hs h1 w
  ·have hlt : n < s.size := zaD (by rw [beq_iff_eq.1 h1]; omega)
   cases h2 : (chr s (n + 1) == 94)
   ·cases hm : zab s (s.size + 1) 0#256 (n + 1) with
    | inr pq =>
     obtain ⟨a, c⟩ := pq
     exact ze3 s n hlt hs h1 h2 a c hm w
    | inl p => obtain ⟨x, e⟩ := p; exact zfY s n hlt hs h1 h2 x e hm w
   ·have hlt2 : n + 1 < s.size := zaD (by rw [beq_iff_eq.1 h2]; omega)
    cases hm : zab s (s.size + 1) 0#256 (n + 2) with
    | inr pq =>
     obtain ⟨a, c⟩ := pq
     exact zfX s n hlt2 hs h1 h2 a c hm w
    | inl p => obtain ⟨x, e⟩ := p; exact zgJ s n hlt2 hs h1 h2 x e hm w
theorem zgK {s : ByteArray} {i : Int} {x : BitVec 256} {n : Nat} (h : zal s i = .inl (x, n)) : n <= s.size := by
 unfold zal at h
 split at h
 ·simp at h
 ·split at h
  ·split at h
   ·cases hm : zab s (s.size + 1) 0#256 (i.toNat + 2) with
    | inr pq =>
     obtain ⟨a', c'⟩ := pq
     rw [hm] at h; simp [zdL] at h
    | inl p => obtain ⟨y, m⟩ := p; have b := zaK hm; rw [hm] at h; simp only [zdL, Sum.inl.injEq, Prod.mk.injEq] at h; omega
   ·cases hm : zab s (s.size + 1) 0#256 (i.toNat + 1) with
    | inr pq =>
     obtain ⟨a', c'⟩ := pq
     rw [hm] at h; simp [zfW] at h
    | inl p => obtain ⟨y, m⟩ := p; have b := zaK hm; rw [hm] at h; simp only [zfW, Sum.inl.injEq, Prod.mk.injEq] at h; omega
  ·simp at h
theorem zhE {s : ByteArray} {i a : Nat} {c : Int} (h : zad s i = .inr (a, c)) : c ≠ 0 := by
 unfold zad at h
 split at h
 ·unfold za6 at h
  split at h
  ·cases h
  ·cases h; decide
 ·split at h
  ·cases h; decide
  ·split at h
   ·split at h
    ·cases h; decide
    ·split at h
     ·cases h; decide
     ·cases h
   ·cases h
theorem zdM {s : ByteArray} : ∀ (f : Nat) (x : BitVec 256) (i a : Nat) (c : Int), zab s f x i = .inr (a, c) -> c ≠ 0 := by
 intro f
 induction f with
 | zero => intro x i a c h; rw [zab] at h; cases h; decide
 | succ f ih =>
  intro x i a c h
  rw [zab] at h
  split at h
  ·cases h
  ·split at h
   ·next a2 c2 hm => cases h; exact zhE hm
   ·exact ih _ _ _ _ h
theorem zgL {s : ByteArray} {i : Int} {a : Nat} {c : Int} (h : zal s i = .inr (a, c)) : c ≠ 0 := by
 unfold zal at h
 split at h
 ·cases h; decide
 ·split at h
  ·split at h
   ·cases hm : zab s (s.size + 1) 0#256 (i.toNat + 2) with
    | inl p => rw [hm] at h; cases h
    | inr q => obtain ⟨a2, c2⟩ := q; rw [hm] at h; cases h; exact zdM _ _ _ _ _ hm
   ·cases hm : zab s (s.size + 1) 0#256 (i.toNat + 1) with
    | inl p => rw [hm] at h; cases h
    | inr q => obtain ⟨a2, c2⟩ := q; rw [hm] at h; cases h; exact zdM _ _ _ _ _ hm
  ·cases h; decide
def clT (s : ByteArray) (b : Nat) : Rd (BitVec 256 × Nat) -> Sum Tk (Nat × Int)
 | .inl p => .inl ⟨3, 0, b, p.2, ⟨#[]⟩, wd p.1 0, wd p.1 1, wd p.1 2, wd p.1 3⟩
 | .inr q => if q.2 = 6 /\ q.1 = s.size then .inr (b, 52) else .inr q
abbrev svO (x : BitVec 256) : Obj := .cells #[.int .u64 (wd x 0), .int .u64 (wd x 1), .int .u64 (wd x 2), .int .u64 (wd x 3)] 49
theorem zhF (s : ByteArray) (b : Nat) (hs : s.size <= 140737488355000) (w : World) : Calls Tryz.prog 115 #[.string s, .int .i64 b] w fun e w' => e = .returned (zaT (clT s b (zal s b))) /\ Below w.heap.size w w' := by
 have HF : Hid (∀ i e w, Calls Tryz.prog 135 #[.int .i64 i, .int .i64 e] w fun e' w' => e' = .returned (zaE tk0 i e) /\ Below w.heap.size w w') := fun i e w => zax i e w
 have HC : Hid (∀ w, Calls Tryz.prog 140 #[.string s, .int .i64 b] w fun e w' => e = .returned (mbV (zal s b)) /\ Below w.heap.size w w') := fun w => zmQ s b (by omega) w
 have HX : Hid (BX w ((w.alloc (tkO tk0)).alloc (fxO 0 0)) tk0 0 0) := BX.new w
 cases hr : zal s b with
 | inr p =>
  obtain ⟨a, c⟩ := p
  have hne := zgL hr
  rw [hr] at HC
  clear hr
  unfold mbV at HC
  by_cases h6 : c = 6 /\ a = s.size
  ·obtain ⟨rfl, rfl⟩ := h6
   have HE : Hid (clT s b (.inr (s.size, 6)) = .inr (b, 52)) := by show clT s b (.inr (s.size, 6)) = _; rw [clT, if_pos ⟨rfl, rfl⟩]
   go_enter Tryz.func115, Tryz.ntmps115
   go_wp2_with fail
   refine (HC.out _).mono ?_
   rintro e w2 ⟨rfl, b2⟩
   have HX2 : Hid (BX w ((w2.alloc (svO 0#256)).alloc (fxO s.size 6)) tk0 0 0) := ((HX.out.below b2).below (zaa _ _)).below (zaa _ _)
   clear b2 HX HC
   go_wp2_with fail
   refine (HF.out _ _ _).mono ?_
   rintro e w3 ⟨rfl, b3⟩
   have HX3 : Hid (BX w w3 tk0 0 0) := HX2.out.below b3
   clear b3 HX2 HF
   obtain ⟨f0, f1', f2', f3, f4, f5, f6, f7, f8, g0, g1⟩ := HX3.out.fz
   obtain ⟨c0, c1, c2, c3, c4, c5, c6, c7, c8, d0, d1⟩ := HX3.out.cells
   unfold zaE
   go_wp2_with fail
   have HP := HX3.out.put tk0 b 52
   exact zah rfl rfl rfl rfl HP ⟨by rw [HE.out]; rfl, HP.b⟩
  ·have HE : Hid (clT s b (.inr (a, c)) = .inr (a, c)) := by show clT s b (.inr (a, c)) = _; rw [clT, if_neg h6]
   have t1 : (c != 0) = true := by rw [bne, bF hne]; rfl
   by_cases hc6 : c = 6
   ·have ha : ¬ a = s.size := fun q => h6 ⟨hc6, q⟩
    have t2 : ((a : Int) == (s.size : Int)) = false := by rw [beq_eq_false_iff_ne]; omega
    subst hc6
    clear h6 hne ha t1
    go_enter Tryz.func115, Tryz.ntmps115
    go_wp2_with fail
    refine (HC.out _).mono ?_
    rintro e w2 ⟨rfl, b2⟩
    have HX2 : Hid (BX w ((w2.alloc (svO 0#256)).alloc (fxO a 6)) tk0 0 0) := ((HX.out.below b2).below (zaa _ _)).below (zaa _ _)
    clear b2 HX HC
    go_wp2_with fail
    refine (HF.out _ _ _).mono ?_
    rintro e w3 ⟨rfl, b3⟩
    have HX3 : Hid (BX w w3 tk0 0 0) := HX2.out.below b3
    clear b3 HX2 HF
    obtain ⟨f0, f1', f2', f3, f4, f5, f6, f7, f8, g0, g1⟩ := HX3.out.fz
    obtain ⟨c0, c1, c2, c3, c4, c5, c6, c7, c8, d0, d1⟩ := HX3.out.cells
    unfold zaE
    go_wp2_with fail
    have HP := HX3.out.put tk0 a 6
    exact zah rfl rfl rfl rfl HP ⟨by rw [HE.out]; rfl, HP.b⟩
   ·have t2 : (c == 6) = false := bF hc6
    clear h6 hne hc6
    go_enter Tryz.func115, Tryz.ntmps115
    go_wp2_with fail
    refine (HC.out _).mono ?_
    rintro e w2 ⟨rfl, b2⟩
    have HX2 : Hid (BX w ((w2.alloc (svO 0#256)).alloc (fxO a c)) tk0 0 0) := ((HX.out.below b2).below (zaa _ _)).below (zaa _ _)
    clear b2 HX HC
    go_wp2_with fail
    refine (HF.out _ _ _).mono ?_
    rintro e w3 ⟨rfl, b3⟩
    have HX3 : Hid (BX w w3 tk0 0 0) := HX2.out.below b3
    clear b3 HX2 HF
    obtain ⟨f0, f1', f2', f3, f4, f5, f6, f7, f8, g0, g1⟩ := HX3.out.fz
    obtain ⟨c0, c1, c2, c3, c4, c5, c6, c7, c8, d0, d1⟩ := HX3.out.cells
    unfold zaE
    go_wp2_with fail
    have HP := HX3.out.put tk0 a c
    exact zah rfl rfl rfl rfl HP ⟨by rw [HE.out]; rfl, HP.b⟩
 | inl p =>
  obtain ⟨x, n⟩ := p
  rw [hr] at HC
  clear hr HF
  unfold mbV at HC
  have HE : Hid (clT s b (.inl (x, n)) = .inl ⟨3, 0, b, n, ⟨#[]⟩, wd x 0, wd x 1, wd x 2, wd x 3⟩) := rfl
  go_enter Tryz.func115, Tryz.ntmps115
  go_wp2_with fail
  refine (HC.out _).mono ?_
  rintro e w2 ⟨rfl, b2⟩
  have HX2 : Hid (BX w w2 tk0 0 0) := HX.out.below b2
  clear b2 HX HC
  obtain ⟨f0, f1', f2', f3, f4, f5, f6, f7, f8, g0, g1⟩ := HX2.out.fz
  obtain ⟨c0, c1, c2, c3, c4, c5, c6, c7, c8, d0, d1⟩ := HX2.out.cells
  have hsz2 := HX2.out.size
  have hl1 : w.heap.size < w2.heap.size := by omega
  have hne1 : w.heap.size ≠ w2.heap.size := by omega
  have hne2 : w.heap.size + 1 ≠ w2.heap.size := by omega
  go_wp2_with fail
  have HP := ((HX2.out.put ⟨3, 0, b, n, ⟨#[]⟩, wd x 0, wd x 1, wd x 2, wd x 3⟩ 0 0).below (zaa _ (svO x))).below (zaa _ (fxO 0 0))
  exact zah rfl rfl rfl rfl HP ⟨by rw [HE.out]; rfl, HP.b⟩
def zcp (s : ByteArray) (b : Nat) : Sum Tk (Nat × Int) :=
 if pfx s b [37, 117, 123] = true then zbQ s b else if ¬ (zak s b).1 = 0 then zbm s b
 else if b + 1 < s.size /\ (cls (chr s (b + 1)).toNat).2 = 0 then .inl ⟨28, 0, b, (b + 2 : Nat), s.extract (b + 1) (b + 2), wd (cls (chr s (b + 1)).toNat).1 0, wd (cls (chr s (b + 1)).toNat).1 1, wd (cls (chr s (b + 1)).toNat).1 2, wd (cls (chr s (b + 1)).toNat).1 3⟩ else .inr (b, 10)
structure AtP (w W : World) (c : Nat) (y : BitVec 256) : Prop where
 x : BX w W tk0 0 0
 h : Holds W c y
theorem AtP.below {w W W' : World} {c : Nat} {x : BitVec 256} (h : AtP w W c x) (hb : Below W.heap.size W W') : AtP w W' c x := ⟨h.x.below hb, h.h.below hb h.h.lt⟩
theorem zmR (k : Int) (tx : ByteArray) (W : World) : (Instr.field 169 (.agg #[.int .i64 k, .string tx]) 0).run Tryz.prog W = .ok (.int .i64 k) W := by simp [Instr.field, run_underlying Tryz.underlying169, asAgg, go_sem]
theorem AtP.drew {w W : World} {c : Nat} {x : BitVec 256} (h : AtP w W c x) : AtP w W.drew c x := h.below (Below.refl _ _).drew
theorem zkD (s : ByteArray) (b : Nat) (hs : s.size <= 140737488355000) (hb : b <= s.size) (h : pfx s b [37, 117, 123] = true) (w : World) (hg : SG w) : Calls Tryz.prog 116 #[.string s, .int .i64 b] w fun e w' => e = .returned (zaT (zcp s b)) /\ Below w.heap.size w w' := by
 have HS : Hid (∀ w, Calls Tryz.prog 86 #[.string s, .int .i64 b, .string ⟨#[37, 117, 123]⟩] w fun e w' => e = .returned (.bool (pfx s b [37, 117, 123])) /\ w' = w) := fun w => zao s b ⟨#[37, 117, 123]⟩ hb w
 have HX : Hid (BX w ((w.alloc (tkO tk0)).alloc (fxO 0 0)) tk0 0 0) := BX.new w
 have HG : Hid (SG ((w.alloc (tkO tk0)).alloc (fxO 0 0))) := (hg.later (zaa _ _)).later (zaa _ _)
 have HSA : Hid (∀ w, SG w -> Calls Tryz.prog 142 #[.string s, .int .i64 b] w fun e w' => e = .returned (.agg #[.int .i64 (zak s b).1, .string ⟨(zak s b).2.toArray⟩]) /\ Below w.heap.size w w') := fun w h => zaW s b hb w h
 clear hg
 have HN : Hid (∀ w, Calls Tryz.prog 141 #[.string s, .int .i64 b] w fun e w' => e = .returned (zaT (zbQ s b)) /\ Below w.heap.size w w') := fun w => zfR s b hs (zfT hb h) w
 have HE : Hid (zcp s b = zbQ s b) := by show zcp s b = _; unfold zcp; rw [if_pos h]
 rw [h] at HS
 clear HSA HG h
 go_enter Tryz.func116, Tryz.ntmps116
 go_wp2_with fail
 refine (HS.out _).mono ?_
 rintro e w1 ⟨rfl, rfl⟩
 clear HS
 go_wp2_with fail
 refine (HN.out _).mono ?_
 rintro e w3 ⟨rfl, b3⟩
 have HX3 : Hid (BX w w3 tk0 0 0) := HX.out.below b3
 clear b3 HX HN
 obtain ⟨f0, f1', f2', f3, f4, f5, f6, f7, f8, g0, g1⟩ := HX3.out.fz
 obtain ⟨c0, c1, c2, c3, c4, c5, c6, c7, c8, d0, d1⟩ := HX3.out.cells
 generalize zbQ s b = r at *
 cases r with
 | inl t =>
  unfold zaT
  go_wp2_with fail
  have HP := HX3.out.put t 0 0
  exact zah rfl rfl rfl rfl HP ⟨by rw [HE.out]; rfl, HP.b⟩
 | inr q =>
  unfold zaT
  go_wp2_with fail
  have HP := HX3.out.put tk0 q.1 q.2
  exact zah rfl rfl rfl rfl HP ⟨by rw [HE.out]; rfl, HP.b⟩
theorem zpZ (s : ByteArray) (b : Nat) (hs : s.size <= 140737488355000) (hb : b <= s.size) (h : pfx s b [37, 117, 123] = false) (h2 : ¬ (zak s b).1 = 0) (w : World) (hg : SG w) : Calls Tryz.prog 116 #[.string s, .int .i64 b] w fun e w' => e = .returned (zaT (zcp s b)) /\ Below w.heap.size w w' := by
 have HS : Hid (∀ w, Calls Tryz.prog 86 #[.string s, .int .i64 b, .string ⟨#[37, 117, 123]⟩] w fun e w' => e = .returned (.bool (pfx s b [37, 117, 123])) /\ w' = w) := fun w => zao s b ⟨#[37, 117, 123]⟩ hb w
 have HX : Hid (BX w ((w.alloc (tkO tk0)).alloc (fxO 0 0)) tk0 0 0) := BX.new w
 have HG : Hid (SG ((w.alloc (tkO tk0)).alloc (fxO 0 0))) := (hg.later (zaa _ _)).later (zaa _ _)
 have HSA : Hid (∀ w, SG w -> Calls Tryz.prog 142 #[.string s, .int .i64 b] w fun e w' => e = .returned (.agg #[.int .i64 (zak s b).1, .string ⟨(zak s b).2.toArray⟩]) /\ Below w.heap.size w w') := fun w h => zaW s b hb w h
 clear hg
 have HN : Hid (∀ w, SG w -> Calls Tryz.prog 117 #[.string s, .int .i64 b] w fun e w' => e = .returned (zaT (zbm s b)) /\ Below w.heap.size w w') := fun w g => zdK s b hs hb w g
 have HE : Hid (zcp s b = zbm s b) := by show zcp s b = _; unfold zcp; rw [if_neg (by rw [h]; decide), if_pos h2]
 have v1 : ((zak s b).1 != 0) = true := by rw [bne, bF h2]; rfl
 rw [h] at HS
 clear h h2
 generalize (zak s b).1 = k at *
 generalize ByteArray.mk (zak s b).2.toArray = tx at *
 have hfld := zmR k tx
 go_enter Tryz.func116, Tryz.ntmps116
 go_wp2_with fail
 refine (HS.out _).mono ?_
 rintro e w1 ⟨rfl, rfl⟩
 clear HS
 go_wp2_with fail
 refine (HSA.out _ HG.out).mono ?_
 rintro e w2 ⟨rfl, b2⟩
 have HX2 : Hid (BX w w2 tk0 0 0) := HX.out.below b2
 have HG2 : Hid (SG w2) := HG.out.later b2
 clear b2 HX HG HSA
 go_wp2_with fail
 refine (HN.out _ HG2.out).mono ?_
 rintro e w3 ⟨rfl, b3⟩
 have HX3 : Hid (BX w w3 tk0 0 0) := HX2.out.below b3
 clear b3 HX2 HN HG2
 obtain ⟨f0, f1', f2', f3, f4, f5, f6, f7, f8, g0, g1⟩ := HX3.out.fz
 obtain ⟨c0, c1, c2, c3, c4, c5, c6, c7, c8, d0, d1⟩ := HX3.out.cells
 generalize zbm s b = r at *
 cases r with
 | inl t =>
  unfold zaT
  go_wp2_with fail
  have HP := HX3.out.put t 0 0
  exact zah rfl rfl rfl rfl HP ⟨by rw [HE.out]; rfl, HP.b⟩
 | inr q =>
  unfold zaT
  go_wp2_with fail
  have HP := HX3.out.put tk0 q.1 q.2
  exact zah rfl rfl rfl rfl HP ⟨by rw [HE.out]; rfl, HP.b⟩
theorem pc_end (s : ByteArray) (b : Nat) (hs : s.size <= 140737488355000) (hb : b <= s.size) (h : pfx s b [37, 117, 123] = false) (h2 : (zak s b).1 = 0) (h3 : ¬ b + 1 < s.size) (w : World) (hg : SG w) : Calls Tryz.prog 116 #[.string s, .int .i64 b] w fun e w' => e = .returned (zaT (zcp s b)) /\ Below w.heap.size w w' := by
 have HS : Hid (∀ w, Calls Tryz.prog 86 #[.string s, .int .i64 b, .string ⟨#[37, 117, 123]⟩] w fun e w' => e = .returned (.bool (pfx s b [37, 117, 123])) /\ w' = w) := fun w => zao s b ⟨#[37, 117, 123]⟩ hb w
 have HX : Hid (BX w ((w.alloc (tkO tk0)).alloc (fxO 0 0)) tk0 0 0) := BX.new w
 have HG : Hid (SG ((w.alloc (tkO tk0)).alloc (fxO 0 0))) := (hg.later (zaa _ _)).later (zaa _ _)
 have HSA : Hid (∀ w, SG w -> Calls Tryz.prog 142 #[.string s, .int .i64 b] w fun e w' => e = .returned (.agg #[.int .i64 (zak s b).1, .string ⟨(zak s b).2.toArray⟩]) /\ Below w.heap.size w w') := fun w h => zaW s b hb w h
 clear hg
 have HF : Hid (∀ i e w, Calls Tryz.prog 135 #[.int .i64 i, .int .i64 e] w fun e' w' => e' = .returned (zaE tk0 i e) /\ Below w.heap.size w w') := fun i e w => zax i e w
 have HE : Hid (zcp s b = .inr (b, 10)) := by show zcp s b = _; unfold zcp; rw [if_neg (by rw [h]; decide), if_neg (fun q => q h2), if_neg (fun q => h3 q.1)]
 have z1 : ¬ (b : Int) + 1 < (s.size : Int) := by omega
 have v1 : ((zak s b).1 != 0) = false := by rw [h2]; rfl
 rw [h] at HS
 clear h h2
 generalize (zak s b).1 = k at *
 generalize ByteArray.mk (zak s b).2.toArray = tx at *
 have hfld := zmR k tx
 go_enter Tryz.func116, Tryz.ntmps116
 go_wp2_with fail
 refine (HS.out _).mono ?_
 rintro e w1 ⟨rfl, rfl⟩
 clear HS
 go_wp2_with fail
 refine (HSA.out _ HG.out).mono ?_
 rintro e w2 ⟨rfl, b2⟩
 have HX2 : Hid (BX w w2 tk0 0 0) := HX.out.below b2
 have HG2 : Hid (SG w2) := HG.out.later b2
 clear b2 HX HG HSA
 go_wp2_with fail
 refine (HF.out _ _ _).mono ?_
 rintro e w3 ⟨rfl, b3⟩
 have HX3 : Hid (BX w w3 tk0 0 0) := HX2.out.below b3
 clear b3 HX2 HF HG2
 obtain ⟨f0, f1', f2', f3, f4, f5, f6, f7, f8, g0, g1⟩ := HX3.out.fz
 obtain ⟨c0, c1, c2, c3, c4, c5, c6, c7, c8, d0, d1⟩ := HX3.out.cells
 unfold zaE
 go_wp2_with fail
 have HP := HX3.out.put tk0 b 10
 exact zah rfl rfl rfl rfl HP ⟨by rw [HE.out]; rfl, HP.b⟩
theorem zp0 (s : ByteArray) (b : Nat) (hs : s.size <= 140737488355000) (hb : b <= s.size) (h : pfx s b [37, 117, 123] = false) (h2 : (zak s b).1 = 0) (h3 : b + 1 < s.size) (h4 : ¬ (cls (chr s (b + 1)).toNat).2 = 0) (w : World) (hg : SG w) : Calls Tryz.prog 116 #[.string s, .int .i64 b] w fun e w' => e = .returned (zaT (zcp s b)) /\ Below w.heap.size w w' := by
 have HS : Hid (∀ w, Calls Tryz.prog 86 #[.string s, .int .i64 b, .string ⟨#[37, 117, 123]⟩] w fun e w' => e = .returned (.bool (pfx s b [37, 117, 123])) /\ w' = w) := fun w => zao s b ⟨#[37, 117, 123]⟩ hb w
 have HX : Hid (BX w ((w.alloc (tkO tk0)).alloc (fxO 0 0)) tk0 0 0) := BX.new w
 have HG : Hid (SG ((w.alloc (tkO tk0)).alloc (fxO 0 0))) := (hg.later (zaa _ _)).later (zaa _ _)
 have HSA : Hid (∀ w, SG w -> Calls Tryz.prog 142 #[.string s, .int .i64 b] w fun e w' => e = .returned (.agg #[.int .i64 (zak s b).1, .string ⟨(zak s b).2.toArray⟩]) /\ Below w.heap.size w w') := fun w h => zaW s b hb w h
 clear hg
 have HF : Hid (∀ i e w, Calls Tryz.prog 135 #[.int .i64 i, .int .i64 e] w fun e' w' => e' = .returned (zaE tk0 i e) /\ Below w.heap.size w w') := fun i e w => zax i e w
 have HE : Hid (zcp s b = .inr (b, 10)) := by show zcp s b = _; unfold zcp; rw [if_neg (by rw [h]; decide), if_neg (fun q => q h2), if_neg (fun q => h4 q.2)]
 have hc := zai h3
 obtain ⟨c, hcc⟩ : ∃ c : Nat, c = (chr s (b + 1)).toNat := ⟨_, rfl⟩
 have hcn : (s[b + 1].toNat : Int) = c := by rw [hcc, hc]; omega
 have hclt : c < 256 := by have := zdf s (b + 1); omega
 have HC : Hid (∀ w, Calls Tryz.prog 143 #[.int .u8 (s[b + 1].toNat : Int)] w fun e w' => e = .returned (.tuple #[sv (cls c).1, .int .i64 (cls c).2]) /\ Below w.heap.size w w') := fun w => by rw [hcn]; exact zer c hclt w
 obtain ⟨j1, hj1⟩ : ∃ j, j = b + 1 := ⟨_, rfl⟩
 obtain ⟨j2, hj2⟩ : ∃ j, j = b + 2 := ⟨_, rfl⟩
 have u1 : IntKind.i64.wrap ((b : Int) + 1) = (j1 : Int) := by rw [hj1, IntKind.wrap_i64]; omega
 have u2 : IntKind.i64.wrap ((b : Int) + 2) = (j2 : Int) := by rw [hj2, IntKind.wrap_i64]; omega
 have y0 : (0 : Int) <= (j1 : Int) := by omega
 have y1 : (j1 : Int) <= (j2 : Int) := by omega
 have y2 : (j2 : Int) <= (s.size : Int) := by omega
 have y3 : (j1 : Int) < (s.size : Int) := by omega
 have h3' : j1 < s.size := by omega
 have HC2 : Hid (∀ w, Calls Tryz.prog 143 #[.int .u8 (s[j1].toNat : Int)] w fun e w' => e = .returned (.tuple #[sv (cls c).1, .int .i64 (cls c).2]) /\ Below w.heap.size w w') := by subst hj1; exact HC
 clear HC hcn hc hclt
 rw [<- hcc] at h4
 have v4 : ((cls c).2 == 0) = false := bF h4
 clear hcc h4 hj1 hj2
 generalize (cls c).2 = q at *
 generalize (cls c).1 = x at *
 have v1 : ((zak s b).1 != 0) = false := by rw [h2]; rfl
 rw [h] at HS
 clear h h2
 generalize (zak s b).1 = k at *
 generalize ByteArray.mk (zak s b).2.toArray = tx at *
 have hfld := zmR k tx
 go_enter Tryz.func116, Tryz.ntmps116
 go_wp2_with fail
 refine (HS.out _).mono ?_
 rintro e w1 ⟨rfl, rfl⟩
 clear HS
 go_wp2_with fail
 refine (HSA.out _ HG.out).mono ?_
 rintro e w2 ⟨rfl, b2⟩
 have HX2 : Hid (BX w w2 tk0 0 0) := HX.out.below b2
 have HG2 : Hid (SG w2) := HG.out.later b2
 clear b2 HX HG HSA
 go_wp2_with fail
 refine (HC2.out _).mono ?_
 rintro e w3 ⟨rfl, b3⟩
 have HX3 : Hid (BX w (w3.alloc (svO x)) tk0 0 0) := (HX2.out.below b3).below (zaa _ _)
 clear b3 HX2 HC2 HG2
 go_wp2_with fail
 refine (HF.out _ _ _).mono ?_
 rintro e w4 ⟨rfl, b4⟩
 have HX4 : Hid (BX w w4 tk0 0 0) := HX3.out.below b4
 clear b4 HX3 HF
 obtain ⟨f0, f1', f2', f3, f4, f5, f6, f7, f8, g0, g1⟩ := HX4.out.fz
 obtain ⟨c0, c1, c2, c3, c4, c5, c6, c7, c8, d0, d1⟩ := HX4.out.cells
 unfold zaE
 go_wp2_with fail
 have HP := HX4.out.put tk0 b 10
 exact zah rfl rfl rfl rfl HP ⟨by rw [HE.out]; rfl, HP.b⟩
theorem zmS (s : ByteArray) (b : Nat) (hs : s.size <= 140737488355000) (hb : b <= s.size) (h : pfx s b [37, 117, 123] = false) (h2 : (zak s b).1 = 0) (h3 : b + 1 < s.size) (h4 : (cls (chr s (b + 1)).toNat).2 = 0) (w : World) (hg : SG w) : Calls Tryz.prog 116 #[.string s, .int .i64 b] w fun e w' => e = .returned (zaT (zcp s b)) /\ Below w.heap.size w w' := by
 have HS : Hid (∀ w, Calls Tryz.prog 86 #[.string s, .int .i64 b, .string ⟨#[37, 117, 123]⟩] w fun e w' => e = .returned (.bool (pfx s b [37, 117, 123])) /\ w' = w) := fun w => zao s b ⟨#[37, 117, 123]⟩ hb w
 have HX : Hid (BX w ((w.alloc (tkO tk0)).alloc (fxO 0 0)) tk0 0 0) := BX.new w
 have HG : Hid (SG ((w.alloc (tkO tk0)).alloc (fxO 0 0))) := (hg.later (zaa _ _)).later (zaa _ _)
 have HSA : Hid (∀ w, SG w -> Calls Tryz.prog 142 #[.string s, .int .i64 b] w fun e w' => e = .returned (.agg #[.int .i64 (zak s b).1, .string ⟨(zak s b).2.toArray⟩]) /\ Below w.heap.size w w') := fun w h => zaW s b hb w h
 clear hg
 have HE : Hid (zcp s b = .inl ⟨28, 0, b, (b + 2 : Nat), s.extract (b + 1) (b + 2), wd (cls (chr s (b + 1)).toNat).1 0, wd (cls (chr s (b + 1)).toNat).1 1, wd (cls (chr s (b + 1)).toNat).1 2, wd (cls (chr s (b + 1)).toNat).1 3⟩) := by show zcp s b = _; unfold zcp; rw [if_neg (by rw [h]; decide), if_neg (fun q => q h2), if_pos ⟨h3, h4⟩]
 have hc := zai h3
 obtain ⟨c, hcc⟩ : ∃ c : Nat, c = (chr s (b + 1)).toNat := ⟨_, rfl⟩
 have hcn : (s[b + 1].toNat : Int) = c := by rw [hcc, hc]; omega
 have hclt : c < 256 := by have := zdf s (b + 1); omega
 have HC : Hid (∀ w, Calls Tryz.prog 143 #[.int .u8 (s[b + 1].toNat : Int)] w fun e w' => e = .returned (.tuple #[sv (cls c).1, .int .i64 (cls c).2]) /\ Below w.heap.size w w') := fun w => by rw [hcn]; exact zer c hclt w
 obtain ⟨j1, hj1⟩ : ∃ j, j = b + 1 := ⟨_, rfl⟩
 obtain ⟨j2, hj2⟩ : ∃ j, j = b + 2 := ⟨_, rfl⟩
 have u1 : IntKind.i64.wrap ((b : Int) + 1) = (j1 : Int) := by rw [hj1, IntKind.wrap_i64]; omega
 have u2 : IntKind.i64.wrap ((b : Int) + 2) = (j2 : Int) := by rw [hj2, IntKind.wrap_i64]; omega
 have y0 : (0 : Int) <= (j1 : Int) := by omega
 have y1 : (j1 : Int) <= (j2 : Int) := by omega
 have y2 : (j2 : Int) <= (s.size : Int) := by omega
 have y3 : (j1 : Int) < (s.size : Int) := by omega
 have h3' : j1 < s.size := by omega
 have HC2 : Hid (∀ w, Calls Tryz.prog 143 #[.int .u8 (s[j1].toNat : Int)] w fun e w' => e = .returned (.tuple #[sv (cls c).1, .int .i64 (cls c).2]) /\ Below w.heap.size w w') := by subst hj1; exact HC
 clear HC hcn hc hclt
 rw [<- hcc] at h4 HE
 rw [h4] at HC2
 rw [<- hj1, <- hj2] at HE
 clear hcc h4 hj1 hj2
 generalize (cls c).1 = x at *
 have v1 : ((zak s b).1 != 0) = false := by rw [h2]; rfl
 rw [h] at HS
 clear h h2
 generalize (zak s b).1 = k at *
 generalize ByteArray.mk (zak s b).2.toArray = tx at *
 have HCo : Hid (∀ w, Calls Tryz.prog 136 #[.string (s.extract j1 j2)] w fun e w' => e = .returned (.string (s.extract j1 j2)) /\ Below w.heap.size w w') := fun w => zfn _ w
 have hfld := zmR k tx
 go_enter Tryz.func116, Tryz.ntmps116
 go_wp2_with fail
 refine (HS.out _).mono ?_
 rintro e w1 ⟨rfl, rfl⟩
 clear HS
 go_wp2_with fail
 refine (HSA.out _ HG.out).mono ?_
 rintro e w2 ⟨rfl, b2⟩
 have HX2 : Hid (BX w w2 tk0 0 0) := HX.out.below b2
 have HG2 : Hid (SG w2) := HG.out.later b2
 clear b2 HX HG HSA
 go_wp2_with fail
 refine (HC2.out _).mono ?_
 rintro e w3 ⟨rfl, b3⟩
 have HP3 : Hid (AtP w (w3.alloc (svO x)) w3.heap.size x) := ⟨(HX2.out.below b3).below (zaa _ _), Holds.new w3 x⟩
 have hsz := (HX2.out.below b3).size
 have ne1 : ¬ w3.heap.size = w.heap.size := by omega
 have ne2 : ¬ w.heap.size = w3.heap.size := by omega
 have ne3 : ¬ w3.heap.size = w.heap.size + 1 := by omega
 have ne4 : ¬ w.heap.size + 1 = w3.heap.size := by omega
 clear b3 HX2 HC2 HG2 hsz
 go_wp2_with fail
 generalize w3.alloc (svO x) = w4 at *
 obtain ⟨f0, f1', f2', f3, f4, f5, f6, f7, f8, g0, g1⟩ := HP3.out.x.fz
 obtain ⟨c0, c1, c2, c3, c4, c5, c6, c7, c8, d0, d1⟩ := HP3.out.x.cells
 obtain ⟨_, e0, e1, e2, e3, _, _, _, _⟩ := HP3.out.h
 go_region_with (go_at_call 136; refine (HCo.out _).mono ?_; rintro e w5 ⟨rfl, hb5⟩; have hA2 := (show AtP w w5 w3.heap.size x from (by first | exact HP3.out.below hb5 | exact HP3.out.drew.below hb5)); replace HP3 := (show Hid _ from hA2); clear hA2 hb5 f0 f1' f2' f3 f4 f5 f6 f7 f8 g0 g1 c0 c1 c2 c3 c4 c5 c6 c7 c8 d0 d1 e0 e1 e2 e3; obtain ⟨f0, f1', f2', f3, f4, f5, f6, f7, f8, g0, g1⟩ := HP3.out.x.fz; obtain ⟨c0, c1, c2, c3, c4, c5, c6, c7, c8, d0, d1⟩ := HP3.out.x.cells; obtain ⟨_, e0, e1, e2, e3, _, _, _, _⟩ := HP3.out.h)
 all_goals
  go_wp2_with fail
  have HP := HP3.out.x.put ⟨28, 0, b, j2, s.extract j1 j2, wd x 0, wd x 1, wd x 2, wd x 3⟩ 0 0
  exact zah rfl rfl rfl rfl HP ⟨by rw [HE.out]; rfl, HP.b⟩
theorem zes (s : ByteArray) (b : Nat) (hs : s.size <= 140737488355000) (hb : b <= s.size) (w : World) (hg : SG w) : Calls Tryz.prog 116 #[.string s, .int .i64 b] w fun e w' => e = .returned (zaT (zcp s b)) /\ Below w.heap.size w w' := by
 cases h : pfx s b [37, 117, 123] with
 | true => exact zkD s b hs hb h w hg
 | false =>
  by_cases h2 : (zak s b).1 = 0
  ·by_cases h3 : b + 1 < s.size
   ·by_cases h4 : (cls (chr s (b + 1)).toNat).2 = 0
    ·exact zmS s b hs hb h h2 h3 h4 w hg
    ·exact zp0 s b hs hb h h2 h3 h4 w hg
   ·exact pc_end s b hs hb h h2 h3 w hg
  ·exact zpZ s b hs hb h h2 w hg
theorem zjk (s : ByteArray) (i : Nat) : Q.chr s i = chr s i := rfl
theorem q_text (l : List Int) : Q.zac l = zac l := rfl
def zkE (s : ByteArray) (b : Nat) : Q.Rd (List Int × Nat) -> Sum Tk (Nat × Int)
 | .inr (a, c) => if c = 21 then .inr (a.toNat, 51) else if c = 22 /\ a < (s.size : Int) then .inr (a.toNat, 50) else .inr (b, 52)
 | .inl (l, e) => if 255 < l.length then .inr (b, 2) else .inl ⟨2, 0, b, e, zac l, 0, 0, 0, 0⟩
theorem zmT (s : ByteArray) (i : Nat) : Q.zan s i = (zlW s i).map fun p => ((p.1 : Int), p.2) := by
 unfold Q.zan zlW Q.za3
 rw [show Q.chr = chr from rfl, show Q.zbj = zbj from rfl]
 have hb := zdf s (i + 1)
 by_cases a1 : chr s (i + 1) = 110
 ·rw [if_pos a1, if_pos a1]; rfl
 by_cases a2 : chr s (i + 1) = 114
 ·rw [if_neg a1, if_neg a1, if_pos a2, if_pos a2]; rfl
 by_cases a3 : chr s (i + 1) = 116
 ·rw [if_neg a1, if_neg a1, if_neg a2, if_neg a2, if_pos a3, if_pos a3]; rfl
 rw [if_neg a1, if_neg a1, if_neg a2, if_neg a2, if_neg a3, if_neg a3]
 by_cases a4 : chr s (i + 1) = 92 ∨ chr s (i + 1) = 39 ∨ chr s (i + 1) = 34
 ·rw [if_pos a4, if_pos a4, Option.map_some, Int.toNat_of_nonneg (by omega)]
 rw [if_neg a4, if_neg a4]
 by_cases h : chr s (i + 1) = 120
 ·have h1 := zbJ (chr s (i + 2))
  rw [if_pos h]
  by_cases q : 0 <= zbj (chr s (i + 2)) /\ 0 <= zbj (chr s (i + 3))
  ·rw [if_pos q, if_pos ⟨h, q⟩, Option.map_some, Int.toNat_of_nonneg (by omega)]
  ·rw [if_neg q, if_neg (fun x => q x.2)]; rfl
 ·rw [if_neg h, if_neg (fun x => h x.1)]; rfl
theorem zfZ {s : ByteArray} {i : Nat} {c n : Nat} (h : zlW s i = some (c, n)) : i < n /\ n <= i + 4 := by
 unfold zlW at h
 split at h
 ·cases h; omega
 split at h
 ·cases h; omega
 split at h
 ·cases h; omega
 split at h
 ·cases h; omega
 split at h
 ·cases h; omega
 ·cases h
theorem zkF (s : ByteArray) (q : Int) (b : Nat) (hq : q = 39 ∨ q = 34) : ∀ (f i : Nat) (l : List Int), s.size < f + i -> zkE s b (Q.za4 s q f i l) = zbF s q b f l i := by
 intro f
 induction f with
 | zero =>
  intro i l hf
  rw [Q.za4, zbF]
  rw [zkE, if_neg (by decide), if_neg (by omega)]
 | succ f ih =>
  intro i l hf
  rw [Q.za4, zbF, zjk]
  by_cases h1 : i < s.size
  ·have hb := zai h1
   have hb2 : ¬ chr s i < 0 := by rw [hb]; omega
   rw [if_neg hb2]
   by_cases h2 : chr s i = q
   ·rw [if_pos h2, if_pos h2]; rfl
   rw [if_neg h2, if_neg h2, if_neg (by omega)]
   by_cases h92 : chr s i = 92
   ·have e1 : ¬ (chr s i < 32 ∨ chr s i = 127) := by omega
    rw [if_neg e1, if_neg (fun x => x h92)]
    unfold Q.zaN
    rw [zjk, if_pos h92, zmT]
    cases he : zlW s i with
    | none =>
     show zkE s b (.inr ((i : Int), 21)) = _
     rw [zkE, if_pos rfl]; rfl
    | some p =>
     have h3 := zfZ (c := p.1) (n := p.2) he
     exact ih _ _ (by omega)
   ·unfold Q.zaN
    rw [zjk, if_neg h92]
    by_cases h32 : chr s i < 32 ∨ chr s i = 127
    ·rw [if_pos h32, if_pos h32]
     rw [zkE, if_neg (by decide), if_pos ⟨rfl, by omega⟩]; rfl
    ·rw [if_neg h32, if_neg h32, if_pos h92]
     exact ih _ _ (by omega)
  ·rw [zas h1, if_neg (by omega), if_pos (by omega), if_pos (by omega)]
   rw [zkE, if_neg (by decide), if_neg (by omega)]
theorem zjl {s : ByteArray} {m : Int} {f i : Nat} {l : List Int} {a c : Int} (h : Q.za4 s m f i l = .inr (a, c)) : 0 <= a /\ (c = 21 ∨ c = 22) := by
 induction f generalizing i l with
 | zero => rw [Q.za4] at h; cases h; exact ⟨by omega, .inr rfl⟩
 | succ f ih =>
  rw [Q.za4] at h
  split at h
  ·cases h
  split at h
  ·cases h; exact ⟨by omega, .inr rfl⟩
  cases hb : Q.zaN s i with
  | inl p => rw [hb] at h; exact ih h
  | inr q =>
   obtain ⟨a2, c2⟩ := q
   rw [hb] at h
   cases h
   unfold Q.zaN at hb
   split at hb
   ·cases he : Q.zan s i with
    | none => rw [he] at hb; cases hb; exact ⟨by omega, .inl rfl⟩
    | some p => rw [he] at hb; cases hb
   ·split at hb
    ·cases hb; exact ⟨by omega, .inr rfl⟩
    ·cases hb
theorem zkG {s : ByteArray} {b : Nat} {a c : Int} (hs : s.size <= 65536) (hb : b <= s.size) (hq : chr s b = 39 ∨ chr s b = 34) (h : Q.zbZ s b = .inr (a, c)) : 0 <= a /\ (c = 21 ∨ c = 22) := by
 unfold Q.zbZ at h
 rw [if_neg (by omega), if_neg (by omega), Int.toNat_natCast, zjk, if_pos hq] at h
 exact zjl h
theorem zil (s : ByteArray) (b : Nat) (hs : s.size <= 65536) (hb : b <= s.size) (hq : chr s b = 39 ∨ chr s b = 34) : zkE s b (Q.zbZ s b) = zeU s b := by
 unfold Q.zbZ zeU
 rw [if_neg (by omega), if_neg (by omega), Int.toNat_natCast, zjk, if_pos hq]
 exact zkF s _ b hq _ _ _ (by omega)
end Go.Proofs.YtnpifgcgjgddoaaGreatDoor
