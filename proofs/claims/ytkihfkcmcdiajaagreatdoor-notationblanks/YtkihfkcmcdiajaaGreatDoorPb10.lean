/- DERIVED. Plain mathematics and walks, laid together (10). -/
import Derived.Test.YtkihfkcmcdiajaaGreatDoorPb09
set_option maxRecDepth 100000
set_option maxHeartbeats 8000000
namespace Go.Proofs.YtkihfkcmcdiajaaGreatDoor
open Go.RowKit
theorem zkG (s : ByteArray) (b : Nat) (hs : s.size <= 140737488355000) (hb : b + 1 < s.size) (w : World) : Calls Tryz.prog 66 #[.string s, .int .i64 b] w fun e w' => e = .returned (zcG (zfi s b)) /\ Below w.heap.size w w' := by
 have HWr : Hid (∀ i e w, Calls Tryz.prog 58 #[.int .i64 i, .int .i64 e] w fun e' w' => e' = .returned (.tuple #[tkG tk0, .int .i64 i, .int .i64 e]) /\ Below w.heap.size w w') := fun i e w => zbO i e w
 have HA2 : Hid (∀ w, Calls Tryz.prog 55 #[.string s, .int .i64 ((b : Int) + 2)] w fun e w' => e = .returned (.int .i64 (chr s (b + 2))) /\ w' = w) := fun w => za0 s (b + 2) w
 have HA : Hid (∀ k w, Calls Tryz.prog 55 #[.string s, .int .i64 ((k : Nat) : Int)] w fun e w' => e = .returned (.int .i64 (chr s k)) /\ w' = w) := fun k w => za0 s k w
 have HH : Hid (∀ c w, Calls Tryz.prog 56 #[.int .i64 c] w fun e w' => e = .returned (.bool (hdB c)) /\ w' = w) := fun c w => zem c w
 have HR : Hid (∀ w, Calls Tryz.prog 57 #[.string s, .int .i64 ((b : Int) + 2)] w fun e w' => e = .returned (.int .i64 (spN nmB s (b + 2))) /\ w' = w) := fun w => zgX s (b + 2) (by omega) (by omega) w
 have hge := za4 nmB s (by decide) (b + 2)
 have hle := zbC nmB s (by decide) (b + 2) (by omega)
 cases hh : hdB (chr s (b + 2)) with
 | false =>
  have HE : Hid (zfi s b = .inl ⟨21, 0, b, b + 2, ⟨#[]⟩, 0, 0, 0, 0⟩) := by show zfi s b = _; unfold zfi; rw [if_neg (by rw [hh]; simp)]
  go_enter Tryz.func66, Tryz.ntmps66
  go_wp2_with fail
  refine (HA2.out _).mono ?_
  rintro e w2 ⟨rfl, rfl⟩
  go_wp2_with fail
  refine (HH.out _ _).mono ?_
  rintro e w2 ⟨rfl, rfl⟩
  rw [hh]
  clear HA HA2 HH HR hh
  go_wp2_with fail
  exact zah (t := ⟨21, 0, b, b + 2, ⟨#[]⟩, 0, 0, 0, 0⟩) rfl rfl rfl rfl rfl ((TX.new w ⟨21, 0, b, b + 2, ⟨#[]⟩, 0, 0, 0, 0⟩).below (zaa _ _)) ⟨by rw [HE.out]; rfl, (zaa w _).alloc (zaa w _).size _⟩
 | true =>
  obtain ⟨n, hn⟩ : ∃ n, n = spN nmB s (b + 2) := ⟨_, rfl⟩
  have HU : Hid (zfi s b = if chr s n = 58 then (if 32 < n - b - 2 then .inr (b + 2, 2) else .inl ⟨21, 0, b, n + 1, s.extract (b + 2) n, 0, 0, 0, 0⟩) else .inl ⟨21, 0, b, b + 2, ⟨#[]⟩, 0, 0, 0, 0⟩) := by
   show zfi s b = _
   unfold zfi
   rw [<- hn]
   by_cases q : chr s n = 58
   ·rw [if_pos ⟨hh, q⟩, if_pos q]
   ·rw [if_neg (fun z => q z.2), if_neg q]
  rw [<- hn] at HR hge hle
  clear hn
  by_cases h58 : chr s n = 58
  ·have t1 : (chr s n == 58) = true := by rw [h58]; rfl
   have u1 : IntKind.i64.wrap ((n : Int) - (b : Int)) = (n : Int) - (b : Int) := by rw [IntKind.wrap_i64]; omega
   have u2 : IntKind.i64.wrap ((n : Int) - (b : Int) - 2) = ((n - b - 2 : Nat) : Int) := by rw [IntKind.wrap_i64]; omega
   by_cases h32 : 32 < n - b - 2
   ·have HE : Hid (zfi s b = .inr (b + 2, 2)) := by show zfi s b = _; rw [HU.out, if_pos h58, if_pos h32]
    have HX : Hid (TX ((w.alloc (tkO tk0)).alloc (tkO ⟨21, 0, b, b + 2, ⟨#[]⟩, 0, 0, 0, 0⟩)) w.heap.size tk0) := (TX.new w _).below (zaa _ _)
    have HB : Hid (Below w.heap.size w ((w.alloc (tkO tk0)).alloc (tkO ⟨21, 0, b, b + 2, ⟨#[]⟩, 0, 0, 0, 0⟩))) := (zaa w _).alloc (zaa w _).size _
    obtain ⟨m, hm⟩ : ∃ m, m = n - b - 2 := ⟨_, rfl⟩
    rw [<- hm] at u2 h32
    have t2 : decide (32 < m) = true := decide_eq_true h32
    clear hm HU h58
    go_enter Tryz.func66, Tryz.ntmps66
    go_wp2_with fail
    refine (HA2.out _).mono ?_
    rintro e w2 ⟨rfl, rfl⟩
    go_wp2_with fail
    refine (HH.out _ _).mono ?_
    rintro e w2 ⟨rfl, rfl⟩
    rw [hh]
    go_wp2_with fail
    refine (HR.out _).mono ?_
    rintro e w2 ⟨rfl, rfl⟩
    go_wp2_with fail
    refine (HA.out _ _).mono ?_
    rintro e w2 ⟨rfl, rfl⟩
    clear HA HA2 HH HR hh
    go_wp2_with fail
    refine (HWr.out _ _ _).mono ?_
    rintro e w3 ⟨rfl, b3⟩
    have HX3 : Hid (TX w3 w.heap.size tk0) := HX.out.below b3
    have HB3 : Hid (Below w.heap.size w w3) := HB.out.trans (b3.mono HB.out.size)
    clear b3 HWr HX HB
    obtain ⟨c0, c1, c2, c3, c4, c5, c6, c7, c8⟩ := HX3.out.cells
    obtain ⟨f0, f1, f2, f3, f4, f5, f6, f7, f8⟩ := HX3.out.fz
    go_wp2_with fail
    exact zah rfl rfl rfl rfl rfl (zar HX3.out tk0) ⟨by rw [HE.out]; rfl, zad HB3.out (Nat.le_refl _) tk0⟩
   ·have HE : Hid (zfi s b = .inl ⟨21, 0, b, n + 1, s.extract (b + 2) n, 0, 0, 0, 0⟩) := by show zfi s b = _; rw [HU.out, if_pos h58, if_neg h32]
    obtain ⟨m, hm⟩ : ∃ m, m = n - b - 2 := ⟨_, rfl⟩
    rw [<- hm] at u2 h32
    have t2 : decide (32 < m) = false := decide_eq_false h32
    have z1 : (0 : Int) <= (b : Int) + 2 := by omega
    have z2 : (b : Int) + 2 <= (n : Int) := by omega
    have z3 : (n : Int) <= (s.size : Int) := by omega
    clear hm HU h58
    go_enter Tryz.func66, Tryz.ntmps66
    go_wp2_with fail
    refine (HA2.out _).mono ?_
    rintro e w2 ⟨rfl, rfl⟩
    go_wp2_with fail
    refine (HH.out _ _).mono ?_
    rintro e w2 ⟨rfl, rfl⟩
    rw [hh]
    go_wp2_with fail
    refine (HR.out _).mono ?_
    rintro e w2 ⟨rfl, rfl⟩
    go_wp2_with fail
    refine (HA.out _ _).mono ?_
    rintro e w2 ⟨rfl, rfl⟩
    clear HA HA2 HH HR hh HWr
    go_wp2_with fail
    exact zah (t := ⟨21, 0, b, n + 1, s.extract (b + 2) n, 0, 0, 0, 0⟩) rfl rfl rfl rfl rfl ((TX.new w ⟨21, 0, b, n + 1, s.extract (b + 2) n, 0, 0, 0, 0⟩).below (zaa _ _)) ⟨by rw [HE.out]; rfl, (zaa w _).alloc (zaa w _).size _⟩
  ·have t1 : (chr s n == 58) = false := bF h58
   have HE : Hid (zfi s b = .inl ⟨21, 0, b, b + 2, ⟨#[]⟩, 0, 0, 0, 0⟩) := by show zfi s b = _; rw [HU.out, if_neg h58]
   clear HU h58
   go_enter Tryz.func66, Tryz.ntmps66
   go_wp2_with fail
   refine (HA2.out _).mono ?_
   rintro e w2 ⟨rfl, rfl⟩
   go_wp2_with fail
   refine (HH.out _ _).mono ?_
   rintro e w2 ⟨rfl, rfl⟩
   rw [hh]
   go_wp2_with fail
   refine (HR.out _).mono ?_
   rintro e w2 ⟨rfl, rfl⟩
   go_wp2_with fail
   refine (HA.out _ _).mono ?_
   rintro e w2 ⟨rfl, rfl⟩
   clear HA HA2 HH HR hh HWr
   go_wp2_with fail
   exact zah (t := ⟨21, 0, b, b + 2, ⟨#[]⟩, 0, 0, 0, 0⟩) rfl rfl rfl rfl rfl ((TX.new w ⟨21, 0, b, b + 2, ⟨#[]⟩, 0, 0, 0, 0⟩).below (zaa _ _)) ⟨by rw [HE.out]; rfl, (zaa w _).alloc (zaa w _).size _⟩
def mbV : Rd (BitVec 256 × Nat) -> Value
 | .inl (x, n) => .tuple #[sv x, .int .i64 n, .agg #[.int .i64 0, .int .i64 0]]
 | .inr (a, c) => .tuple #[sv 0#256, .int .i64 0, .agg #[.int .i64 a, .int .i64 c]]
structure FHolds (w : World) (b : Nat) (p q : Int) : Prop where
 lt : b < w.heap.size
 c0 : w.cell? ⟨b, 0, none⟩ = some (.int .i64 p)
 c1 : w.cell? ⟨b, 1, none⟩ = some (.int .i64 q)
 f0 : w.frozen? ⟨b, 0, none⟩ = false
 f1 : w.frozen? ⟨b, 1, none⟩ = false
theorem FHolds.below {B : Nat} {w w' : World} {b : Nat} {p q : Int} (h : FHolds w b p q) (hb : Below B w w') (hB : b < B) : FHolds w' b p q :=
 ⟨Nat.lt_of_lt_of_le h.lt hb.size, (hb.cell (p := ⟨b, 0, none⟩) hB).trans h.c0, (hb.cell (p := ⟨b, 1, none⟩) hB).trans h.c1, (hb.frozen (p := ⟨b, 0, none⟩) hB).trans h.f0, (hb.frozen (p := ⟨b, 1, none⟩) hB).trans h.f1⟩
theorem FHolds.new (w : World) (p q : Int) : FHolds (w.alloc (.cells #[.int .i64 p, .int .i64 q] 27)) w.heap.size p q := by
 constructor <;> simp [go_sem]
abbrev fz : Obj := .cells #[.int .i64 0, .int .i64 0] 27
theorem zcX (w : World) : Holds ((w.alloc z4).alloc fz) w.heap.size 0#256 /\ FHolds ((w.alloc z4).alloc fz) (w.heap.size + 1) 0 0 /\ Below w.heap.size w ((w.alloc z4).alloc fz) := by
 refine ⟨(Holds.zero w).alloc _, ?_, ((Below.refl _ _).alloc (Nat.le_refl _) _).alloc (by simp) _⟩
 have h := FHolds.new (w.alloc z4) 0 0
 rw [show (w.alloc z4).heap.size = w.heap.size + 1 from by simp] at h
 exact h
theorem zaK {B : Nat} {w w' : World} {b c : Nat} {x0 x1 x2 x3 y0 y1 : Value} (h : Below B w w') (hb : B <= b) (hc : B <= c) :
  Below B w ((((((w'.setCell ⟨b, 0, none⟩ x0).setCell ⟨b, 1, none⟩ x1).setCell ⟨b, 2, none⟩ x2).setCell ⟨b, 3, none⟩ x3).setCell ⟨c, 0, none⟩ y0).setCell ⟨c, 1, none⟩ y1) :=
 (((((h.setCell hb _).setCell hb _).setCell hb _).setCell hb _).setCell hc _).setCell hc _
theorem zmL (w : World) (p : Addr) (v : Value) : (w.setCell p v).heap.size = w.heap.size := by simp [World.setCell]
theorem zgy {w' : World} {b c : Nat} {x0 x1 x2 x3 y0 y1 : Value} :
  ((((((w'.setCell ⟨b, 0, none⟩ x0).setCell ⟨b, 1, none⟩ x1).setCell ⟨b, 2, none⟩ x2).setCell ⟨b, 3, none⟩ x3).setCell ⟨c, 0, none⟩ y0).setCell ⟨c, 1, none⟩ y1).heap.size = w'.heap.size := by
 simp only [zmL]
theorem zf2 (s : ByteArray) (i : Nat) (hi : i <= s.size) (hs : s.size <= 140737488355328) (w : World) :
  Calls Tryz.prog 178 #[.string s, .int .i64 i] w fun e w' => e = .returned (mbV (zaR s i)) /\ Below w.heap.size w w' := by
 obtain ⟨q1, q2, q3⟩ := zcX w
 have HH := hO q1
 have HG := hO q2
 have HR := hO q3
 clear q1 q2 q3
 by_cases h : i + 1 < s.size
 ·have hb : s[i + 1].toNat < 256 := s[i + 1].toNat_lt
  have HX : Hid (∀ w, Calls Tryz.prog 136 #[.int .u8 (s[i + 1].toNat : Int)] w fun e w' => e = .returned (.tuple #[sv (cls s[i + 1].toNat).1, .int .i64 (cls s[i + 1].toNat).2]) /\ Below w.heap.size w w') := fun w => zeM _ hb w
  by_cases hc : (cls s[i + 1].toNat).2 = 0
  ·have HF : Hid (zaR s i = .inl ((cls s[i + 1].toNat).1, i + 2)) := (by show zaR s i = _; unfold zaR; rw [zal h]; rw [if_pos ⟨h, hc⟩]; rfl)
   go_enter Tryz.func178, Tryz.ntmps178
   go_wp2_with fail
   refine (HX.out _).mono ?_
   rintro e w1 ⟨rfl, hb1⟩
   rw [hc]
   have hl : w.heap.size + 1 < w1.heap.size := by have h := hb1.size; simp at h; omega
   have HR1 := hO (HR.out.trans (hb1.mono (by simp; omega)))
   obtain ⟨_, g0, g1, k0, k1⟩ := HG.out.below hb1 (by simp)
   obtain ⟨_, c0, c1, c2, c3, f0, f1, f2, f3⟩ := HH.out.below hb1 (by simp; omega)
   clear hb1 HX hc HH HG HR
   generalize (cls s[i + 1].toNat).1 = r at *
   go_wp2
   rw [HF.out]
   refine bodyPost_ret (v := mbV (.inl (r, i + 2))) (by simp [results, Tryz.results178, go_sem, mbV, zak, *]) rfl ⟨rfl, ?_⟩
   exact (zaK HR1.out (Nat.le_refl _) (by omega)).alloc (by rw [zgy]; omega) _
  ·have HF : Hid (zaR s i = .inr (i, 10)) := (by show zaR s i = _; unfold zaR; rw [zal h]; rw [if_neg (fun q => hc q.2)])
   have hc' : ((cls s[i + 1].toNat).2 == 0) = false := bF hc
   clear hc
   go_enter Tryz.func178, Tryz.ntmps178
   go_wp2_with fail
   refine (HX.out _).mono ?_
   rintro e w1 ⟨rfl, hb1⟩
   have hl : w.heap.size + 1 < w1.heap.size := by have h := hb1.size; simp at h; omega
   have HR1 := hO (HR.out.trans (hb1.mono (by simp; omega)))
   obtain ⟨_, g0, g1, k0, k1⟩ := HG.out.below hb1 (by simp)
   obtain ⟨_, c0, c1, c2, c3, f0, f1, f2, f3⟩ := HH.out.below hb1 (by simp; omega)
   clear hb1 HX HH HG HR
   generalize cls s[i + 1].toNat = r at *
   go_wp2
   rw [HF.out]
   refine bodyPost_ret (v := mbV (.inr (i, 10))) (by simp [results, Tryz.results178, go_sem, mbV, zak, *]) rfl ⟨rfl, ?_⟩
   exact (zaK HR1.out (Nat.le_refl _) (by omega)).alloc (by rw [zgy]; omega) _
 ·have HF : Hid (zaR s i = .inr (i, 10)) := (by show zaR s i = _; unfold zaR; rw [if_neg (fun q => h q.1)])
  have h1 : ¬ (i : Int) + 1 < (s.size : Int) := by omega
  go_enter Tryz.func178, Tryz.ntmps178
  go_wp2
  rw [HF.out]
  refine bodyPost_ret (v := mbV (.inr (i, 10))) (by simp [results, Tryz.results178, go_sem, mbV, zak, *]) rfl ⟨rfl, ?_⟩
  exact ((Below.refl _ _).alloc (Nat.le_refl _) _).alloc (by simp) _
theorem zgz (s : ByteArray) (i : Nat) (hi : i <= s.size) (hs : s.size <= 140737488355328) (w : World) (hc : (chr s i == 37) = true) :
  Calls Tryz.prog 160 #[.string s, .int .i64 i] w fun e w' => e = .returned (mbV (zab s i)) /\ Below w.heap.size w w' := by
 have HF : Hid (zab s i = zaR s i) := (by show zab s i = _; unfold zab; rw [if_pos (beq_iff_eq.1 hc)])
 obtain ⟨q1, q2, q3⟩ := zcX w
 have HH := hO q1
 have HG := hO q2
 have HR := hO q3
 clear q1 q2 q3
 go_enter Tryz.func160, Tryz.ntmps160
 go_wp2_with fail
 refine (zan s i 37 (by omega) _).mono ?_
 rintro e w1 ⟨rfl, rfl⟩
 rw [hc]
 clear hc
 go_wp2_with fail
 refine (zf2 s i hi hs _).mono ?_
 rintro e w1 ⟨rfl, hb1⟩
 have hl : w.heap.size + 1 < w1.heap.size := by have h := hb1.size; simp at h; omega
 have HR1 := hO (HR.out.trans (hb1.mono (by simp; omega)))
 obtain ⟨_, g0, g1, k0, k1⟩ := HG.out.below hb1 (by simp)
 obtain ⟨_, c0, c1, c2, c3, f0, f1, f2, f3⟩ := HH.out.below hb1 (by simp; omega)
 clear hb1 HH HG HR
 cases hq : zaR s i with
 | inl p =>
  obtain ⟨y, n⟩ := p
  rw [hq] at HF
  dsimp only [mbV]
  clear hq
  go_wp2
  rw [HF.out]
  refine bodyPost_ret (v := mbV (.inl (y, n))) (by simp [results, Tryz.results160, go_sem, mbV, zak, *]) rfl ⟨rfl, ?_⟩
  exact zaK HR1.out (Nat.le_refl _) (by omega)
 | inr pq =>
  obtain ⟨a, c⟩ := pq
  rw [hq] at HF
  dsimp only [mbV]
  clear hq
  go_wp2
  rw [HF.out]
  refine bodyPost_ret (v := mbV (.inr (a, c))) (by simp [results, Tryz.results160, go_sem, mbV, zak, *]) rfl ⟨rfl, ?_⟩
  exact zaK HR1.out (Nat.le_refl _) (by omega)
theorem zhg (s : ByteArray) (i : Nat) (_hi : i <= s.size) (hs : s.size <= 140737488355328) (w : World) (hc : (chr s i == 37) = false) (h1 : zag s i = none) :
  Calls Tryz.prog 160 #[.string s, .int .i64 i] w fun e w' => e = .returned (mbV (zab s i)) /\ Below w.heap.size w w' := by
 have hn37 : ¬ chr s i = 37 := beq_eq_false_iff_ne.1 hc
 have HF : Hid (zab s i = .inr (i, 6)) := (by show zab s i = _; unfold zab; rw [if_neg hn37, h1])
 clear hn37
 obtain ⟨q1, q2, q3⟩ := zcX w
 have HH := hO q1
 have HG := hO q2
 have HR := hO q3
 clear q1 q2 q3
 go_enter Tryz.func160, Tryz.ntmps160
 go_wp2_with fail
 refine (zan s i 37 (by omega) _).mono ?_
 rintro e w1 ⟨rfl, rfl⟩
 rw [hc]
 clear hc
 go_wp2_with fail
 refine (za6 s i hs _).mono ?_
 rintro e w1 ⟨rfl, rfl⟩
 rw [h1]
 dsimp only [itV]
 clear h1
 go_wp2
 rw [HF.out]
 refine bodyPost_ret (v := mbV (.inr (i, 6))) (by simp [results, Tryz.results160, go_sem, mbV, zak, *]) rfl ⟨rfl, ?_⟩
 exact ((Below.refl _ _).alloc (Nat.le_refl _) _).alloc (by simp) _
theorem ziU (s : ByteArray) (i : Nat) (_hi : i <= s.size) (hs : s.size <= 140737488355328) (w : World) (hc : (chr s i == 37) = false) (lo n : Nat) (h1 : zag s i = some (lo, n)) (h2 : (chr s n == 45) = false) :
  Calls Tryz.prog 160 #[.string s, .int .i64 i] w fun e w' => e = .returned (mbV (zab s i)) /\ Below w.heap.size w w' := by
 have hn37 : ¬ chr s i = 37 := beq_eq_false_iff_ne.1 hc
 have HF : Hid (zab s i = .inl (spn lo lo, n)) := (by show zab s i = _; unfold zab; rw [if_neg hn37, h1]; exact if_neg (beq_eq_false_iff_ne.1 h2))
 obtain ⟨b1, b2, b3⟩ := zaV h1
 clear hn37
 obtain ⟨q1, q2, q3⟩ := zcX w
 have HH := hO q1
 have HG := hO q2
 have HR := hO q3
 clear q1 q2 q3
 go_enter Tryz.func160, Tryz.ntmps160
 go_wp2_with fail
 refine (zan s i 37 (by omega) _).mono ?_
 rintro e w1 ⟨rfl, rfl⟩
 rw [hc]
 clear hc
 go_wp2_with fail
 refine (za6 s i hs _).mono ?_
 rintro e w1 ⟨rfl, rfl⟩
 rw [h1]
 dsimp only [itV]
 clear h1
 go_wp2_with fail
 refine (zan s n 45 (by omega) _).mono ?_
 rintro e w1 ⟨rfl, rfl⟩
 rw [h2]
 clear h2
 go_wp2_with fail
 refine (zaG lo lo _ (by omega) (by omega) (by omega)).mono ?_
 rintro e w1 ⟨rfl, hb1⟩
 have hl : w.heap.size + 1 < w1.heap.size := by have h := hb1.size; simp at h; omega
 have HR1 := hO (HR.out.trans (hb1.mono (by simp; omega)))
 obtain ⟨_, g0, g1, k0, k1⟩ := HG.out.below hb1 (by simp)
 obtain ⟨_, c0, c1, c2, c3, f0, f1, f2, f3⟩ := HH.out.below hb1 (by simp; omega)
 clear hb1 HH HG HR
 generalize spn lo lo = y at *
 go_wp2
 rw [HF.out]
 refine bodyPost_ret (v := mbV (.inl (y, n))) (by simp [results, Tryz.results160, go_sem, mbV, zak, *]) rfl ⟨rfl, ?_⟩
 exact zaK HR1.out (Nat.le_refl _) (by omega)
theorem zhh (s : ByteArray) (i : Nat) (_hi : i <= s.size) (hs : s.size <= 140737488355328) (w : World) (hc : (chr s i == 37) = false) (lo n : Nat) (h1 : zag s i = some (lo, n)) (h2 : (chr s n == 45) = true) (h3 : zag s (n + 1) = none) :
  Calls Tryz.prog 160 #[.string s, .int .i64 i] w fun e w' => e = .returned (mbV (zab s i)) /\ Below w.heap.size w w' := by
 have hn37 : ¬ chr s i = 37 := beq_eq_false_iff_ne.1 hc
 have HF : Hid (zab s i = .inr ((n + 1), 6)) := (by show zab s i = _; unfold zab; rw [if_neg hn37, h1]; exact (if_pos (beq_iff_eq.1 h2)).trans (by rw [h3]))
 obtain ⟨b1, b2, b3⟩ := zaV h1
 clear hn37
 obtain ⟨q1, q2, q3⟩ := zcX w
 have HH := hO q1
 have HG := hO q2
 have HR := hO q3
 clear q1 q2 q3
 go_enter Tryz.func160, Tryz.ntmps160
 go_wp2_with fail
 refine (zan s i 37 (by omega) _).mono ?_
 rintro e w1 ⟨rfl, rfl⟩
 rw [hc]
 clear hc
 go_wp2_with fail
 refine (za6 s i hs _).mono ?_
 rintro e w1 ⟨rfl, rfl⟩
 rw [h1]
 dsimp only [itV]
 clear h1
 go_wp2_with fail
 refine (zan s n 45 (by omega) _).mono ?_
 rintro e w1 ⟨rfl, rfl⟩
 rw [h2]
 clear h2
 go_wp2_with fail
 rw [show (n : Int) + 1 = ((n + 1 : Nat) : Int) from by omega]
 refine (za6 s (n + 1) hs _).mono ?_
 rintro e w1 ⟨rfl, rfl⟩
 rw [h3]
 dsimp only [itV]
 clear h3
 go_wp2
 rw [HF.out]
 refine bodyPost_ret (v := mbV (.inr ((n + 1), 6))) (by simp [results, Tryz.results160, go_sem, mbV, zak, *]) rfl ⟨rfl, ?_⟩
 exact ((Below.refl _ _).alloc (Nat.le_refl _) _).alloc (by simp) _
theorem zf3 (s : ByteArray) (i : Nat) (_hi : i <= s.size) (hs : s.size <= 140737488355328) (w : World) (hc : (chr s i == 37) = false) (lo n hi_ e_ : Nat) (h1 : zag s i = some (lo, n)) (h2 : (chr s n == 45) = true) (h3 : zag s (n + 1) = some (hi_, e_)) (h4 : hi_ < lo) :
  Calls Tryz.prog 160 #[.string s, .int .i64 i] w fun e w' => e = .returned (mbV (zab s i)) /\ Below w.heap.size w w' := by
 have hn37 : ¬ chr s i = 37 := beq_eq_false_iff_ne.1 hc
 have HF : Hid (zab s i = .inr (i, 1)) := (by show zab s i = _; unfold zab; rw [if_neg hn37, h1]; exact (if_pos (beq_iff_eq.1 h2)).trans (by rw [h3]; exact if_pos h4))
 obtain ⟨b1, b2, b3⟩ := zaV h1
 have h5 : (hi_ : Int) < (lo : Int) := by omega
 clear hn37
 obtain ⟨q1, q2, q3⟩ := zcX w
 have HH := hO q1
 have HG := hO q2
 have HR := hO q3
 clear q1 q2 q3
 go_enter Tryz.func160, Tryz.ntmps160
 go_wp2_with fail
 refine (zan s i 37 (by omega) _).mono ?_
 rintro e w1 ⟨rfl, rfl⟩
 rw [hc]
 clear hc
 go_wp2_with fail
 refine (za6 s i hs _).mono ?_
 rintro e w1 ⟨rfl, rfl⟩
 rw [h1]
 dsimp only [itV]
 clear h1
 go_wp2_with fail
 refine (zan s n 45 (by omega) _).mono ?_
 rintro e w1 ⟨rfl, rfl⟩
 rw [h2]
 clear h2
 go_wp2_with fail
 rw [show (n : Int) + 1 = ((n + 1 : Nat) : Int) from by omega]
 refine (za6 s (n + 1) hs _).mono ?_
 rintro e w1 ⟨rfl, rfl⟩
 rw [h3]
 dsimp only [itV]
 clear h3
 go_wp2
 rw [HF.out]
 refine bodyPost_ret (v := mbV (.inr (i, 1))) (by simp [results, Tryz.results160, go_sem, mbV, zak, *]) rfl ⟨rfl, ?_⟩
 exact ((Below.refl _ _).alloc (Nat.le_refl _) _).alloc (by simp) _
theorem zhi (s : ByteArray) (i : Nat) (_hi : i <= s.size) (hs : s.size <= 140737488355328) (w : World) (hc : (chr s i == 37) = false) (lo n hi_ e_ : Nat) (h1 : zag s i = some (lo, n)) (h2 : (chr s n == 45) = true) (h3 : zag s (n + 1) = some (hi_, e_)) (h4 : ¬ hi_ < lo) :
  Calls Tryz.prog 160 #[.string s, .int .i64 i] w fun e w' => e = .returned (mbV (zab s i)) /\ Below w.heap.size w w' := by
 have hn37 : ¬ chr s i = 37 := beq_eq_false_iff_ne.1 hc
 have HF : Hid (zab s i = .inl (spn lo hi_, e_)) := (by show zab s i = _; unfold zab; rw [if_neg hn37, h1]; exact (if_pos (beq_iff_eq.1 h2)).trans (by rw [h3]; exact if_neg h4))
 obtain ⟨b1, b2, b3⟩ := zaV h1
 obtain ⟨d1, d2, d3⟩ := zaV h3
 have h5 : ¬ (hi_ : Int) < (lo : Int) := by omega
 clear hn37
 obtain ⟨q1, q2, q3⟩ := zcX w
 have HH := hO q1
 have HG := hO q2
 have HR := hO q3
 clear q1 q2 q3
 go_enter Tryz.func160, Tryz.ntmps160
 go_wp2_with fail
 refine (zan s i 37 (by omega) _).mono ?_
 rintro e w1 ⟨rfl, rfl⟩
 rw [hc]
 clear hc
 go_wp2_with fail
 refine (za6 s i hs _).mono ?_
 rintro e w1 ⟨rfl, rfl⟩
 rw [h1]
 dsimp only [itV]
 clear h1
 go_wp2_with fail
 refine (zan s n 45 (by omega) _).mono ?_
 rintro e w1 ⟨rfl, rfl⟩
 rw [h2]
 clear h2
 go_wp2_with fail
 rw [show (n : Int) + 1 = ((n + 1 : Nat) : Int) from by omega]
 refine (za6 s (n + 1) hs _).mono ?_
 rintro e w1 ⟨rfl, rfl⟩
 rw [h3]
 dsimp only [itV]
 clear h3
 go_wp2_with fail
 refine (zaG lo hi_ _ (by omega) (by omega) (by omega)).mono ?_
 rintro e w1 ⟨rfl, hb1⟩
 have hl : w.heap.size + 1 < w1.heap.size := by have h := hb1.size; simp at h; omega
 have HR1 := hO (HR.out.trans (hb1.mono (by simp; omega)))
 obtain ⟨_, g0, g1, k0, k1⟩ := HG.out.below hb1 (by simp)
 obtain ⟨_, c0, c1, c2, c3, f0, f1, f2, f3⟩ := HH.out.below hb1 (by simp; omega)
 clear hb1 HH HG HR
 generalize spn lo hi_ = y at *
 go_wp2
 rw [HF.out]
 refine bodyPost_ret (v := mbV (.inl (y, e_))) (by simp [results, Tryz.results160, go_sem, mbV, zak, *]) rfl ⟨rfl, ?_⟩
 exact zaK HR1.out (Nat.le_refl _) (by omega)
theorem zde (s : ByteArray) (i : Nat) (hi : i <= s.size) (hs : s.size <= 140737488355328) (w : World) :
  Calls Tryz.prog 160 #[.string s, .int .i64 i] w fun e w' => e = .returned (mbV (zab s i)) /\ Below w.heap.size w w' := by
 cases hc : (chr s i == 37)
 ·cases h1 : zag s i with
  | none => exact zhg s i hi hs w hc h1
  | some p =>
   obtain ⟨lo, n⟩ := p
   cases h2 : (chr s n == 45)
   ·exact ziU s i hi hs w hc lo n h1 h2
   ·cases h3 : zag s (n + 1) with
    | none => exact zhh s i hi hs w hc lo n h1 h2 h3
    | some p =>
     obtain ⟨hi_, e_⟩ := p
     by_cases h4 : hi_ < lo
     ·exact zf3 s i hi hs w hc lo n hi_ e_ h1 h2 h3 h4
     ·exact zhi s i hi hs w hc lo n hi_ e_ h1 h2 h3 h4
 ·exact zgz s i hi hs w hc
theorem za7 {s : ByteArray} {f : Nat} {x : BitVec 256} {k : Nat} (h : chr s k = 93) : zac s (f + 1) x k = .inl (x, k) := by
 unfold zac; rw [if_pos h]
theorem zaA {s : ByteArray} {f : Nat} {x : BitVec 256} {k a : Nat} {c : Int} (h : ¬ chr s k = 93) (h1 : zab s k = .inr (a, c)) : zac s (f + 1) x k = .inr (a, c) := by
 rw [zac, if_neg h, h1]
theorem zaq {s : ByteArray} {f : Nat} {x y : BitVec 256} {k n : Nat} (h : ¬ chr s k = 93) (h1 : zab s k = .inl (y, n)) : zac s (f + 1) x k = zac s f (x ||| y) n := by
 rw [zac, if_neg h, h1]
theorem zdE {s : ByteArray} {i a : Nat} {c : Int} (h : zab s i = .inr (a, c)) : (c != 0) = true /\ a <= s.size + i + 1 := by
 unfold zab at h
 split at h
 ·unfold zaR at h
  split at h
  ·simp at h
  ·simp only [Sum.inr.injEq, Prod.mk.injEq] at h; obtain ⟨rfl, rfl⟩ := h; exact ⟨rfl, by omega⟩
 ·split at h
  ·simp only [Sum.inr.injEq, Prod.mk.injEq] at h; obtain ⟨rfl, rfl⟩ := h; exact ⟨rfl, by omega⟩
  ·rename_i lo m hm
   have b1 := zaV hm
   split at h
   ·split at h
    ·simp only [Sum.inr.injEq, Prod.mk.injEq] at h; obtain ⟨rfl, rfl⟩ := h; exact ⟨rfl, by omega⟩
    ·split at h
     ·simp only [Sum.inr.injEq, Prod.mk.injEq] at h; obtain ⟨rfl, rfl⟩ := h; exact ⟨rfl, by omega⟩
     ·simp at h
   ·simp at h
theorem zdf {s : ByteArray} : ∀ {f : Nat} {x : BitVec 256} {i a : Nat} {c : Int}, zac s f x i = .inr (a, c) -> (c != 0) = true := by
 intro f
 induction f with
 | zero => intro x i a c h; simp only [zac, Sum.inr.injEq, Prod.mk.injEq] at h; obtain ⟨rfl, rfl⟩ := h; rfl
 | succ f ih =>
  intro x i a c h
  by_cases hc : chr s i = 93
  ·rw [za7 hc] at h; simp at h
  ·cases hm : zab s i with
   | inr pq =>
    obtain ⟨a', c'⟩ := pq
    rw [zaA hc hm] at h; simp only [Sum.inr.injEq, Prod.mk.injEq] at h; obtain ⟨rfl, rfl⟩ := h; exact (zdE hm).1
   | inl p => obtain ⟨y, n⟩ := p; rw [zaq hc hm] at h; exact ih h
theorem zaU {s : ByteArray} : ∀ {f : Nat} {x y : BitVec 256} {i n : Nat}, zac s f x i = .inl (y, n) -> i <= n /\ n < s.size /\ chr s n = 93 := by
 intro f
 induction f with
 | zero => intro x y i n h; simp [zac] at h
 | succ f ih =>
  intro x y i n h
  by_cases hc : chr s i = 93
  ·rw [za7 hc] at h; simp only [Sum.inl.injEq, Prod.mk.injEq] at h; obtain ⟨rfl, rfl⟩ := h; exact ⟨by omega, zau (by omega), hc⟩
  ·cases hm : zab s i with
   | inr pq =>
    obtain ⟨a', c'⟩ := pq
    rw [zaA hc hm] at h; simp at h
   | inl p => obtain ⟨y, n⟩ := p; have b := zb4 hm; rw [zaq hc hm] at h; have b2 := ih h; exact ⟨by omega, b2.2⟩
theorem boxes3 (w : World) : Holds (((w.alloc z4).alloc fz).alloc z4) w.heap.size 0#256 /\ FHolds (((w.alloc z4).alloc fz).alloc z4) (w.heap.size + 1) 0 0 /\ Holds (((w.alloc z4).alloc fz).alloc z4) (w.heap.size + 1 + 1) 0#256 /\ Below w.heap.size w (((w.alloc z4).alloc fz).alloc z4) := by
 obtain ⟨h1, h2, h3⟩ := zcX w
 have hs : ((w.alloc z4).alloc fz).heap.size = w.heap.size + 1 + 1 := by simp
 refine ⟨h1.alloc _, h2.below (B := w.heap.size + 1 + 1) ((Below.refl _ _).alloc (by rw [hs]; exact Nat.le_refl _) _) (by omega), ?_, h3.alloc (by rw [hs]; omega) _⟩
 have h := Holds.zero ((w.alloc z4).alloc fz)
 rw [hs] at h
 exact h
structure AtM (w wr : World) (x : BitVec 256) : Prop where
 h1 : Holds wr w.heap.size 0#256
 h2 : FHolds wr (w.heap.size + 1) 0 0
 h3 : Holds wr (w.heap.size + 1 + 1) x
 hb : Below w.heap.size w wr
theorem AtM.below {B : Nat} {w wr w1 : World} {x : BitVec 256} (h : AtM w wr x) (hb : Below B wr w1) (hB : w.heap.size + 1 + 1 < B) : AtM w w1 x :=
 ⟨h.h1.below hb (by omega), h.h2.below hb (by omega), h.h3.below hb hB, h.hb.trans (hb.mono (by omega))⟩
theorem FHolds.put_other {w : World} {b c : Nat} {p q : Int} (h : FHolds w c p q) (hne : c ≠ b) (y : BitVec 256) : FHolds (zn8 w b y) c p q := by
 obtain ⟨lt, c0, c1, f0, f1⟩ := h
 constructor <;> simp [go_sem, *]
theorem AtM.put {w wr : World} {x : BitVec 256} (h : AtM w wr x) (y : BitVec 256) : AtM w (zn8 wr (w.heap.size + 1 + 1) y) y :=
 ⟨h.h1.put_other (by omega) y, h.h2.put_other (by omega) y, h.h3.put y, zcw h.hb (by omega) y⟩
theorem zbA (s : ByteArray) (i : Nat) (hi : i <= s.size) (hs : s.size <= 140737488355328) (w : World) :
  Calls Tryz.prog 149 #[.string s, .int .i64 i] w fun e w' => e = .returned (mbV (zac s (s.size + 1) 0#256 i)) /\ Below w.heap.size w w' := by
 obtain ⟨q1, q2, q3, q4⟩ := boxes3 w
 have HA : Hid (AtM w (((w.alloc z4).alloc fz).alloc z4) 0#256) := ⟨q1, q2, q3, q4⟩
 clear q1 q2 q3 q4
 generalize hR : zac s (s.size + 1) 0#256 i = R
 have HR := hO hR
 clear hR
 go_enter Tryz.func149, Tryz.ntmps149
 go_wp2_with fail
 go_loopw [1] (fun t wr => ∃ k : Nat, ∃ f : Nat, ∃ x : BitVec 256, k <= s.size /\ t = .int .i64 k /\ Hid (s.size + 1 <= f + k) /\ Hid (zac s f x k = R) /\ Hid (AtM w wr x)) (fun t _ => s.size - (intOf t).toNat)
 case atStart => exact ⟨i, s.size + 1, 0#256, hi, rfl, show _ <= _ by omega, HR, HA⟩
 case round =>
  obtain ⟨k, f, x, hk, rfl, hf, hr, ha⟩ := hrel
  obtain ⟨g, rfl⟩ : ∃ g, f = g + 1 := ⟨f - 1, by have h := hf.out; omega⟩
  clear HA HR
  go_wp2_with fail
  refine (zan s k 93 (by omega) _).mono ?_
  rintro e w1 ⟨rfl, rfl⟩
  cases hc : (chr s k == 93)
  ·have hn : ¬ chr s k = 93 := beq_eq_false_iff_ne.1 hc
   cases hm : zab s k with
   | inl p =>
    obtain ⟨y, n⟩ := p
    obtain ⟨b1, b2⟩ := zb4 hm
    have hr' : Hid (zac s g (x ||| y) n = R) := ((zaq hn hm).symm.trans hr.out)
    have hf' : Hid (s.size + 1 <= g + n) := (by have h := hf.out; show _ <= _; omega)
    have HM := hO hm
    clear hn hm hc hr hf
    go_wp2_with fail
    refine (zde s k hk hs _).mono ?_
    rintro e w1 ⟨rfl, hb1⟩
    rw [HM.out]
    dsimp only [mbV]
    have HA1 := hO (ha.out.below hb1 ha.out.h3.lt)
    clear hb1 ha HM
    have hl : w.heap.size + 1 + 1 < w1.heap.size := HA1.out.h3.lt
    have HA2 : Hid (AtM w ((w1.alloc (c4 y)).alloc fz) x) := HA1.out.below (B := w1.heap.size) (((Below.refl _ _).alloc (Nat.le_refl _) _).alloc (by simp) _) hl
    clear HA1
    obtain ⟨_, c0, c1, c2, c3, f0, f1, f2, f3⟩ := HA2.out.h3
    go_wp2_with fail
    refine (zju x y _).mono ?_
    rintro e w2 ⟨rfl, hb2⟩
    have HA3 := hO (HA2.out.below hb2 HA2.out.h3.lt)
    clear HA2 hb2 c0 c1 c2 c3 f0 f1 f2 f3
    obtain ⟨_, c0, c1, c2, c3, f0, f1, f2, f3⟩ := HA3.out.h3
    go_wp2_with fail
    go_roundw
    case rel =>
     exact ⟨n, g, x ||| y, b2, rfl, hf', hr', HA3.out.put (x ||| y)⟩
    case measure => simp [intOf]; omega
   | inr pq =>
    obtain ⟨a, c⟩ := pq
    have hr' : Hid (R = .inr (a, c)) := (hr.out.symm.trans (zaA hn hm))
    have HM := hO hm
    have hcn := (zdE hm).1
    clear hn hm hc hr hf
    go_wp2_with fail
    refine (zde s k hk hs _).mono ?_
    rintro e w1 ⟨rfl, hb1⟩
    rw [HM.out]
    dsimp only [mbV]
    have HA1 := hO (ha.out.below hb1 ha.out.h3.lt)
    clear hb1 ha HM
    have hl : w.heap.size + 1 + 1 < w1.heap.size := HA1.out.h3.lt
    have HA2 : Hid (AtM w ((w1.alloc (c4 0#256)).alloc (.cells #[.int .i64 (a : Int), .int .i64 c] 27)) x) := HA1.out.below (B := w1.heap.size) (((Below.refl _ _).alloc (Nat.le_refl _) _).alloc (by simp) _) hl
    clear HA1
    obtain ⟨_, c0, c1, c2, c3, f0, f1, f2, f3⟩ := HA2.out.h1
    obtain ⟨_, d0, d1, g0, g1⟩ := HA2.out.h2
    go_wp2_with fail
    go_region
    all_goals
     go_wp2
     rw [hr'.out]
     have HB2 := HA2.out.hb
     simp only [c4, zak] at c0 c1 c2 c3 f0 f1 f2 f3 d0 d1 g0 g1 HB2 ⊢
     refine bodyPost_ret (v := mbV (.inr (a, c))) (by simp [results, Tryz.results149, go_sem, mbV, zak, *]) rfl ⟨rfl, ?_⟩
     first | exact (zaK HB2 (Nat.le_refl _) (by omega)).drew | exact zaK HB2 (Nat.le_refl _) (by omega)
  ·have he : chr s k = 93 := beq_iff_eq.1 hc
   have hr' : Hid (R = .inl (x, k)) := (hr.out.symm.trans (za7 he))
   clear he hr hf hc
   have hl : w.heap.size + 1 + 1 < w1.heap.size := ha.out.h3.lt
   obtain ⟨_, c0, c1, c2, c3, f0, f1, f2, f3⟩ := ha.out.h1
   obtain ⟨_, d0, d1, g0, g1⟩ := ha.out.h2
   obtain ⟨_, e0, e1, e2, e3, k0, k1, k2, k3⟩ := ha.out.h3
   go_wp2_with fail
   rw [hr'.out]
   refine bodyPost_ret (v := mbV (.inl (x, k))) (by simp [results, Tryz.results149, go_sem, mbV, zak, *]) rfl ⟨rfl, ?_⟩
   exact zaK ha.out.hb (Nat.le_refl _) (by omega)
def zeN : Rd (BitVec 256 × Nat) -> Rd (BitVec 256 × Nat)
 | .inr (a, c) => .inr (a, c)
 | .inl (x, e) => .inl (x, e + 1)
def zcN : Rd (BitVec 256 × Nat) -> Rd (BitVec 256 × Nat)
 | .inr (a, c) => .inr (a, c)
 | .inl (x, e) => .inl (~~~ x, e + 1)
def zam (s : ByteArray) (i : Int) : Rd (BitVec 256 × Nat) :=
 if i < 0 ∨ (s.size : Int) < i then .inr (0, 1) else
 if chr s i.toNat = 91 then
  if chr s (i.toNat + 1) = 94 then zcN (zac s (s.size + 1) 0#256 (i.toNat + 2)) else zeN (zac s (s.size + 1) 0#256 (i.toNat + 1))
 else .inr (i.toNat, 6)
theorem zmM (s : ByteArray) (i : Int) (h : i < 0 ∨ (s.size : Int) < i) (w : World) :
  Calls Tryz.prog 133 #[.string s, .int .i64 i] w fun e w' => e = .returned (mbV (zam s i)) /\ Below w.heap.size w w' := by
 have HF : Hid (zam s i = .inr (0, 1)) := (by show zam s i = _; unfold zam; rw [if_pos h])
 rcases h with h | h
 ·go_enter Tryz.func133, Tryz.ntmps133
  go_wp2
  rw [HF.out]
  refine bodyPost_ret (v := mbV (.inr (0, 1))) (by simp [results, Tryz.results133, go_sem, mbV, zak, *]) rfl ⟨rfl, ?_⟩
  exact ((Below.refl _ _).alloc (Nat.le_refl _) _).alloc (by simp) _
 ·have h0 : ¬ i < 0 := by omega
  go_enter Tryz.func133, Tryz.ntmps133
  go_wp2
  rw [HF.out]
  refine bodyPost_ret (v := mbV (.inr (0, 1))) (by simp [results, Tryz.results133, go_sem, mbV, zak, *]) rfl ⟨rfl, ?_⟩
  exact ((Below.refl _ _).alloc (Nat.le_refl _) _).alloc (by simp) _
theorem zkH (s : ByteArray) (i : Nat) (hi : i <= s.size) (_hs : s.size <= 140737488355328) (h : (chr s i == 91) = false) (w : World) :
  Calls Tryz.prog 133 #[.string s, .int .i64 i] w fun e w' => e = .returned (mbV (zam s i)) /\ Below w.heap.size w w' := by
 have HF : Hid (zam s i = .inr (i, 6)) := (by show zam s i = _; unfold zam; rw [if_neg (by omega), if_neg (by exact beq_eq_false_iff_ne.1 h)]; rfl)
 go_enter Tryz.func133, Tryz.ntmps133
 go_wp2_with fail
 refine (zan s i 91 (by omega) _).mono ?_
 rintro e w1 ⟨rfl, rfl⟩
 rw [h]
 clear h
 go_wp2_with fail
 rw [HF.out]
 refine bodyPost_ret (v := mbV (.inr (i, 6))) (by simp [results, Tryz.results133, go_sem, mbV, zak, *]) rfl ⟨rfl, ?_⟩
 exact ((Below.refl _ _).alloc (Nat.le_refl _) _).alloc (by simp) _
structure AtR (w wr : World) : Prop where
 h1 : Holds wr w.heap.size 0#256
 h2 : FHolds wr (w.heap.size + 1) 0 0
 hb : Below w.heap.size w wr
theorem AtR.below {B : Nat} {w wr w1 : World} (h : AtR w wr) (hb : Below B wr w1) (hB : w.heap.size + 1 < B) : AtR w w1 :=
 ⟨h.h1.below hb (by omega), h.h2.below hb hB, h.hb.trans (hb.mono (by omega))⟩
theorem AtR.start (w : World) : AtR w ((w.alloc z4).alloc fz) := ⟨(zcX w).1, (zcX w).2.1, (zcX w).2.2⟩
theorem ze8 (s : ByteArray) (i : Nat) (hi : i + 1 <= s.size) (hs : s.size <= 140737488355328) (h : (chr s i == 91) = true) (h2 : (chr s (i + 1) == 94) = false) (a : Nat) (c : Int) (hm : zac s (s.size + 1) 0#256 (i + 1) = .inr (a, c)) (w : World) :
  Calls Tryz.prog 133 #[.string s, .int .i64 i] w fun e w' => e = .returned (mbV (zam s i)) /\ Below w.heap.size w w' := by
 have HF := (show Hid (zam s i = .inr (a, c)) from (by
  show zam s i = _; unfold zam
  rw [if_neg (by omega), Int.toNat_natCast, if_pos (beq_iff_eq.1 h), if_neg (beq_eq_false_iff_ne.1 h2), hm]; rfl))
 have HM := hO hm
 have HA := hO (AtR.start w)
 have hcn := zdf hm
 clear hm
 go_enter Tryz.func133, Tryz.ntmps133
 go_wp2_with fail
 refine (zan s i 91 (by omega) _).mono ?_
 rintro e w1 ⟨rfl, rfl⟩
 rw [h]
 clear h
 go_wp2_with fail
 rw [show (i : Int) + 1 = ((i + 1 : Nat) : Int) from by omega]
 refine (zan s (i + 1) 94 (by omega) _).mono ?_
 rintro e w1 ⟨rfl, rfl⟩
 rw [h2]
 clear h2
 go_wp2_with fail
 refine (zbA s (i + 1) hi hs _).mono ?_
 rintro e w1 ⟨rfl, hb1⟩
 rw [HM.out]
 dsimp only [mbV]
 have HA1 := hO (HA.out.below hb1 HA.out.h2.lt)
 clear hb1 HA HM
 have hl : w.heap.size + 1 < w1.heap.size := HA1.out.h2.lt
 have HA2 : Hid (AtR w ((w1.alloc (c4 0#256)).alloc (.cells #[.int .i64 (a : Int), .int .i64 c] 27))) := HA1.out.below (B := w1.heap.size) (((Below.refl _ _).alloc (Nat.le_refl _) _).alloc (by simp) _) hl
 clear HA1
 obtain ⟨_, c0, c1, c2, c3, f0, f1, f2, f3⟩ := HA2.out.h1
 obtain ⟨_, d0, d1, g0, g1⟩ := HA2.out.h2
 go_wp2_with fail
 go_region
 all_goals
  go_wp2
  rw [HF.out]
  have HB2 := HA2.out.hb
  simp only [c4, zak] at c0 c1 c2 c3 f0 f1 f2 f3 d0 d1 g0 g1 HB2 ⊢
  refine bodyPost_ret (v := mbV (.inr (a, c))) (by simp [results, Tryz.results133, go_sem, mbV, zak, *]) rfl ⟨rfl, ?_⟩
  first | exact (zaK HB2 (Nat.le_refl _) (by omega)).drew | exact zaK HB2 (Nat.le_refl _) (by omega)
theorem zf4 (s : ByteArray) (i : Nat) (hi : i + 2 <= s.size) (hs : s.size <= 140737488355328) (h : (chr s i == 91) = true) (h2 : (chr s (i + 1) == 94) = true) (a : Nat) (c : Int) (hm : zac s (s.size + 1) 0#256 (i + 2) = .inr (a, c)) (w : World) :
  Calls Tryz.prog 133 #[.string s, .int .i64 i] w fun e w' => e = .returned (mbV (zam s i)) /\ Below w.heap.size w w' := by
 have HF := (show Hid (zam s i = .inr (a, c)) from (by
  show zam s i = _; unfold zam
  rw [if_neg (by omega), Int.toNat_natCast, if_pos (beq_iff_eq.1 h), if_pos (beq_iff_eq.1 h2), hm]; rfl))
 have HM := hO hm
 have HA := hO (AtR.start w)
 have hcn := zdf hm
 clear hm
 go_enter Tryz.func133, Tryz.ntmps133
 go_wp2_with fail
 refine (zan s i 91 (by omega) _).mono ?_
 rintro e w1 ⟨rfl, rfl⟩
 rw [h]
 clear h
 go_wp2_with fail
 rw [show (i : Int) + 1 = ((i + 1 : Nat) : Int) from by omega]
 refine (zan s (i + 1) 94 (by omega) _).mono ?_
 rintro e w1 ⟨rfl, rfl⟩
 rw [h2]
 clear h2
 go_wp2_with fail
 rw [show (i : Int) + 1 + 1 = ((i + 2 : Nat) : Int) from by omega]
 refine (zbA s (i + 2) hi hs _).mono ?_
 rintro e w1 ⟨rfl, hb1⟩
 rw [HM.out]
 dsimp only [mbV]
 have HA1 := hO (HA.out.below hb1 HA.out.h2.lt)
 clear hb1 HA HM
 have hl : w.heap.size + 1 < w1.heap.size := HA1.out.h2.lt
 have HA2 : Hid (AtR w ((w1.alloc (c4 0#256)).alloc (.cells #[.int .i64 (a : Int), .int .i64 c] 27))) := HA1.out.below (B := w1.heap.size) (((Below.refl _ _).alloc (Nat.le_refl _) _).alloc (by simp) _) hl
 clear HA1
 obtain ⟨_, c0, c1, c2, c3, f0, f1, f2, f3⟩ := HA2.out.h1
 obtain ⟨_, d0, d1, g0, g1⟩ := HA2.out.h2
 go_wp2_with fail
 go_region
 all_goals
  go_wp2
  rw [HF.out]
  have HB2 := HA2.out.hb
  simp only [c4, zak] at c0 c1 c2 c3 f0 f1 f2 f3 d0 d1 g0 g1 HB2 ⊢
  refine bodyPost_ret (v := mbV (.inr (a, c))) (by simp [results, Tryz.results133, go_sem, mbV, zak, *]) rfl ⟨rfl, ?_⟩
  first | exact (zaK HB2 (Nat.le_refl _) (by omega)).drew | exact zaK HB2 (Nat.le_refl _) (by omega)
theorem zf5 (s : ByteArray) (i : Nat) (hi : i + 1 <= s.size) (hs : s.size <= 140737488355328) (h : (chr s i == 91) = true) (h2 : (chr s (i + 1) == 94) = false) (x : BitVec 256) (n : Nat) (hm : zac s (s.size + 1) 0#256 (i + 1) = .inl (x, n)) (w : World) :
  Calls Tryz.prog 133 #[.string s, .int .i64 i] w fun e w' => e = .returned (mbV (zam s i)) /\ Below w.heap.size w w' := by
 have HF := (show Hid (zam s i = .inl (x, n + 1)) from (by
  show zam s i = _; unfold zam
  rw [if_neg (by omega), Int.toNat_natCast, if_pos (beq_iff_eq.1 h), if_neg (beq_eq_false_iff_ne.1 h2), hm]; rfl))
 have HM := hO hm
 have HA := hO (AtR.start w)
 obtain ⟨hn1, hn2, -⟩ := zaU hm
 clear hm
 go_enter Tryz.func133, Tryz.ntmps133
 go_wp2_with fail
 refine (zan s i 91 (by omega) _).mono ?_
 rintro e w1 ⟨rfl, rfl⟩
 rw [h]
 clear h
 go_wp2_with fail
 rw [show (i : Int) + 1 = ((i + 1 : Nat) : Int) from by omega]
 refine (zan s (i + 1) 94 (by omega) _).mono ?_
 rintro e w1 ⟨rfl, rfl⟩
 rw [h2]
 clear h2
 go_wp2_with fail
 refine (zbA s (i + 1) hi hs _).mono ?_
 rintro e w1 ⟨rfl, hb1⟩
 rw [HM.out]
 dsimp only [mbV]
 have HA1 := hO (HA.out.below hb1 HA.out.h2.lt)
 clear hb1 HA HM
 have hl : w.heap.size + 1 < w1.heap.size := HA1.out.h2.lt
 have HA2 : Hid (AtR w ((w1.alloc (c4 x)).alloc fz)) := HA1.out.below (B := w1.heap.size) (((Below.refl _ _).alloc (Nat.le_refl _) _).alloc (by simp) _) hl
 clear HA1
 obtain ⟨_, c0, c1, c2, c3, f0, f1, f2, f3⟩ := HA2.out.h1
 obtain ⟨_, d0, d1, g0, g1⟩ := HA2.out.h2
 go_wp2_with fail
 rw [HF.out]
 refine bodyPost_ret (v := mbV (.inl (x, n + 1))) (by simp [results, Tryz.results133, go_sem, mbV, zak, *]) rfl ⟨rfl, ?_⟩
 exact zaK HA2.out.hb (Nat.le_refl _) (by omega)
theorem zgA (s : ByteArray) (i : Nat) (hi : i + 2 <= s.size) (hs : s.size <= 140737488355328) (h : (chr s i == 91) = true) (h2 : (chr s (i + 1) == 94) = true) (x : BitVec 256) (n : Nat) (hm : zac s (s.size + 1) 0#256 (i + 2) = .inl (x, n)) (w : World) :
  Calls Tryz.prog 133 #[.string s, .int .i64 i] w fun e w' => e = .returned (mbV (zam s i)) /\ Below w.heap.size w w' := by
 have HF := (show Hid (zam s i = .inl (~~~ x, n + 1)) from (by
  show zam s i = _; unfold zam
  rw [if_neg (by omega), Int.toNat_natCast, if_pos (beq_iff_eq.1 h), if_pos (beq_iff_eq.1 h2), hm]; rfl))
 have HM := hO hm
 have HA := hO (AtR.start w)
 obtain ⟨hn1, hn2, -⟩ := zaU hm
 clear hm
 go_enter Tryz.func133, Tryz.ntmps133
 go_wp2_with fail
 refine (zan s i 91 (by omega) _).mono ?_
 rintro e w1 ⟨rfl, rfl⟩
 rw [h]
 clear h
 go_wp2_with fail
 rw [show (i : Int) + 1 = ((i + 1 : Nat) : Int) from by omega]
 refine (zan s (i + 1) 94 (by omega) _).mono ?_
 rintro e w1 ⟨rfl, rfl⟩
 rw [h2]
 clear h2
 go_wp2_with fail
 rw [show (i : Int) + 1 + 1 = ((i + 2 : Nat) : Int) from by omega]
 refine (zbA s (i + 2) hi hs _).mono ?_
 rintro e w1 ⟨rfl, hb1⟩
 rw [HM.out]
 dsimp only [mbV]
 have HA1 := hO (HA.out.below hb1 HA.out.h2.lt)
 clear hb1 HA HM
 have hl : w.heap.size + 1 < w1.heap.size := HA1.out.h2.lt
 have HA2 : Hid (AtR w ((w1.alloc (c4 x)).alloc fz)) := HA1.out.below (B := w1.heap.size) (((Below.refl _ _).alloc (Nat.le_refl _) _).alloc (by simp) _) hl
 clear HA1
 have HX : Hid (Holds ((w1.alloc (c4 x)).alloc fz) w1.heap.size x) := (Holds.new w1 x).alloc _
 go_wp2_with fail
 refine (zgU x _).mono ?_
 rintro e w2 ⟨rfl, hb2⟩
 have HA3 := hO (HA2.out.below hb2 HA2.out.h2.lt)
 have HX3 := hO (HX.out.below hb2 HX.out.lt)
 have hl2 : w1.heap.size + 1 < w2.heap.size := by have h := hb2.size; simp at h; omega
 clear hb2 HA2 HX
 obtain ⟨_, c0, c1, c2, c3, f0, f1, f2, f3⟩ := HA3.out.h1
 obtain ⟨_, d0, d1, g0, g1⟩ := HA3.out.h2
 obtain ⟨_, e0, e1, e2, e3, k0, k1, k2, k3⟩ := HX3.out
 generalize ~~~ x = y at *
 go_wp2_with fail
 rw [HF.out]
 refine bodyPost_ret (v := mbV (.inl (y, n + 1))) (by simp [results, Tryz.results133, go_sem, mbV, zak, *]) rfl ⟨rfl, ?_⟩
 exact zaK (zcw HA3.out.hb (by omega) y) (Nat.le_refl _) (by omega)
theorem zmN (s : ByteArray) (i : Int) (hs : s.size <= 140737488355328) (w : World) :
  Calls Tryz.prog 133 #[.string s, .int .i64 i] w fun e w' => e = .returned (mbV (zam s i)) /\ Below w.heap.size w w' := by
 by_cases h : i < 0 ∨ (s.size : Int) < i
 ·exact zmM s i h w
 ·obtain ⟨n, rfl⟩ : ∃ n : Nat, i = n := ⟨i.toNat, by omega⟩
  have hn : n <= s.size := by omega
  cases h1 : (chr s n == 91)
  ·exact zkH s n hn hs h1 w
  ·have hlt : n < s.size := zau (by rw [beq_iff_eq.1 h1]; omega)
   cases h2 : (chr s (n + 1) == 94)
   ·cases hm : zac s (s.size + 1) 0#256 (n + 1) with
    | inr pq =>
     obtain ⟨a, c⟩ := pq
     exact ze8 s n hlt hs h1 h2 a c hm w
    | inl p => obtain ⟨x, e⟩ := p; exact zf5 s n hlt hs h1 h2 x e hm w
   ·have hlt2 : n + 1 < s.size := zau (by rw [beq_iff_eq.1 h2]; omega)
    cases hm : zac s (s.size + 1) 0#256 (n + 2) with
    | inr pq =>
     obtain ⟨a, c⟩ := pq
     exact zf4 s n hlt2 hs h1 h2 a c hm w
    | inl p => obtain ⟨x, e⟩ := p; exact zgA s n hlt2 hs h1 h2 x e hm w
theorem zgB {s : ByteArray} {i : Int} {x : BitVec 256} {n : Nat} (h : zam s i = .inl (x, n)) : n <= s.size := by
 unfold zam at h
 split at h
 ·simp at h
 ·split at h
  ·split at h
   ·cases hm : zac s (s.size + 1) 0#256 (i.toNat + 2) with
    | inr pq =>
     obtain ⟨a', c'⟩ := pq
     rw [hm] at h; simp [zcN] at h
    | inl p => obtain ⟨y, m⟩ := p; have b := zaU hm; rw [hm] at h; simp only [zcN, Sum.inl.injEq, Prod.mk.injEq] at h; omega
   ·cases hm : zac s (s.size + 1) 0#256 (i.toNat + 1) with
    | inr pq =>
     obtain ⟨a', c'⟩ := pq
     rw [hm] at h; simp [zeN] at h
    | inl p => obtain ⟨y, m⟩ := p; have b := zaU hm; rw [hm] at h; simp only [zeN, Sum.inl.injEq, Prod.mk.injEq] at h; omega
  ·simp at h
theorem zcI {B : Nat} {w w' : World} {b : Nat} (h : Below B w w') (hb : B <= b) (y : BitVec 256) : Below B w (zn8 w' b y) :=
 (((h.setCell hb _).setCell hb _).setCell hb _).setCell hb _
structure AtF (w wr : World) (x : BitVec 256) : Prop where
 h1 : Holds wr w.heap.size 0#256
 h2 : Holds wr (w.heap.size + 1) x
 hb : Below w.heap.size w wr
theorem AtF.below {B : Nat} {w wr w1 : World} {x : BitVec 256} (h : AtF w wr x) (hb : Below B wr w1) (hB : w.heap.size + 1 < B) : AtF w w1 x :=
 ⟨h.h1.below hb (by omega), h.h2.below hb hB, h.hb.trans (hb.mono (by omega))⟩
theorem AtF.start (w : World) : AtF w ((w.alloc z4).alloc z4) 0#256 :=
 ⟨(Holds.zero w).alloc _, Holds.zero' w _, ((Below.refl _ _).alloc (Nat.le_refl _) _).alloc (by simp) _⟩
theorem AtF.put {w wr : World} {x : BitVec 256} (h : AtF w wr x) (y : BitVec 256) : AtF w (zn8 wr (w.heap.size + 1) y) y :=
 ⟨h.h1.put_other (by omega) y, h.h2.put y, zcI h.hb (by omega) y⟩
theorem AtF.drew {w wr : World} {x : BitVec 256} (h : AtF w wr x) : AtF w wr.drew x := h.below (Below.refl wr.heap.size wr).drew h.h2.lt
theorem zkI (s : ByteArray) (i : Nat) (h : i < s.size) (w : World) : (Instr.index 9 (.string s) (.int .i64 (i : Int))).run Tryz.prog w = .ok (.int .u8 (s[i].toNat : Int)) w := by
 have h0 : (0 : Int) <= (i : Int) := by omega
 have h1 : (i : Int) < (s.size : Int) := by omega
 rw [run_index_string _ _ _ _ _ Tryz.underlying9]
 simp [h0, h1]
def irV (i : Nat) : Option (Nat × Nat) -> Value
 | none => .tuple #[.int .i64 (-1), .int .i64 i]
 | some (b, n) => .tuple #[.int .i64 b, .int .i64 n]
theorem zfu {b n i : Nat} {b' n' : Int} (hb : b' = b) (hn : n' = n) : Ending.returned (.tuple #[.int .i64 b', .int .i64 n']) = .returned (irV i (some (b, n))) := by rw [hb, hn]; rfl
theorem zkJ (n : Nat) (h : ¬ (cls n).2 = 0) : (cls n).2 = 10 := by
 by_cases hc : 65 <= n /\ n <= 90
 ·rcases zdW (n + 32) with he | he
  ·rw [zhd n hc he] at h; exact absurd rfl h
  ·rw [zks n hc he]
 ·rw [zeL n hc] at h ⊢
  rcases zdW n with he | he
  ·exact absurd he h
  ·exact he
def rrV : Rd (BitVec 256 × Nat) -> Value
 | .inl (x, n) => .tuple #[sv x, .int .i64 n, .int .i64 0, .int .i64 0]
 | .inr (a, c) => .tuple #[sv 0#256, .int .i64 0, .int .i64 a, .int .i64 c]
def zpe : Prop := ∀ (s : ByteArray) (i : Nat), i <= s.size -> s.size <= 140737488355328 -> ∀ w : World, Calls Tryz.prog 89 #[.string s, .int .i64 i] w fun e w' => e = .returned (irV i (zag s i)) /\ Below w.heap.size w w'
theorem zkK (s : ByteArray) (i : Int) (h : i < 0 ∨ (s.size : Int) < i) (w : World) :
  Calls Tryz.prog 63 #[.string s, .int .i64 i] w fun e w' => e = .returned (rrV (zam s i)) /\ Below w.heap.size w w' := by
 have HF : Hid (zam s i = .inr (0, 1)) := (by show zam s i = _; unfold zam; rw [if_pos h])
 rcases h with h | h
 ·go_enter Tryz.func63, Tryz.ntmps63
  go_wp2
  rw [HF.out]
  refine bodyPost_ret (v := rrV (.inr (0, 1))) (by simp [results, Tryz.results63, go_sem, rrV, zak, *]) rfl ⟨rfl, ?_⟩
  exact zaD _ _
 ·have h0 : ¬ i < 0 := by omega
  go_enter Tryz.func63, Tryz.ntmps63
  go_wp2
  rw [HF.out]
  refine bodyPost_ret (v := rrV (.inr (0, 1))) (by simp [results, Tryz.results63, go_sem, rrV, zak, *]) rfl ⟨rfl, ?_⟩
  exact zaD _ _
theorem ziV (s : ByteArray) (i : Nat) (hi : i <= s.size) (h : (chr s i != 91) = true) (w : World) :
  Calls Tryz.prog 63 #[.string s, .int .i64 i] w fun e w' => e = .returned (rrV (zam s i)) /\ Below w.heap.size w w' := by
 have HF : Hid (zam s i = .inr (i, 6)) := (by show zam s i = _; unfold zam; rw [if_neg (by omega), if_neg (by exact bne_iff_ne.1 h)]; rfl)
 have HX : Hid (∀ w, Calls Tryz.prog 55 #[.string s, .int .i64 i] w fun e w' => e = .returned (.int .i64 (chr s i)) /\ w' = w) := fun w => za0 s i w
 generalize chr s i = c at *
 go_enter Tryz.func63, Tryz.ntmps63
 go_wp2_with fail
 refine (HX.out _).mono ?_
 rintro e w1 ⟨rfl, rfl⟩
 go_wp2_with fail
 rw [HF.out]
 refine bodyPost_ret (v := rrV (.inr (i, 6))) (by simp [results, Tryz.results63, go_sem, rrV, zak, *]) rfl ⟨rfl, ?_⟩
 exact zaD _ _
theorem zhj (HI : zpe) (s : ByteArray) (n : Nat) (hn : n < s.size) (hs : s.size <= 140737488355328) (h1 : chr s n = 91) (h2 : (chr s (n + 1) == 94) = false) (w : World) :
  Calls Tryz.prog 63 #[.string s, .int .i64 n] w fun e w' => e = .returned (rrV (zeN (zac s (s.size + 1) 0#256 (n + 1)))) /\ Below w.heap.size w w' := by
 have HIT := hO HI
 clear HI
 have HX : Hid (∀ w, Calls Tryz.prog 55 #[.string s, .int .i64 n] w fun e w' => e = .returned (.int .i64 91) /\ w' = w) := fun w => by have h := za0 s n w; rw [h1] at h; exact h
 have HY : Hid (∀ w, Calls Tryz.prog 55 #[.string s, .int .i64 ((n : Int) + 1)] w fun e w' => e = .returned (.int .i64 (chr s (n + 1))) /\ w' = w) := fun w => za0 s (n + 1) w
 have HA := hO (AtF.start w)
 generalize hR : zac s (s.size + 1) 0#256 (n + 1) = R
 have HR := hO hR
 generalize chr s (n + 1) = d at *
 clear hR h1
 go_enter Tryz.func63, Tryz.ntmps63
 go_wp2_with fail
 refine (HX.out _).mono ?_
 rintro e w1 ⟨rfl, rfl⟩
 go_wp2_with fail
 refine (HY.out _).mono ?_
 rintro e w1 ⟨rfl, rfl⟩
 go_wp2_with fail
 go_loopw [8] (fun t wr => ∃ k : Nat, ∃ f : Nat, ∃ x : BitVec 256, k <= s.size /\ t = .int .i64 k /\ Hid (s.size + 1 <= f + k) /\ Hid (zac s f x k = R) /\ Hid (AtF w wr x)) (fun t _ => s.size - (intOf t).toNat)
 case atStart => exact ⟨n + 1, s.size + 1, 0#256, by omega, by go_num, show _ <= _ by omega, HR, HA⟩
 case round =>
  obtain ⟨k, f, x, hk, rfl, hf, hr, ha⟩ := hrel
  obtain ⟨g, rfl⟩ : ∃ g, f = g + 1 := ⟨f - 1, by have h := hf.out; omega⟩
  clear HA HR HX HY h2
  have HC : Hid (∀ w, Calls Tryz.prog 55 #[.string s, .int .i64 k] w fun e w' => e = .returned (.int .i64 (chr s k)) /\ w' = w) := fun w => za0 s k w
  by_cases h93 : chr s k = 93
  ·have hr' : Hid (R = .inl (x, k)) := (hr.out.symm.trans (za7 h93))
   rw [h93] at HC
   clear hr hf h93 HIT
   have hl : w.heap.size + 1 < wr.heap.size := ha.out.h2.lt
   obtain ⟨_, c0, c1, c2, c3, f0, f1, f2, f3⟩ := ha.out.h1
   obtain ⟨_, d0, d1, d2, d3, g0, g1, g2, g3⟩ := ha.out.h2
   go_wp2_with fail
   refine (HC.out _).mono ?_
   rintro e w1 ⟨rfl, rfl⟩
   go_wp2_with fail
   rw [hr'.out]
   refine bodyPost_ret (v := rrV (.inl (x, k + 1))) (by simp [results, Tryz.results63, go_sem, rrV, zak, *]) rfl ⟨rfl, ?_⟩
   exact zcI ha.out.hb (Nat.le_refl _) x
  have e93 : (chr s k != 93) = true := bne_iff_ne.2 h93
  by_cases h37 : chr s k = 37
  ·have HM : Hid (zab s k = zaR s k) := (by show zab s k = _; unfold zab; rw [if_pos h37])
   have HD : Hid (∀ w, Calls Tryz.prog 55 #[.string s, .int .i64 ((k : Int) + 1)] w fun e w' => e = .returned (.int .i64 (chr s (k + 1))) /\ w' = w) := fun w => za0 s (k + 1) w
   have hlt : k < s.size := zau (by rw [h37]; omega)
   by_cases hcl : k + 1 < s.size /\ (cls (chr s (k + 1)).toNat).2 = 0
   ·have hm : zab s k = .inl ((cls (chr s (k + 1)).toNat).1, k + 2) := by rw [HM.out]; unfold zaR; rw [if_pos hcl]
    have hr' : Hid (zac s g (x ||| (cls (chr s (k + 1)).toNat).1) (k + 2) = R) := ((zaq h93 hm).symm.trans hr.out)
    have hf' : Hid (s.size + 1 <= g + (k + 2)) := (by have h := hf.out; show _ <= _; omega)
    have hb := zbg s (k + 1)
    have h0 : 0 <= chr s (k + 1) := by rw [zal hcl.1]; omega
    have HK : Hid (∀ w, Calls Tryz.prog 87 #[.int .i64 (chr s (k + 1))] w fun e w' => e = .returned (.tuple #[sv (cls (chr s (k + 1)).toNat).1, .int .i64 0]) /\ Below w.heap.size w w') := fun w => by
     have h := zbk (chr s (k + 1)).toNat (by omega) w
     rw [hcl.2, show (((chr s (k + 1)).toNat : Nat) : Int) = chr s (k + 1) from by omega] at h
     exact h
    have hk2 : k + 2 <= s.size := by omega
    rw [h37] at HC e93
    clear hr hf h93 HIT hcl hm HM h37 hb h0
    generalize (cls (chr s (k + 1)).toNat).1 = y at *
    generalize chr s (k + 1) = q at *
    go_wp2_with fail
    refine (HC.out _).mono ?_
    rintro e w1 ⟨rfl, rfl⟩
    go_wp2_with fail
    refine (HC.out _).mono ?_
    rintro e w1 ⟨rfl, rfl⟩
    go_wp2_with fail
    refine (HD.out _).mono ?_
    rintro e w1 ⟨rfl, rfl⟩
    go_wp2_with fail
    refine (HK.out _).mono ?_
    rintro e w2 ⟨rfl, hb2⟩
    have HA1 := hO (ha.out.below hb2 ha.out.h2.lt)
    have hl : w.heap.size + 1 < w2.heap.size := HA1.out.h2.lt
    have HA2 : Hid (AtF w (w2.alloc (c4 y)) x) := HA1.out.below (B := w2.heap.size) (zaD _ _) hl
    clear hb2 ha HA1
    obtain ⟨_, c0, c1, c2, c3, f0, f1, f2, f3⟩ := HA2.out.h2
    go_wp2_with fail
    refine (zas x y _).mono ?_
    rintro e w3 ⟨rfl, hb3⟩
    have HA3 := hO (HA2.out.below hb3 HA2.out.h2.lt)
    clear hb3 HA2 c0 c1 c2 c3 f0 f1 f2 f3
    obtain ⟨_, c0, c1, c2, c3, f0, f1, f2, f3⟩ := HA3.out.h2
    go_wp2_with fail
    go_roundw
    case rel => exact ⟨k + 2, g, x ||| y, hk2, by go_num, hf', hr', HA3.out.put (x ||| y)⟩
    case measure => simp [intOf]; omega
   ·have hm : zab s k = .inr (k, 10) := by rw [HM.out]; unfold zaR; rw [if_neg hcl]
    have hr' : Hid (R = .inr (k, 10)) := (hr.out.symm.trans (zaA h93 hm))
    have HK : Hid (∀ w, Calls Tryz.prog 87 #[.int .i64 (chr s (k + 1))] w fun e w' => (∃ y, e = .returned (.tuple #[sv y, .int .i64 10])) /\ Below w.heap.size w w') := fun w => by
     by_cases hlt1 : k + 1 < s.size
     ·have h0 : 0 <= chr s (k + 1) := by rw [zal hlt1]; omega
      have hb := zbg s (k + 1)
      have h := zbk (chr s (k + 1)).toNat (by omega) w
      rw [show (((chr s (k + 1)).toNat : Nat) : Int) = chr s (k + 1) from by omega, zkJ _ (fun q => hcl ⟨hlt1, q⟩)] at h
      refine h.mono ?_
      rintro e w' ⟨rfl, hb⟩
      exact ⟨⟨_, rfl⟩, hb⟩
     ·refine (zcx (chr s (k + 1)) w (by rw [zat hlt1]; omega)).mono ?_
      rintro e w' ⟨rfl, hb⟩
      exact ⟨⟨_, rfl⟩, hb⟩
    rw [h37] at HC e93
    clear hr hf h93 HIT hcl hm HM h37
    generalize chr s (k + 1) = q at *
    go_wp2_with fail
    refine (HC.out _).mono ?_
    rintro e w1 ⟨rfl, rfl⟩
    go_wp2_with fail
    refine (HC.out _).mono ?_
    rintro e w1 ⟨rfl, rfl⟩
    go_wp2_with fail
    refine (HD.out _).mono ?_
    rintro e w1 ⟨rfl, rfl⟩
    go_wp2_with fail
    refine (HK.out _).mono ?_
    rintro e w2 ⟨⟨y, rfl⟩, hb2⟩
    have HA1 := hO (ha.out.below hb2 ha.out.h2.lt)
    have hl : w.heap.size + 1 < w2.heap.size := HA1.out.h2.lt
    have HA2 : Hid (AtF w (w2.alloc (c4 y)) x) := HA1.out.below (B := w2.heap.size) (zaD _ _) hl
    clear hb2 ha HA1
    obtain ⟨_, c0, c1, c2, c3, f0, f1, f2, f3⟩ := HA2.out.h1
    go_wp2_with fail
    rw [hr'.out]
    refine bodyPost_ret (v := rrV (.inr ((k), 10))) (by simp [results, Tryz.results63, go_sem, rrV, zak, *]) rfl ⟨rfl, ?_⟩
    exact (((HA2.out.hb.setCell (Nat.le_refl _) _).setCell (Nat.le_refl _) _).setCell (Nat.le_refl _) _).setCell (Nat.le_refl _) _
  have e37 : (chr s k == 37) = false := bF h37
  cases hit : zag s k with
  | none =>
   have hm : zab s k = .inr (k, 6) := by unfold zab; rw [if_neg h37, hit]
   have hr' : Hid (R = .inr (k, 6)) := (hr.out.symm.trans (zaA h93 hm))
   have HK : Hid (∀ w, Calls Tryz.prog 89 #[.string s, .int .i64 k] w fun e w' => e = .returned (.tuple #[.int .i64 (-1), .int .i64 k]) /\ Below w.heap.size w w') := fun w => by have h := HIT.out s k hk hs w; rw [hit] at h; exact h
   clear hr hf h93 h37 HIT hm hit
   generalize chr s k = c at *
   go_wp2_with fail
   refine (HC.out _).mono ?_
   rintro e w1 ⟨rfl, rfl⟩
   go_wp2_with fail
   refine (HC.out _).mono ?_
   rintro e w1 ⟨rfl, rfl⟩
   go_wp2_with fail
   refine (HK.out _).mono ?_
   rintro e w2 ⟨rfl, hb2⟩
   have HA1 := hO (ha.out.below hb2 ha.out.h2.lt)
   have hl : w.heap.size + 1 < w2.heap.size := HA1.out.h2.lt
   clear hb2 ha
   obtain ⟨_, c0, c1, c2, c3, f0, f1, f2, f3⟩ := HA1.out.h1
   go_wp2_with fail
   rw [hr'.out]
   refine bodyPost_ret (v := rrV (.inr ((k), 6))) (by simp [results, Tryz.results63, go_sem, rrV, zak, *]) rfl ⟨rfl, ?_⟩
   exact (((HA1.out.hb.setCell (Nat.le_refl _) _).setCell (Nat.le_refl _) _).setCell (Nat.le_refl _) _).setCell (Nat.le_refl _) _
  | some p =>
   obtain ⟨lo, nx⟩ := p
   obtain ⟨b1, b2, b3⟩ := zaV hit
   have HK : Hid (∀ w, Calls Tryz.prog 89 #[.string s, .int .i64 k] w fun e w' => e = .returned (.tuple #[.int .i64 lo, .int .i64 nx]) /\ Below w.heap.size w w') := fun w => by have h := HIT.out s k hk hs w; rw [hit] at h; exact h
   have HN : Hid (∀ w, Calls Tryz.prog 55 #[.string s, .int .i64 nx] w fun e w' => e = .returned (.int .i64 (chr s nx)) /\ w' = w) := fun w => za0 s nx w
   have hlo0 : ¬ (lo : Int) < 0 := by omega
   by_cases h45 : chr s nx = 45
   ·have hltn : nx < s.size := zau (by rw [h45]; omega)
    rw [h45] at HN
    cases hi2 : zag s (nx + 1) with
    | none =>
     have hm : zab s k = .inr ((nx + 1), 6) := by unfold zab; rw [if_neg h37, hit]; exact (if_pos h45).trans (by rw [hi2])
     have hr' : Hid (R = .inr ((nx + 1), 6)) := (hr.out.symm.trans (zaA h93 hm))
     have HL : Hid (∀ w, Calls Tryz.prog 89 #[.string s, .int .i64 ((nx : Int) + 1)] w fun e w' => e = .returned (.tuple #[.int .i64 (-1), .int .i64 ((nx + 1 : Nat) : Int)]) /\ Below w.heap.size w w') := fun w => by have h := HIT.out s (nx + 1) (by omega) hs w; rw [hi2] at h; exact h
     clear hr hf h93 h37 HIT hm hit hi2 h45
     generalize chr s k = c at *
     go_wp2_with fail
     refine (HC.out _).mono ?_
     rintro e w1 ⟨rfl, rfl⟩
     go_wp2_with fail
     refine (HC.out _).mono ?_
     rintro e w1 ⟨rfl, rfl⟩
     go_wp2_with fail
     refine (HK.out _).mono ?_
     rintro e w2 ⟨rfl, hb2⟩
     have HA1 := hO (ha.out.below hb2 ha.out.h2.lt)
     clear hb2 ha
     go_wp2_with fail
     refine (HN.out _).mono ?_
     rintro e w3 ⟨rfl, rfl⟩
     go_wp2_with fail
     refine (HL.out _).mono ?_
     rintro e w4 ⟨rfl, hb4⟩
     have HA2 := hO (HA1.out.below hb4 HA1.out.h2.lt)
     have hl : w.heap.size + 1 < w4.heap.size := HA2.out.h2.lt
     clear hb4 HA1
     obtain ⟨_, c0, c1, c2, c3, f0, f1, f2, f3⟩ := HA2.out.h1
     go_wp2_with fail
     rw [hr'.out]
     refine bodyPost_ret (v := rrV (.inr ((nx + 1), 6))) (by simp [results, Tryz.results63, go_sem, rrV, zak, *]) rfl ⟨rfl, ?_⟩
     exact (((HA2.out.hb.setCell (Nat.le_refl _) _).setCell (Nat.le_refl _) _).setCell (Nat.le_refl _) _).setCell (Nat.le_refl _) _
    | some p2 =>
     obtain ⟨up, en⟩ := p2
     obtain ⟨b4, b5, b6⟩ := zaV hi2
     have HL : Hid (∀ w, Calls Tryz.prog 89 #[.string s, .int .i64 ((nx : Int) + 1)] w fun e w' => e = .returned (.tuple #[.int .i64 up, .int .i64 en]) /\ Below w.heap.size w w') := fun w => by have h := HIT.out s (nx + 1) (by omega) hs w; rw [hi2] at h; exact h
     have hup0 : ¬ (up : Int) < 0 := by omega
     by_cases hul : up < lo
     ·have hm : zab s k = .inr (k, 1) := by unfold zab; rw [if_neg h37, hit]; exact (if_pos h45).trans (by rw [hi2]; exact if_pos hul)
      have hr' : Hid (R = .inr (k, 1)) := (hr.out.symm.trans (zaA h93 hm))
      have hul' : (up : Int) < (lo : Int) := by omega
      clear hr hf h93 h37 HIT hm hit hi2 h45
      generalize chr s k = c at *
      go_wp2_with fail
      refine (HC.out _).mono ?_
      rintro e w1 ⟨rfl, rfl⟩
      go_wp2_with fail
      refine (HC.out _).mono ?_
      rintro e w1 ⟨rfl, rfl⟩
      go_wp2_with fail
      refine (HK.out _).mono ?_
      rintro e w2 ⟨rfl, hb2⟩
      have HA1 := hO (ha.out.below hb2 ha.out.h2.lt)
      clear hb2 ha
      go_wp2_with fail
      refine (HN.out _).mono ?_
      rintro e w3 ⟨rfl, rfl⟩
      go_wp2_with fail
      refine (HL.out _).mono ?_
      rintro e w4 ⟨rfl, hb4⟩
      have HA2 := hO (HA1.out.below hb4 HA1.out.h2.lt)
      have hl : w.heap.size + 1 < w4.heap.size := HA2.out.h2.lt
      clear hb4 HA1
      obtain ⟨_, c0, c1, c2, c3, f0, f1, f2, f3⟩ := HA2.out.h1
      go_wp2_with fail
      rw [hr'.out]
      refine bodyPost_ret (v := rrV (.inr ((k), 1))) (by simp [results, Tryz.results63, go_sem, rrV, zak, *]) rfl ⟨rfl, ?_⟩
      exact (((HA2.out.hb.setCell (Nat.le_refl _) _).setCell (Nat.le_refl _) _).setCell (Nat.le_refl _) _).setCell (Nat.le_refl _) _
     ·have hm : zab s k = .inl (spn lo up, en) := by unfold zab; rw [if_neg h37, hit]; exact (if_pos h45).trans (by rw [hi2]; exact if_neg hul)
      have hr' : Hid (zac s g (x ||| spn lo up) en = R) := ((zaq h93 hm).symm.trans hr.out)
      have hf' : Hid (s.size + 1 <= g + en) := (by have h := hf.out; show _ <= _; omega)
      have hul' : ¬ (up : Int) < (lo : Int) := by omega
      have HFT : Hid (∀ w, Calls Tryz.prog 90 #[.int .i64 lo, .int .i64 up] w fun e w' => e = .returned (sv (spn lo up)) /\ Below w.heap.size w w') := fun w => zae lo up w (by omega) (by omega) (by omega)
      clear hr hf h93 h37 HIT hm hit hi2 h45
      generalize spn (lo : Int) (up : Int) = y at *
      generalize chr s k = c at *
      go_wp2_with fail
      refine (HC.out _).mono ?_
      rintro e w1 ⟨rfl, rfl⟩
      go_wp2_with fail
      refine (HC.out _).mono ?_
      rintro e w1 ⟨rfl, rfl⟩
      go_wp2_with fail
      refine (HK.out _).mono ?_
      rintro e w2 ⟨rfl, hb2⟩
      have HA1 := hO (ha.out.below hb2 ha.out.h2.lt)
      clear hb2 ha
      go_wp2_with fail
      refine (HN.out _).mono ?_
      rintro e w3 ⟨rfl, rfl⟩
      go_wp2_with fail
      refine (HL.out _).mono ?_
      rintro e w4 ⟨rfl, hb4⟩
      have HA2 := hO (HA1.out.below hb4 HA1.out.h2.lt)
      clear hb4 HA1
      obtain ⟨l0, c0, c1, c2, c3, f0, f1, f2, f3⟩ := HA2.out.h2
      go_wp2_with fail
      go_region_with (first | (go_at_call 90; refine (HFT.out _).mono ?_; rintro e w5 ⟨rfl, hb⟩; have hA2 := (show AtF w w5 x from (by first | exact HA2.out.below hb HA2.out.h2.lt | exact HA2.out.drew.below hb HA2.out.h2.lt)); replace HA2 := (show Hid _ from hA2); clear hA2 hb c0 c1 c2 c3 f0 f1 f2 f3; obtain ⟨_, c0, c1, c2, c3, f0, f1, f2, f3⟩ := HA2.out.h2) | (go_at_call 88; refine (zas x y _).mono ?_; rintro e w6 ⟨rfl, hb⟩; have hA2 := (show AtF w w6 x from (by first | exact HA2.out.below hb HA2.out.h2.lt | exact HA2.out.drew.below hb HA2.out.h2.lt)); replace HA2 := (show Hid _ from hA2); clear hA2 hb c0 c1 c2 c3 f0 f1 f2 f3; obtain ⟨_, c0, c1, c2, c3, f0, f1, f2, f3⟩ := HA2.out.h2))
      all_goals
       go_wp2
       go_roundw
       case rel => exact ⟨en, g, x ||| y, b6, by go_num, hf', hr', HA2.out.put _⟩
       case measure => simp [intOf]; omega
   ·have hm : zab s k = .inl (spn lo lo, nx) := by unfold zab; rw [if_neg h37, hit]; exact if_neg h45
    have hr' : Hid (zac s g (x ||| spn lo lo) nx = R) := ((zaq h93 hm).symm.trans hr.out)
    have hf' : Hid (s.size + 1 <= g + nx) := (by have h := hf.out; show _ <= _; omega)
    have e45 : (chr s nx == 45) = false := bF h45
    have HFT : Hid (∀ w, Calls Tryz.prog 90 #[.int .i64 lo, .int .i64 lo] w fun e w' => e = .returned (sv (spn lo lo)) /\ Below w.heap.size w w') := fun w => zae lo lo w (by omega) (by omega) (by omega)
    clear hr hf h93 h37 HIT hm hit h45
    generalize spn (lo : Int) (lo : Int) = y at *
    generalize chr s nx = q at *
    generalize chr s k = c at *
    go_wp2_with fail
    refine (HC.out _).mono ?_
    rintro e w1 ⟨rfl, rfl⟩
    go_wp2_with fail
    refine (HC.out _).mono ?_
    rintro e w1 ⟨rfl, rfl⟩
    go_wp2_with fail
    refine (HK.out _).mono ?_
    rintro e w2 ⟨rfl, hb2⟩
    have HA2 := hO (ha.out.below hb2 ha.out.h2.lt)
    clear hb2 ha
    go_wp2_with fail
    refine (HN.out _).mono ?_
    rintro e w3 ⟨rfl, rfl⟩
    obtain ⟨l0, c0, c1, c2, c3, f0, f1, f2, f3⟩ := HA2.out.h2
    go_wp2_with fail
    go_region_with (first | (go_at_call 90; refine (HFT.out _).mono ?_; rintro e w5 ⟨rfl, hb⟩; have hA2 := (show AtF w w5 x from (by first | exact HA2.out.below hb HA2.out.h2.lt | exact HA2.out.drew.below hb HA2.out.h2.lt)); replace HA2 := (show Hid _ from hA2); clear hA2 hb c0 c1 c2 c3 f0 f1 f2 f3; obtain ⟨_, c0, c1, c2, c3, f0, f1, f2, f3⟩ := HA2.out.h2) | (go_at_call 88; refine (zas x y _).mono ?_; rintro e w6 ⟨rfl, hb⟩; have hA2 := (show AtF w w6 x from (by first | exact HA2.out.below hb HA2.out.h2.lt | exact HA2.out.drew.below hb HA2.out.h2.lt)); replace HA2 := (show Hid _ from hA2); clear hA2 hb c0 c1 c2 c3 f0 f1 f2 f3; obtain ⟨_, c0, c1, c2, c3, f0, f1, f2, f3⟩ := HA2.out.h2))
    all_goals
     go_wp2
     go_roundw
     case rel => exact ⟨nx, g, x ||| y, b3, by go_num, hf', hr', HA2.out.put _⟩
     case measure => simp [intOf]; omega
theorem ziW (HI : zpe) (s : ByteArray) (n : Nat) (hn : n + 1 < s.size) (hs : s.size <= 140737488355328) (h1 : chr s n = 91) (h2 : (chr s (n + 1) == 94) = true) (w : World) :
  Calls Tryz.prog 63 #[.string s, .int .i64 n] w fun e w' => e = .returned (rrV (zcN (zac s (s.size + 1) 0#256 (n + 2)))) /\ Below w.heap.size w w' := by
 have HIT := hO HI
 clear HI
 have HX : Hid (∀ w, Calls Tryz.prog 55 #[.string s, .int .i64 n] w fun e w' => e = .returned (.int .i64 91) /\ w' = w) := fun w => by have h := za0 s n w; rw [h1] at h; exact h
 have HY : Hid (∀ w, Calls Tryz.prog 55 #[.string s, .int .i64 ((n : Int) + 1)] w fun e w' => e = .returned (.int .i64 (chr s (n + 1))) /\ w' = w) := fun w => za0 s (n + 1) w
 have HA := hO (AtF.start w)
 generalize hR : zac s (s.size + 1) 0#256 (n + 2) = R
 have HR := hO hR
 generalize chr s (n + 1) = d at *
 clear hR h1
 go_enter Tryz.func63, Tryz.ntmps63
 go_wp2_with fail
 refine (HX.out _).mono ?_
 rintro e w1 ⟨rfl, rfl⟩
 go_wp2_with fail
 refine (HY.out _).mono ?_
 rintro e w1 ⟨rfl, rfl⟩
 go_wp2_with fail
 go_loopw [8] (fun t wr => ∃ k : Nat, ∃ f : Nat, ∃ x : BitVec 256, k <= s.size /\ t = .int .i64 k /\ Hid (s.size + 1 <= f + k) /\ Hid (zac s f x k = R) /\ Hid (AtF w wr x)) (fun t _ => s.size - (intOf t).toNat)
 case atStart => exact ⟨n + 2, s.size + 1, 0#256, by omega, by go_num, show _ <= _ by omega, HR, HA⟩
 case round =>
  obtain ⟨k, f, x, hk, rfl, hf, hr, ha⟩ := hrel
  obtain ⟨g, rfl⟩ : ∃ g, f = g + 1 := ⟨f - 1, by have h := hf.out; omega⟩
  clear HA HR HX HY h2
  have HC : Hid (∀ w, Calls Tryz.prog 55 #[.string s, .int .i64 k] w fun e w' => e = .returned (.int .i64 (chr s k)) /\ w' = w) := fun w => za0 s k w
  by_cases h93 : chr s k = 93
  ·have hr' : Hid (R = .inl (x, k)) := (hr.out.symm.trans (za7 h93))
   rw [h93] at HC
   clear hr hf h93 HIT
   have hl : w.heap.size + 1 < wr.heap.size := ha.out.h2.lt
   obtain ⟨_, c0, c1, c2, c3, f0, f1, f2, f3⟩ := ha.out.h1
   obtain ⟨_, d0, d1, d2, d3, g0, g1, g2, g3⟩ := ha.out.h2
   go_wp2_with fail
   refine (HC.out _).mono ?_
   rintro e w1 ⟨rfl, rfl⟩
   go_wp2_with fail
   refine (zhM x _).mono ?_
   rintro e w2 ⟨rfl, hb2⟩
   have HA2 := hO (ha.out.below hb2 ha.out.h2.lt)
   have hl2 : w.heap.size + 1 < w2.heap.size := HA2.out.h2.lt
   clear hb2 ha c0 c1 c2 c3 f0 f1 f2 f3 d0 d1 d2 d3 g0 g1 g2 g3
   obtain ⟨_, c0, c1, c2, c3, f0, f1, f2, f3⟩ := HA2.out.h1
   obtain ⟨_, d0, d1, d2, d3, g0, g1, g2, g3⟩ := HA2.out.h2
   have HRT : Hid (zcN R = .inl (~~~ x, k + 1)) := (by show zcN R = _; rw [hr'.out]; rfl)
   generalize ~~~ x = y at *
   go_wp2_with fail
   rw [HRT.out]
   refine bodyPost_ret (v := rrV (.inl (y, k + 1))) (by simp [results, Tryz.results63, go_sem, rrV, zak, *]) rfl ⟨rfl, ?_⟩
   exact zcI (zcI HA2.out.hb (by omega) y) (Nat.le_refl _) y
  have e93 : (chr s k != 93) = true := bne_iff_ne.2 h93
  by_cases h37 : chr s k = 37
  ·have HM : Hid (zab s k = zaR s k) := (by show zab s k = _; unfold zab; rw [if_pos h37])
   have HD : Hid (∀ w, Calls Tryz.prog 55 #[.string s, .int .i64 ((k : Int) + 1)] w fun e w' => e = .returned (.int .i64 (chr s (k + 1))) /\ w' = w) := fun w => za0 s (k + 1) w
   have hlt : k < s.size := zau (by rw [h37]; omega)
   by_cases hcl : k + 1 < s.size /\ (cls (chr s (k + 1)).toNat).2 = 0
   ·have hm : zab s k = .inl ((cls (chr s (k + 1)).toNat).1, k + 2) := by rw [HM.out]; unfold zaR; rw [if_pos hcl]
    have hr' : Hid (zac s g (x ||| (cls (chr s (k + 1)).toNat).1) (k + 2) = R) := ((zaq h93 hm).symm.trans hr.out)
    have hf' : Hid (s.size + 1 <= g + (k + 2)) := (by have h := hf.out; show _ <= _; omega)
    have hb := zbg s (k + 1)
    have h0 : 0 <= chr s (k + 1) := by rw [zal hcl.1]; omega
    have HK : Hid (∀ w, Calls Tryz.prog 87 #[.int .i64 (chr s (k + 1))] w fun e w' => e = .returned (.tuple #[sv (cls (chr s (k + 1)).toNat).1, .int .i64 0]) /\ Below w.heap.size w w') := fun w => by
     have h := zbk (chr s (k + 1)).toNat (by omega) w
     rw [hcl.2, show (((chr s (k + 1)).toNat : Nat) : Int) = chr s (k + 1) from by omega] at h
     exact h
    have hk2 : k + 2 <= s.size := by omega
    rw [h37] at HC e93
    clear hr hf h93 HIT hcl hm HM h37 hb h0
    generalize (cls (chr s (k + 1)).toNat).1 = y at *
    generalize chr s (k + 1) = q at *
    go_wp2_with fail
    refine (HC.out _).mono ?_
    rintro e w1 ⟨rfl, rfl⟩
    go_wp2_with fail
    refine (HC.out _).mono ?_
    rintro e w1 ⟨rfl, rfl⟩
    go_wp2_with fail
    refine (HD.out _).mono ?_
    rintro e w1 ⟨rfl, rfl⟩
    go_wp2_with fail
    refine (HK.out _).mono ?_
    rintro e w2 ⟨rfl, hb2⟩
    have HA1 := hO (ha.out.below hb2 ha.out.h2.lt)
    have hl : w.heap.size + 1 < w2.heap.size := HA1.out.h2.lt
    have HA2 : Hid (AtF w (w2.alloc (c4 y)) x) := HA1.out.below (B := w2.heap.size) (zaD _ _) hl
    clear hb2 ha HA1
    obtain ⟨_, c0, c1, c2, c3, f0, f1, f2, f3⟩ := HA2.out.h2
    go_wp2_with fail
    refine (zas x y _).mono ?_
    rintro e w3 ⟨rfl, hb3⟩
    have HA3 := hO (HA2.out.below hb3 HA2.out.h2.lt)
    clear hb3 HA2 c0 c1 c2 c3 f0 f1 f2 f3
    obtain ⟨_, c0, c1, c2, c3, f0, f1, f2, f3⟩ := HA3.out.h2
    go_wp2_with fail
    go_roundw
    case rel => exact ⟨k + 2, g, x ||| y, hk2, by go_num, hf', hr', HA3.out.put (x ||| y)⟩
    case measure => simp [intOf]; omega
   ·have hm : zab s k = .inr (k, 10) := by rw [HM.out]; unfold zaR; rw [if_neg hcl]
    have hr' : Hid (R = .inr (k, 10)) := (hr.out.symm.trans (zaA h93 hm))
    have HK : Hid (∀ w, Calls Tryz.prog 87 #[.int .i64 (chr s (k + 1))] w fun e w' => (∃ y, e = .returned (.tuple #[sv y, .int .i64 10])) /\ Below w.heap.size w w') := fun w => by
     by_cases hlt1 : k + 1 < s.size
     ·have h0 : 0 <= chr s (k + 1) := by rw [zal hlt1]; omega
      have hb := zbg s (k + 1)
      have h := zbk (chr s (k + 1)).toNat (by omega) w
      rw [show (((chr s (k + 1)).toNat : Nat) : Int) = chr s (k + 1) from by omega, zkJ _ (fun q => hcl ⟨hlt1, q⟩)] at h
      refine h.mono ?_
      rintro e w' ⟨rfl, hb⟩
      exact ⟨⟨_, rfl⟩, hb⟩
     ·refine (zcx (chr s (k + 1)) w (by rw [zat hlt1]; omega)).mono ?_
      rintro e w' ⟨rfl, hb⟩
      exact ⟨⟨_, rfl⟩, hb⟩
    rw [h37] at HC e93
    clear hr hf h93 HIT hcl hm HM h37
    generalize chr s (k + 1) = q at *
    go_wp2_with fail
    refine (HC.out _).mono ?_
    rintro e w1 ⟨rfl, rfl⟩
    go_wp2_with fail
    refine (HC.out _).mono ?_
    rintro e w1 ⟨rfl, rfl⟩
    go_wp2_with fail
    refine (HD.out _).mono ?_
    rintro e w1 ⟨rfl, rfl⟩
    go_wp2_with fail
    refine (HK.out _).mono ?_
    rintro e w2 ⟨⟨y, rfl⟩, hb2⟩
    have HA1 := hO (ha.out.below hb2 ha.out.h2.lt)
    have hl : w.heap.size + 1 < w2.heap.size := HA1.out.h2.lt
    have HA2 : Hid (AtF w (w2.alloc (c4 y)) x) := HA1.out.below (B := w2.heap.size) (zaD _ _) hl
    clear hb2 ha HA1
    obtain ⟨_, c0, c1, c2, c3, f0, f1, f2, f3⟩ := HA2.out.h1
    go_wp2_with fail
    rw [hr'.out]
    refine bodyPost_ret (v := rrV (.inr ((k), 10))) (by simp [results, Tryz.results63, go_sem, rrV, zak, *]) rfl ⟨rfl, ?_⟩
    exact (((HA2.out.hb.setCell (Nat.le_refl _) _).setCell (Nat.le_refl _) _).setCell (Nat.le_refl _) _).setCell (Nat.le_refl _) _
  have e37 : (chr s k == 37) = false := bF h37
  cases hit : zag s k with
  | none =>
   have hm : zab s k = .inr (k, 6) := by unfold zab; rw [if_neg h37, hit]
   have hr' : Hid (R = .inr (k, 6)) := (hr.out.symm.trans (zaA h93 hm))
   have HK : Hid (∀ w, Calls Tryz.prog 89 #[.string s, .int .i64 k] w fun e w' => e = .returned (.tuple #[.int .i64 (-1), .int .i64 k]) /\ Below w.heap.size w w') := fun w => by have h := HIT.out s k hk hs w; rw [hit] at h; exact h
   clear hr hf h93 h37 HIT hm hit
   generalize chr s k = c at *
   go_wp2_with fail
   refine (HC.out _).mono ?_
   rintro e w1 ⟨rfl, rfl⟩
   go_wp2_with fail
   refine (HC.out _).mono ?_
   rintro e w1 ⟨rfl, rfl⟩
   go_wp2_with fail
   refine (HK.out _).mono ?_
   rintro e w2 ⟨rfl, hb2⟩
   have HA1 := hO (ha.out.below hb2 ha.out.h2.lt)
   have hl : w.heap.size + 1 < w2.heap.size := HA1.out.h2.lt
   clear hb2 ha
   obtain ⟨_, c0, c1, c2, c3, f0, f1, f2, f3⟩ := HA1.out.h1
   go_wp2_with fail
   rw [hr'.out]
   refine bodyPost_ret (v := rrV (.inr ((k), 6))) (by simp [results, Tryz.results63, go_sem, rrV, zak, *]) rfl ⟨rfl, ?_⟩
   exact (((HA1.out.hb.setCell (Nat.le_refl _) _).setCell (Nat.le_refl _) _).setCell (Nat.le_refl _) _).setCell (Nat.le_refl _) _
  | some p =>
   obtain ⟨lo, nx⟩ := p
   obtain ⟨b1, b2, b3⟩ := zaV hit
   have HK : Hid (∀ w, Calls Tryz.prog 89 #[.string s, .int .i64 k] w fun e w' => e = .returned (.tuple #[.int .i64 lo, .int .i64 nx]) /\ Below w.heap.size w w') := fun w => by have h := HIT.out s k hk hs w; rw [hit] at h; exact h
   have HN : Hid (∀ w, Calls Tryz.prog 55 #[.string s, .int .i64 nx] w fun e w' => e = .returned (.int .i64 (chr s nx)) /\ w' = w) := fun w => za0 s nx w
   have hlo0 : ¬ (lo : Int) < 0 := by omega
   by_cases h45 : chr s nx = 45
   ·have hltn : nx < s.size := zau (by rw [h45]; omega)
    rw [h45] at HN
    cases hi2 : zag s (nx + 1) with
    | none =>
     have hm : zab s k = .inr ((nx + 1), 6) := by unfold zab; rw [if_neg h37, hit]; exact (if_pos h45).trans (by rw [hi2])
     have hr' : Hid (R = .inr ((nx + 1), 6)) := (hr.out.symm.trans (zaA h93 hm))
     have HL : Hid (∀ w, Calls Tryz.prog 89 #[.string s, .int .i64 ((nx : Int) + 1)] w fun e w' => e = .returned (.tuple #[.int .i64 (-1), .int .i64 ((nx + 1 : Nat) : Int)]) /\ Below w.heap.size w w') := fun w => by have h := HIT.out s (nx + 1) (by omega) hs w; rw [hi2] at h; exact h
     clear hr hf h93 h37 HIT hm hit hi2 h45
     generalize chr s k = c at *
     go_wp2_with fail
     refine (HC.out _).mono ?_
     rintro e w1 ⟨rfl, rfl⟩
     go_wp2_with fail
     refine (HC.out _).mono ?_
     rintro e w1 ⟨rfl, rfl⟩
     go_wp2_with fail
     refine (HK.out _).mono ?_
     rintro e w2 ⟨rfl, hb2⟩
     have HA1 := hO (ha.out.below hb2 ha.out.h2.lt)
     clear hb2 ha
     go_wp2_with fail
     refine (HN.out _).mono ?_
     rintro e w3 ⟨rfl, rfl⟩
     go_wp2_with fail
     refine (HL.out _).mono ?_
     rintro e w4 ⟨rfl, hb4⟩
     have HA2 := hO (HA1.out.below hb4 HA1.out.h2.lt)
     have hl : w.heap.size + 1 < w4.heap.size := HA2.out.h2.lt
     clear hb4 HA1
     obtain ⟨_, c0, c1, c2, c3, f0, f1, f2, f3⟩ := HA2.out.h1
     go_wp2_with fail
     rw [hr'.out]
     refine bodyPost_ret (v := rrV (.inr ((nx + 1), 6))) (by simp [results, Tryz.results63, go_sem, rrV, zak, *]) rfl ⟨rfl, ?_⟩
     exact (((HA2.out.hb.setCell (Nat.le_refl _) _).setCell (Nat.le_refl _) _).setCell (Nat.le_refl _) _).setCell (Nat.le_refl _) _
    | some p2 =>
     obtain ⟨up, en⟩ := p2
     obtain ⟨b4, b5, b6⟩ := zaV hi2
     have HL : Hid (∀ w, Calls Tryz.prog 89 #[.string s, .int .i64 ((nx : Int) + 1)] w fun e w' => e = .returned (.tuple #[.int .i64 up, .int .i64 en]) /\ Below w.heap.size w w') := fun w => by have h := HIT.out s (nx + 1) (by omega) hs w; rw [hi2] at h; exact h
     have hup0 : ¬ (up : Int) < 0 := by omega
     by_cases hul : up < lo
     ·have hm : zab s k = .inr (k, 1) := by unfold zab; rw [if_neg h37, hit]; exact (if_pos h45).trans (by rw [hi2]; exact if_pos hul)
      have hr' : Hid (R = .inr (k, 1)) := (hr.out.symm.trans (zaA h93 hm))
      have hul' : (up : Int) < (lo : Int) := by omega
      clear hr hf h93 h37 HIT hm hit hi2 h45
      generalize chr s k = c at *
      go_wp2_with fail
      refine (HC.out _).mono ?_
      rintro e w1 ⟨rfl, rfl⟩
      go_wp2_with fail
      refine (HC.out _).mono ?_
      rintro e w1 ⟨rfl, rfl⟩
      go_wp2_with fail
      refine (HK.out _).mono ?_
      rintro e w2 ⟨rfl, hb2⟩
      have HA1 := hO (ha.out.below hb2 ha.out.h2.lt)
      clear hb2 ha
      go_wp2_with fail
      refine (HN.out _).mono ?_
      rintro e w3 ⟨rfl, rfl⟩
      go_wp2_with fail
      refine (HL.out _).mono ?_
      rintro e w4 ⟨rfl, hb4⟩
      have HA2 := hO (HA1.out.below hb4 HA1.out.h2.lt)
      have hl : w.heap.size + 1 < w4.heap.size := HA2.out.h2.lt
      clear hb4 HA1
      obtain ⟨_, c0, c1, c2, c3, f0, f1, f2, f3⟩ := HA2.out.h1
      go_wp2_with fail
      rw [hr'.out]
      refine bodyPost_ret (v := rrV (.inr ((k), 1))) (by simp [results, Tryz.results63, go_sem, rrV, zak, *]) rfl ⟨rfl, ?_⟩
      exact (((HA2.out.hb.setCell (Nat.le_refl _) _).setCell (Nat.le_refl _) _).setCell (Nat.le_refl _) _).setCell (Nat.le_refl _) _
     ·have hm : zab s k = .inl (spn lo up, en) := by unfold zab; rw [if_neg h37, hit]; exact (if_pos h45).trans (by rw [hi2]; exact if_neg hul)
      have hr' : Hid (zac s g (x ||| spn lo up) en = R) := ((zaq h93 hm).symm.trans hr.out)
      have hf' : Hid (s.size + 1 <= g + en) := (by have h := hf.out; show _ <= _; omega)
      have hul' : ¬ (up : Int) < (lo : Int) := by omega
      have HFT : Hid (∀ w, Calls Tryz.prog 90 #[.int .i64 lo, .int .i64 up] w fun e w' => e = .returned (sv (spn lo up)) /\ Below w.heap.size w w') := fun w => zae lo up w (by omega) (by omega) (by omega)
      clear hr hf h93 h37 HIT hm hit hi2 h45
      generalize spn (lo : Int) (up : Int) = y at *
      generalize chr s k = c at *
      go_wp2_with fail
      refine (HC.out _).mono ?_
      rintro e w1 ⟨rfl, rfl⟩
      go_wp2_with fail
      refine (HC.out _).mono ?_
      rintro e w1 ⟨rfl, rfl⟩
      go_wp2_with fail
      refine (HK.out _).mono ?_
      rintro e w2 ⟨rfl, hb2⟩
      have HA1 := hO (ha.out.below hb2 ha.out.h2.lt)
      clear hb2 ha
      go_wp2_with fail
      refine (HN.out _).mono ?_
      rintro e w3 ⟨rfl, rfl⟩
      go_wp2_with fail
      refine (HL.out _).mono ?_
      rintro e w4 ⟨rfl, hb4⟩
      have HA2 := hO (HA1.out.below hb4 HA1.out.h2.lt)
      clear hb4 HA1
      obtain ⟨l0, c0, c1, c2, c3, f0, f1, f2, f3⟩ := HA2.out.h2
      go_wp2_with fail
      go_region_with (first | (go_at_call 90; refine (HFT.out _).mono ?_; rintro e w5 ⟨rfl, hb⟩; have hA2 := (show AtF w w5 x from (by first | exact HA2.out.below hb HA2.out.h2.lt | exact HA2.out.drew.below hb HA2.out.h2.lt)); replace HA2 := (show Hid _ from hA2); clear hA2 hb c0 c1 c2 c3 f0 f1 f2 f3; obtain ⟨_, c0, c1, c2, c3, f0, f1, f2, f3⟩ := HA2.out.h2) | (go_at_call 88; refine (zas x y _).mono ?_; rintro e w6 ⟨rfl, hb⟩; have hA2 := (show AtF w w6 x from (by first | exact HA2.out.below hb HA2.out.h2.lt | exact HA2.out.drew.below hb HA2.out.h2.lt)); replace HA2 := (show Hid _ from hA2); clear hA2 hb c0 c1 c2 c3 f0 f1 f2 f3; obtain ⟨_, c0, c1, c2, c3, f0, f1, f2, f3⟩ := HA2.out.h2))
      all_goals
       go_wp2
       go_roundw
       case rel => exact ⟨en, g, x ||| y, b6, by go_num, hf', hr', HA2.out.put _⟩
       case measure => simp [intOf]; omega
   ·have hm : zab s k = .inl (spn lo lo, nx) := by unfold zab; rw [if_neg h37, hit]; exact if_neg h45
    have hr' : Hid (zac s g (x ||| spn lo lo) nx = R) := ((zaq h93 hm).symm.trans hr.out)
    have hf' : Hid (s.size + 1 <= g + nx) := (by have h := hf.out; show _ <= _; omega)
    have e45 : (chr s nx == 45) = false := bF h45
    have HFT : Hid (∀ w, Calls Tryz.prog 90 #[.int .i64 lo, .int .i64 lo] w fun e w' => e = .returned (sv (spn lo lo)) /\ Below w.heap.size w w') := fun w => zae lo lo w (by omega) (by omega) (by omega)
    clear hr hf h93 h37 HIT hm hit h45
    generalize spn (lo : Int) (lo : Int) = y at *
    generalize chr s nx = q at *
    generalize chr s k = c at *
    go_wp2_with fail
    refine (HC.out _).mono ?_
    rintro e w1 ⟨rfl, rfl⟩
    go_wp2_with fail
    refine (HC.out _).mono ?_
    rintro e w1 ⟨rfl, rfl⟩
    go_wp2_with fail
    refine (HK.out _).mono ?_
    rintro e w2 ⟨rfl, hb2⟩
    have HA2 := hO (ha.out.below hb2 ha.out.h2.lt)
    clear hb2 ha
    go_wp2_with fail
    refine (HN.out _).mono ?_
    rintro e w3 ⟨rfl, rfl⟩
    obtain ⟨l0, c0, c1, c2, c3, f0, f1, f2, f3⟩ := HA2.out.h2
    go_wp2_with fail
    go_region_with (first | (go_at_call 90; refine (HFT.out _).mono ?_; rintro e w5 ⟨rfl, hb⟩; have hA2 := (show AtF w w5 x from (by first | exact HA2.out.below hb HA2.out.h2.lt | exact HA2.out.drew.below hb HA2.out.h2.lt)); replace HA2 := (show Hid _ from hA2); clear hA2 hb c0 c1 c2 c3 f0 f1 f2 f3; obtain ⟨_, c0, c1, c2, c3, f0, f1, f2, f3⟩ := HA2.out.h2) | (go_at_call 88; refine (zas x y _).mono ?_; rintro e w6 ⟨rfl, hb⟩; have hA2 := (show AtF w w6 x from (by first | exact HA2.out.below hb HA2.out.h2.lt | exact HA2.out.drew.below hb HA2.out.h2.lt)); replace HA2 := (show Hid _ from hA2); clear hA2 hb c0 c1 c2 c3 f0 f1 f2 f3; obtain ⟨_, c0, c1, c2, c3, f0, f1, f2, f3⟩ := HA2.out.h2))
    all_goals
     go_wp2
     go_roundw
     case rel => exact ⟨nx, g, x ||| y, b3, by go_num, hf', hr', HA2.out.put _⟩
     case measure => simp [intOf]; omega
theorem zhk (s : ByteArray) (i : Nat) (hi : i <= s.size) (hs : s.size <= 140737488355328) (h92 : (chr s i != 92) = true) (w : World) :
  Calls Tryz.prog 89 #[.string s, .int .i64 i] w fun e w' => e = .returned (irV i (zag s i)) /\ Below w.heap.size w w' := by
 have hn92 : ¬ chr s i = 92 := bne_iff_ne.1 h92
 have hb := zbg s i
 have HE : Hid (zag s i = if chr s i = 93 ∨ chr s i = 45 ∨ chr s i = 37 ∨ ze2 (chr s i) = false then none else some ((chr s i).toNat, i + 1)) := (by show zag s i = _; unfold zag; rw [if_neg hn92])
 have HX : Hid (∀ w, Calls Tryz.prog 55 #[.string s, .int .i64 i] w fun e w' => e = .returned (.int .i64 (chr s i)) /\ w' = w) := fun w => za0 s i w
 generalize chr s i = c at *
 obtain ⟨b0, b1⟩ := hb
 by_cases hg : c = 93 ∨ c = 45 ∨ c = 37 ∨ ze2 c = false
 ·have HF : Hid (zag s i = none) := (by show zag s i = _; rw [HE.out, if_pos hg])
  by_cases k1 : c < 32
  ·clear HE hg hn92
   go_enter Tryz.func89, Tryz.ntmps89
   go_wp2_with fail
   refine (HX.out _).mono ?_
   rintro e w' ⟨rfl, rfl⟩
   go_wp2
   go_ret2
   exact ⟨by rw [HF.out]; rfl, Below.refl _ _⟩
  by_cases k2 : 126 < c
  ·clear HE hg hn92
   go_enter Tryz.func89, Tryz.ntmps89
   go_wp2_with fail
   refine (HX.out _).mono ?_
   rintro e w' ⟨rfl, rfl⟩
   go_wp2
   go_ret2
   exact ⟨by rw [HF.out]; rfl, Below.refl _ _⟩
  have hp : ze2 c = true := by simp [ze2]; omega
  rw [hp] at hg
  cases e93 : (c == 93)
  ·cases e45 : (c == 45)
   ·have e37 : (c == 37) = true := by simp at hg e93 e45 ⊢; omega
    clear HE hg hn92 hp
    go_enter Tryz.func89, Tryz.ntmps89
    go_wp2_with fail
    refine (HX.out _).mono ?_
    rintro e w' ⟨rfl, rfl⟩
    go_wp2
    go_ret2
    exact ⟨by rw [HF.out]; rfl, Below.refl _ _⟩
   ·clear HE hg hn92 hp
    go_enter Tryz.func89, Tryz.ntmps89
    go_wp2_with fail
    refine (HX.out _).mono ?_
    rintro e w' ⟨rfl, rfl⟩
    go_wp2
    go_ret2
    exact ⟨by rw [HF.out]; rfl, Below.refl _ _⟩
  ·clear HE hg hn92 hp
   go_enter Tryz.func89, Tryz.ntmps89
   go_wp2_with fail
   refine (HX.out _).mono ?_
   rintro e w' ⟨rfl, rfl⟩
   go_wp2
   go_ret2
   exact ⟨by rw [HF.out]; rfl, Below.refl _ _⟩
 ·have HF : Hid (zag s i = some (c.toNat, i + 1)) := (by show zag s i = _; rw [HE.out, if_neg hg])
  have hp : ze2 c = true := by cases h : ze2 c with
   | true => rfl
   | false => exact absurd (.inr (.inr (.inr h))) hg
  have hp2 : 32 <= c /\ c <= 126 := by simpa [ze2] using hp
  obtain ⟨k1, k2⟩ := hp2
  have k1' : ¬ c < 32 := by omega
  have k2' : ¬ 126 < c := by omega
  have e93 : (c == 93) = false := by simp; intro h; exact hg (.inl h)
  have e45 : (c == 45) = false := by simp; intro h; exact hg (.inr (.inl h))
  have e37 : (c == 37) = false := by simp; intro h; exact hg (.inr (.inr (.inl h)))
  clear HE hg hn92 hp
  go_enter Tryz.func89, Tryz.ntmps89
  go_wp2_with fail
  refine (HX.out _).mono ?_
  rintro e w' ⟨rfl, rfl⟩
  go_wp2
  go_ret2
  exact ⟨by rw [HF.out]; exact zfu (by omega) (by omega), Below.refl _ _⟩
end Go.Proofs.YtkihfkcmcdiajaaGreatDoor
