/- DERIVED. Walks: readClass, readMember, by the program. -/
import Derived.Test.YtlcmlipldkpliabRdA
import Derived.Test.YtlcmlipldkpliabClassA
import Derived.Test.YtlcmlipldkpliabClassQ
namespace Go.Proofs.Ytlcmlipldkpliab
open Go.RowKit

/-- What a reading of members answers. -/
def mbV : Rd (BitVec 256 × Nat) → Value
  | .inl (x, n) => .tuple #[sv x, .int .i64 n, .agg #[.int .i64 0, .int .i64 0]]
  | .inr (a, c) => .tuple #[sv 0#256, .int .i64 0, .agg #[.int .i64 a, .int .i64 c]]

/-- Block b holds a fault, and may be written. -/
structure FHolds (w : World) (b : Nat) (p q : Int) : Prop where
  lt : b < w.heap.size
  c0 : w.cell? ⟨b, 0, none⟩ = some (.int .i64 p)
  c1 : w.cell? ⟨b, 1, none⟩ = some (.int .i64 q)
  f0 : w.frozen? ⟨b, 0, none⟩ = false
  f1 : w.frozen? ⟨b, 1, none⟩ = false
theorem FHolds.below {B : Nat} {w w' : World} {b : Nat} {p q : Int} (h : FHolds w b p q) (hb : Below B w w') (hB : b < B) : FHolds w' b p q :=
  ⟨Nat.lt_of_lt_of_le h.lt hb.size, (hb.cell (p := ⟨b, 0, none⟩) hB).trans h.c0, (hb.cell (p := ⟨b, 1, none⟩) hB).trans h.c1, (hb.frozen (p := ⟨b, 0, none⟩) hB).trans h.f0, (hb.frozen (p := ⟨b, 1, none⟩) hB).trans h.f1⟩
theorem FHolds.new (w : World) (p q : Int) : FHolds (w.alloc (.cells #[.int .i64 p, .int .i64 q] 34)) w.heap.size p q := by
  constructor <;> simp [go_sem]
abbrev fz : Obj := .cells #[.int .i64 0, .int .i64 0] 34
/-- The two boxes of the results: a set and a fault. -/
theorem boxes2 (w : World) : Holds ((w.alloc z4).alloc fz) w.heap.size 0#256 ∧ FHolds ((w.alloc z4).alloc fz) (w.heap.size + 1) 0 0 ∧ Below w.heap.size w ((w.alloc z4).alloc fz) := by
  refine ⟨(Holds.zero w).alloc _, ?_, ((Below.refl _ _).alloc (Nat.le_refl _) _).alloc (by simp) _⟩
  have h := FHolds.new (w.alloc z4) 0 0
  rw [show (w.alloc z4).heap.size = w.heap.size + 1 from by simp] at h
  exact h

theorem put6_below {B : Nat} {w w' : World} {b c : Nat} {x0 x1 x2 x3 y0 y1 : Value} (h : Below B w w') (hb : B ≤ b) (hc : B ≤ c) :
    Below B w ((((((w'.setCell ⟨b, 0, none⟩ x0).setCell ⟨b, 1, none⟩ x1).setCell ⟨b, 2, none⟩ x2).setCell ⟨b, 3, none⟩ x3).setCell ⟨c, 0, none⟩ y0).setCell ⟨c, 1, none⟩ y1) :=
  (((((h.setCell hb _).setCell hb _).setCell hb _).setCell hb _).setCell hc _).setCell hc _
theorem set_size (w : World) (p : Addr) (v : Value) : (w.setCell p v).heap.size = w.heap.size := by simp [World.setCell]
theorem put6_size {w' : World} {b c : Nat} {x0 x1 x2 x3 y0 y1 : Value} :
    ((((((w'.setCell ⟨b, 0, none⟩ x0).setCell ⟨b, 1, none⟩ x1).setCell ⟨b, 2, none⟩ x2).setCell ⟨b, 3, none⟩ x3).setCell ⟨c, 0, none⟩ y0).setCell ⟨c, 1, none⟩ y1).heap.size = w'.heap.size := by
  simp only [set_size]

set_option maxRecDepth 100000 in
set_option maxHeartbeats 1000000 in
theorem readClass_any (s : ByteArray) (i : Nat) (hi : i ≤ s.size) (hs : s.size ≤ 140737488355328) (w : World) :
    Calls Try.prog 45 #[.string s, .int .i64 i] w fun e w' => e = .returned (mbV (rdClass s i)) ∧ Below w.heap.size w w' := by
  obtain ⟨q1, q2, q3⟩ := boxes2 w
  have HH := (show Hid _ from q1)
  have HG := (show Hid _ from q2)
  have HR := (show Hid _ from q3)
  clear q1 q2 q3
  by_cases h : i + 1 < s.size
  · have hb : s[i + 1].toNat < 256 := s[i + 1].toNat_lt
    have HX : Hid (∀ w, Calls Try.prog 48 #[.int .u8 (s[i + 1].toNat : Int)] w fun e w' => e = .returned (.tuple #[sv (cls s[i + 1].toNat).1, .int .i64 (cls s[i + 1].toNat).2]) ∧ Below w.heap.size w w') := fun w => class_any _ hb w
    by_cases hc : (cls s[i + 1].toNat).2 = 0
    · have HF := (show Hid (rdClass s i = .inl ((cls s[i + 1].toNat).1, i + 2)) from (by show rdClass s i = _; unfold rdClass; rw [chr_in h]; rw [if_pos ⟨h, hc⟩]; rfl))
      go_enter Try.func45, Try.ntmps45
      go_wp2_with fail
      refine (HX.out _).mono ?_
      rintro e w1 ⟨rfl, hb1⟩
      rw [hc]
      have hl : w.heap.size + 1 < w1.heap.size := by have h := hb1.size; simp at h; omega
      have HR1 := (show Hid _ from HR.out.trans (hb1.mono (by simp; omega)))
      obtain ⟨_, g0, g1, k0, k1⟩ := HG.out.below hb1 (by simp)
      obtain ⟨_, c0, c1, c2, c3, f0, f1, f2, f3⟩ := HH.out.below hb1 (by simp; omega)
      clear hb1 HX hc HH HG HR
      generalize (cls s[i + 1].toNat).1 = r at *
      go_wp2
      rw [HF.out]
      refine bodyPost_ret (v := mbV (.inl (r, i + 2))) (by simp [results, Try.results45, go_sem, mbV, wd_zero, *]) rfl ⟨rfl, ?_⟩
      exact (put6_below HR1.out (Nat.le_refl _) (by omega)).alloc (by rw [put6_size]; omega) _
    · have HF := (show Hid (rdClass s i = .inr (i, 10)) from (by show rdClass s i = _; unfold rdClass; rw [chr_in h]; rw [if_neg (fun q => hc q.2)]))
      have hc' : ((cls s[i + 1].toNat).2 == 0) = false := beq_eq_false_iff_ne.2 hc
      clear hc
      go_enter Try.func45, Try.ntmps45
      go_wp2_with fail
      refine (HX.out _).mono ?_
      rintro e w1 ⟨rfl, hb1⟩
      have hl : w.heap.size + 1 < w1.heap.size := by have h := hb1.size; simp at h; omega
      have HR1 := (show Hid _ from HR.out.trans (hb1.mono (by simp; omega)))
      obtain ⟨_, g0, g1, k0, k1⟩ := HG.out.below hb1 (by simp)
      obtain ⟨_, c0, c1, c2, c3, f0, f1, f2, f3⟩ := HH.out.below hb1 (by simp; omega)
      clear hb1 HX HH HG HR
      generalize cls s[i + 1].toNat = r at *
      go_wp2
      rw [HF.out]
      refine bodyPost_ret (v := mbV (.inr (i, 10))) (by simp [results, Try.results45, go_sem, mbV, wd_zero, *]) rfl ⟨rfl, ?_⟩
      exact (put6_below HR1.out (Nat.le_refl _) (by omega)).alloc (by rw [put6_size]; omega) _
  · have HF := (show Hid (rdClass s i = .inr (i, 10)) from (by show rdClass s i = _; unfold rdClass; rw [if_neg (fun q => h q.1)]))
    have h1 : ¬ (i : Int) + 1 < (s.size : Int) := by omega
    go_enter Try.func45, Try.ntmps45
    go_wp2
    rw [HF.out]
    refine bodyPost_ret (v := mbV (.inr (i, 10))) (by simp [results, Try.results45, go_sem, mbV, wd_zero, *]) rfl ⟨rfl, ?_⟩
    exact ((Below.refl _ _).alloc (Nat.le_refl _) _).alloc (by simp) _
end Go.Proofs.Ytlcmlipldkpliab
