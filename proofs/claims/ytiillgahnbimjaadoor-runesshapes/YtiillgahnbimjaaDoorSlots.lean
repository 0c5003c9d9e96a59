/- DERIVED. A set in a block of its own; plain sets by a test of each byte. -/
import Derived.Test.YtiillgahnbimjaaDoorWithA
namespace Go.Proofs.YtiillgahnbimjaaDoor
open Go.RowKit

/-- Block b holds the set x, and may be written. -/
structure Holds (w : World) (b : Nat) (x : BitVec 256) : Prop where
  lt : b < w.heap.size
  c0 : w.cell? ⟨b, 0, none⟩ = some (.int .u64 (wd x 0))
  c1 : w.cell? ⟨b, 1, none⟩ = some (.int .u64 (wd x 1))
  c2 : w.cell? ⟨b, 2, none⟩ = some (.int .u64 (wd x 2))
  c3 : w.cell? ⟨b, 3, none⟩ = some (.int .u64 (wd x 3))
  f0 : w.frozen? ⟨b, 0, none⟩ = false
  f1 : w.frozen? ⟨b, 1, none⟩ = false
  f2 : w.frozen? ⟨b, 2, none⟩ = false
  f3 : w.frozen? ⟨b, 3, none⟩ = false

theorem Holds.below {B : Nat} {w w' : World} {b : Nat} {x : BitVec 256} (h : Holds w b x) (hb : Below B w w') (hB : b < B) : Holds w' b x :=
  ⟨Nat.lt_of_lt_of_le h.lt hb.size, (hb.cell (p := ⟨b, 0, none⟩) hB).trans h.c0, (hb.cell (p := ⟨b, 1, none⟩) hB).trans h.c1, (hb.cell (p := ⟨b, 2, none⟩) hB).trans h.c2, (hb.cell (p := ⟨b, 3, none⟩) hB).trans h.c3, (hb.frozen (p := ⟨b, 0, none⟩) hB).trans h.f0, (hb.frozen (p := ⟨b, 1, none⟩) hB).trans h.f1, (hb.frozen (p := ⟨b, 2, none⟩) hB).trans h.f2, (hb.frozen (p := ⟨b, 3, none⟩) hB).trans h.f3⟩
theorem Holds.drew {w : World} {b : Nat} {x : BitVec 256} (h : Holds w b x) : Holds w.drew b x := h.below (Below.refl w.heap.size w).drew h.lt
theorem Holds.alloc {w : World} {b : Nat} {x : BitVec 256} (h : Holds w b x) (o : Obj) : Holds (w.alloc o) b x := h.below ((Below.refl w.heap.size w).alloc (Nat.le_refl _) o) h.lt
theorem Holds.new (w : World) (x : BitVec 256) : Holds (w.alloc (.cells #[.int .u64 (wd x 0), .int .u64 (wd x 1), .int .u64 (wd x 2), .int .u64 (wd x 3)] 78)) w.heap.size x := by
  constructor <;> simp [go_sem]

theorem wd_zero (i : Nat) : wd 0#256 i = 0 := by unfold wd; simp
theorem Holds.zero (w : World) : Holds (w.alloc (.cells #[.int .u64 0, .int .u64 0, .int .u64 0, .int .u64 0] 78)) w.heap.size 0#256 := by
  have h := Holds.new w 0#256
  rw [wd_zero, wd_zero, wd_zero, wd_zero] at h
  exact h
theorem Holds.zero' (w : World) (o : Obj) : Holds ((w.alloc o).alloc (.cells #[.int .u64 0, .int .u64 0, .int .u64 0, .int .u64 0] 78)) (w.heap.size + 1) 0#256 := by
  have h := Holds.zero (w.alloc o)
  rw [show (w.alloc o).heap.size = w.heap.size + 1 from by simp] at h
  exact h

/-- The four stores of a set into block b. -/
abbrev put4 (w : World) (b : Nat) (y : BitVec 256) : World := (((w.setCell ⟨b, 0, none⟩ (.int .u64 (wd y 0))).setCell ⟨b, 1, none⟩ (.int .u64 (wd y 1))).setCell ⟨b, 2, none⟩ (.int .u64 (wd y 2))).setCell ⟨b, 3, none⟩ (.int .u64 (wd y 3))

theorem Holds.put {w : World} {b : Nat} {x : BitVec 256} (h : Holds w b x) (y : BitVec 256) : Holds (put4 w b y) b y := by
  obtain ⟨lt, c0, c1, c2, c3, f0, f1, f2, f3⟩ := h
  constructor <;> simp [go_sem, *]
theorem Holds.put_other {w : World} {b c : Nat} {x : BitVec 256} (h : Holds w c x) (hne : c ≠ b) (y : BitVec 256) : Holds (put4 w b y) c x := by
  obtain ⟨lt, c0, c1, c2, c3, f0, f1, f2, f3⟩ := h
  constructor <;> simp [go_sem, *]

/-- The set of the bytes below n that the test names. -/
def ofB (f : Nat → Bool) : Nat → BitVec 256
  | 0 => 0#256
  | n + 1 => if f n then ofB f n ||| bt n else ofB f n
theorem ofB_get (f : Nat → Bool) (n : Nat) (hn : n ≤ 256) (j : Nat) : (ofB f n).getLsbD j = (decide (j < n) && f j) := by
  induction n with
  | zero => simp [ofB]
  | succ n ih =>
    have ih := ih (by omega)
    unfold ofB
    by_cases h : f n = true
    · rw [if_pos h, BitVec.getLsbD_or, ih, bt_get _ _ (by omega)]
      by_cases e : j = n
      · subst e; simp [h]
      · have : decide (j < n + 1) = decide (j < n) := decide_eq_decide.2 (by omega)
        simp [e, this]
    · rw [if_neg h, ih]
      by_cases e : j = n
      · subst e; simp [h]
      · have : decide (j < n + 1) = decide (j < n) := decide_eq_decide.2 (by omega)
        simp [this]
theorem set_eq (x y : BitVec 256) (h : ∀ j, j < 256 → x.getLsbD j = y.getLsbD j) : x = y := BitVec.eq_of_getLsbD_eq h
theorem ofB_congr (f g : Nat → Bool) (n : Nat) (h : ∀ j, j < n → f j = g j) : ofB f n = ofB g n := by
  induction n with
  | zero => rfl
  | succ n ih => unfold ofB; rw [h n (by omega), ih (fun j hj => h j (by omega))]

/-- The bytes from lo to hi. -/
def spn (lo hi : Int) : BitVec 256 := ofB (fun j => decide (lo ≤ (j : Int))) (hi + 1).toNat
theorem spn_get (lo hi : Int) (h1 : hi ≤ 255) (j : Nat) : (spn lo hi).getLsbD j = (decide (lo ≤ (j : Int)) && decide ((j : Int) ≤ hi)) := by
  unfold spn
  rw [ofB_get _ _ (by omega)]
  have : decide (j < (hi + 1).toNat) = decide ((j : Int) ≤ hi) := decide_eq_decide.2 (by omega)
  rw [this, Bool.and_comm]
theorem spn_nil (lo : Int) (h0 : 0 ≤ lo) (h1 : lo ≤ 256) : spn lo (lo - 1) = 0#256 := by
  refine set_eq _ _ fun j hj => ?_
  rw [spn_get _ _ (by omega)]
  by_cases h : lo ≤ (j : Int)
  · have : ¬ (j : Int) ≤ lo - 1 := by omega
    simp [this]
  · simp [h]
theorem spn_snoc (lo b : Int) (h0 : 0 ≤ lo) (hb : lo ≤ b) (h1 : b ≤ 255) : spn lo b = spn lo (b - 1) ||| bt b.toNat := by
  refine set_eq _ _ fun j hj => ?_
  rw [spn_get _ _ (by omega), BitVec.getLsbD_or, spn_get _ _ (by omega), bt_get _ _ (by omega)]
  by_cases e : j = b.toNat
  · have a1 : lo ≤ (j : Int) := by omega
    have a2 : (j : Int) ≤ b := by omega
    rw [decide_eq_true a1, decide_eq_true a2, decide_eq_true e]; simp
  · have : decide ((j : Int) ≤ b) = decide ((j : Int) ≤ b - 1) := decide_eq_decide.2 (by omega)
    simp [e, this]
end Go.Proofs.YtiillgahnbimjaaDoor
