/- DERIVED. Plain mathematics and walks, laid together (2). -/
import Derived.WalkKit
import Derived.Test.YtbnihflihelimaaGreatHa01
namespace Go.Proofs.YtbnihflihelimaaGreat.T
open Go.RowKit
/-- What is known: may it match nothing, may it fail, the least length (-1: none), the greatest one (-1: no bound). -/
structure Em where
  nu : Bool
  cf : Bool
  le : Int
  mo : Int
theorem Em.ext' {a b : Em} (h1 : a.nu = b.nu) (h2 : a.cf = b.cf) (h3 : a.le = b.le) (h4 : a.mo = b.mo) : a = b := by
  obtain ⟨a1, a2, a3, a4⟩ := a
  obtain ⟨b1, b2, b3, b4⟩ := b
  simp only at h1 h2 h3 h4
  subst h1 h2 h3 h4
  rfl
def e0 : Em := ⟨false, false, 0, 0⟩
def eB : Em := ⟨false, false, -1, -1⟩
def sumE (a b : Int) : Int := if a = -1 ∨ b = -1 then -1 else a + b
def timE (n a : Int) : Int := if a = -1 then -1 else n * a
def lesE (a b : Int) : Int := if a = -1 then b else if b = -1 then a else min a b
def greE (a b : Int) : Int := if a = -1 ∨ b = -1 then -1 else max a b
def agE (a : Int) : Int := if a = 0 then 0 else -1
def leC (n : Int) : Int := min n 1048576
def moC (n : Int) : Int := if 1048576 < n then -1 else n
def emN (n : Nd) (x y : Em) (r : ByteArray → Em) : Em :=
  if n.op = 1 ∨ n.op = 17 ∨ ((n.op = 14 ∨ n.op = 16) ∧ n.nn = 0) then ⟨true, false, 0, 0⟩
  else if n.op = 9 ∨ (n.op = 15 ∧ n.nn = 0) then ⟨true, false, 0, agE x.mo⟩
  else if n.op = 2 then ⟨false, true, -1, 0⟩
  else if n.op = 3 ∨ n.op = 5 then ⟨false, true, 1, 1⟩
  else if n.op = 4 then ⟨false, true, n.tx.size, n.tx.size⟩
  else if n.op = 6 then r n.tx
  else if n.op = 7 then ⟨x.nu && y.nu, x.cf || y.cf, leC (sumE x.le y.le), moC (sumE x.mo y.mo)⟩
  else if n.op = 8 then ⟨x.nu || y.nu, x.cf && y.cf, lesE x.le y.le, greE x.mo y.mo⟩
  else if n.op = 10 then ⟨x.nu, x.cf, x.le, agE x.mo⟩
  else if n.op = 11 then ⟨true, false, 0, x.mo⟩
  else if n.op = 12 then ⟨true, x.cf, 0, 0⟩
  else if n.op = 13 then ⟨true, true, 0, 0⟩
  else if n.op = 14 then ⟨x.nu, x.cf, leC (timE n.nn x.le), moC (timE n.nn x.mo)⟩
  else if n.op = 15 then ⟨x.nu, x.cf, leC (timE n.nn x.le), agE x.mo⟩
  else if n.op = 16 then ⟨true, false, 0, moC (timE n.nn x.mo)⟩
  else x
/-- What is known hangs together. -/
structure OkE (e : Em) : Prop where
  l1 : -1 ≤ e.le
  l2 : e.le ≤ 1048576
  m1 : -1 ≤ e.mo
  m2 : e.mo ≤ 1048576
  z : e.nu = true ↔ e.le = 0
  le : 0 ≤ e.le → 0 ≤ e.mo → e.le ≤ e.mo
theorem k1 : (-1 : Int) ≤ 0 := by decide
theorem k2 : (0 : Int) ≤ 1048576 := by decide
theorem okB : OkE eB := ⟨by decide, by decide, by decide, by decide, ⟨(fun h => by cases h), (fun h => by cases h)⟩, (fun h => by cases h)⟩
theorem tim_pos {n a : Int} (h1 : 1 ≤ n) (_h2 : n ≤ 50) (ha : -1 ≤ a) : timE n a = -1 ∧ a = -1 ∨ 0 ≤ a ∧ timE n a = n * a ∧ a ≤ n * a := by
  unfold timE
  by_cases h : a = -1
  · rw [if_pos h]; exact .inl ⟨rfl, h⟩
  · rw [if_neg h]
    refine .inr ⟨by omega, rfl, ?_⟩
    have : 1 * a ≤ n * a := Int.mul_le_mul_of_nonneg_right h1 (by omega)
    omega
theorem mul_zero_iff {n a : Int} (h1 : 1 ≤ n) : n * a = 0 ↔ a = 0 := by
  constructor
  · intro h
    rcases Int.mul_eq_zero.1 h with q | q
    · omega
    · exact q
  · intro h; rw [h, Int.mul_zero]
theorem mul_mono {n a b : Int} (h1 : 1 ≤ n) (h : a ≤ b) : n * a ≤ n * b := Int.mul_le_mul_of_nonneg_left h (by omega)
/-- A node that is right by itself keeps it so. -/
theorem emN_ok {n : Nd} {x y : Em} {r : ByteArray → Em} (hn : alE n = 0) (hx : 1 ≤ arN n.op → OkE x) (hy : 2 ≤ arN n.op → OkE y) (hr : n.op = 6 → OkE (r n.tx)) : OkE (emN n x y r) := by
  have har : ¬ ar n.op < 0 ∧ fdF n = true := by
    unfold alE at hn
    by_cases h : ar n.op < 0
    · rw [if_pos h] at hn; cases hn
    · rw [if_neg h] at hn
      by_cases q : fdF n = true
      · exact ⟨h, q⟩
      · rw [if_neg q] at hn; cases hn
  obtain ⟨ha, hf⟩ := har
  have hop : 1 ≤ n.op ∧ n.op ≤ 23 := by
    unfold ar at ha
    by_cases h : n.op < 1 ∨ 23 < n.op
    · rw [if_pos h] at ha; exact absurd (by decide) ha
    · omega
  unfold fdF at hf
  rw [Bool.and_eq_true, Bool.and_eq_true] at hf
  obtain ⟨⟨ht, hu⟩, _⟩ := hf
  have hnn : (n.op = 14 ∨ n.op = 15 ∨ n.op = 16) → 0 ≤ n.nn ∧ n.nn ≤ 50 := fun h => by
    unfold nuF at hu
    rw [if_pos (by omega)] at hu
    simpa using hu
  have hx1 : n.op ≠ 7 → n.op ≠ 8 → ¬ (n.op ≤ 6 ∨ n.op = 17) → OkE x := fun h7 h8 h6 => hx (by
    unfold arN ar
    rw [if_neg (by omega), if_neg h6, if_neg (by omega)]
    decide)
  have hx2 : n.op = 7 ∨ n.op = 8 → OkE x ∧ OkE y := fun h => by
    have e : arN n.op = 2 := by
      unfold arN ar
      rw [if_neg (by omega), if_neg (by omega), if_pos h]
      rfl
    exact ⟨hx (by omega), hy (by omega)⟩
  unfold emN
  by_cases c1 : n.op = 1 ∨ n.op = 17 ∨ ((n.op = 14 ∨ n.op = 16) ∧ n.nn = 0)
  · rw [if_pos c1]; exact ⟨by decide, by decide, by decide, by decide, ⟨fun _ => rfl, fun _ => rfl⟩, fun _ _ => by decide⟩
  rw [if_neg c1]
  by_cases c2 : n.op = 9 ∨ (n.op = 15 ∧ n.nn = 0)
  · rw [if_pos c2]
    refine ⟨k1, k2, ?_, ?_, ⟨fun _ => rfl, fun _ => rfl⟩, fun _ h => h⟩
    · show -1 ≤ agE x.mo; unfold agE; split <;> omega
    · show agE x.mo ≤ _; unfold agE; split <;> omega
  rw [if_neg c2]
  by_cases c3 : n.op = 2
  · rw [if_pos c3]; exact ⟨by decide, by decide, by decide, by decide, ⟨(fun h => by cases h), (fun h => by cases h)⟩, (fun h => by cases h)⟩
  rw [if_neg c3]
  by_cases c4 : n.op = 3 ∨ n.op = 5
  · rw [if_pos c4]; exact ⟨by decide, by decide, by decide, by decide, ⟨(fun h => by cases h), (fun h => by cases h)⟩, fun _ _ => by decide⟩
  rw [if_neg c4]
  by_cases c5 : n.op = 4
  · rw [if_pos c5]
    have h4 : 1 ≤ n.tx.size ∧ n.tx.size ≤ 255 := by
      unfold txF at ht
      rw [if_pos c5] at ht
      simpa using ht
    refine ⟨?_, ?_, ?_, ?_, ⟨(fun h => by cases h), fun h => ?_⟩, fun _ _ => Int.le_refl _⟩
    · show -1 ≤ (n.tx.size : Int); omega
    · show (n.tx.size : Int) ≤ _; omega
    · show -1 ≤ (n.tx.size : Int); omega
    · show (n.tx.size : Int) ≤ _; omega
    · have h : (n.tx.size : Int) = 0 := h
      omega
  rw [if_neg c5]
  by_cases c6 : n.op = 6
  · rw [if_pos c6]; exact hr c6
  rw [if_neg c6]
  by_cases c7 : n.op = 7
  · rw [if_pos c7]
    obtain ⟨⟨a1, a2, a3, a4, a5, a6⟩, ⟨b1, b2, b3, b4, b5, b6⟩⟩ := hx2 (.inl c7)
    refine ⟨?_, ?_, ?_, ?_, ?_, ?_⟩
    · show -1 ≤ leC (sumE x.le y.le); unfold leC sumE; split <;> omega
    · show leC (sumE x.le y.le) ≤ _; unfold leC sumE; split <;> omega
    · show -1 ≤ moC (sumE x.mo y.mo); unfold moC sumE; split <;> (try split) <;> omega
    · show moC (sumE x.mo y.mo) ≤ _; unfold moC sumE; split <;> (try split) <;> omega
    · show (x.nu && y.nu) = true ↔ leC (sumE x.le y.le) = 0
      rw [Bool.and_eq_true, a5, b5]
      unfold leC sumE
      split <;> omega
    · show 0 ≤ leC (sumE x.le y.le) → 0 ≤ moC (sumE x.mo y.mo) → _ ≤ moC (sumE x.mo y.mo)
      show 0 ≤ leC (sumE x.le y.le) → 0 ≤ moC (sumE x.mo y.mo) → leC (sumE x.le y.le) ≤ moC (sumE x.mo y.mo)
      unfold leC moC sumE
      intro p q
      by_cases u : x.le = -1 ∨ y.le = -1
      · rw [if_pos u] at p; exact absurd p (by decide)
      · rw [if_neg u] at p ⊢
        by_cases v : x.mo = -1 ∨ y.mo = -1
        · rw [if_pos v] at q; exact absurd q (by decide)
        · simp only [if_neg v] at q ⊢
          by_cases t : 1048576 < x.mo + y.mo
          · rw [if_pos t] at q; exact absurd q (by decide)
          · rw [if_neg t]
            have := a6 (by omega) (by omega)
            have := b6 (by omega) (by omega)
            omega
  rw [if_neg c7]
  by_cases c8 : n.op = 8
  · rw [if_pos c8]
    obtain ⟨⟨a1, a2, a3, a4, a5, a6⟩, ⟨b1, b2, b3, b4, b5, b6⟩⟩ := hx2 (.inr c8)
    refine ⟨?_, ?_, ?_, ?_, ?_, ?_⟩
    · show -1 ≤ lesE x.le y.le; unfold lesE; split <;> (try split) <;> omega
    · show lesE x.le y.le ≤ _; unfold lesE; split <;> (try split) <;> omega
    · show -1 ≤ greE x.mo y.mo; unfold greE; split <;> omega
    · show greE x.mo y.mo ≤ _; unfold greE; split <;> omega
    · show (x.nu || y.nu) = true ↔ lesE x.le y.le = 0
      rw [Bool.or_eq_true, a5, b5]
      unfold lesE
      split
      · omega
      · split <;> omega
    · show 0 ≤ lesE x.le y.le → 0 ≤ greE x.mo y.mo → lesE x.le y.le ≤ greE x.mo y.mo
      unfold lesE greE
      intro p q
      by_cases v : x.mo = -1 ∨ y.mo = -1
      · rw [if_pos v] at q; exact absurd q (by decide)
      · rw [if_neg v]
        by_cases u : x.le = -1
        · rw [if_pos u] at p ⊢
          have := b6 p (by omega)
          omega
        · rw [if_neg u] at p ⊢
          have := a6 (by omega) (by omega)
          by_cases t : y.le = -1
          · rw [if_pos t]; omega
          · rw [if_neg t]; omega
  rw [if_neg c8]
  by_cases c10 : n.op = 10
  · rw [if_pos c10]
    obtain ⟨a1, a2, a3, a4, a5, a6⟩ := hx1 (by omega) (by omega) (by omega)
    refine ⟨a1, a2, ?_, ?_, a5, ?_⟩
    · show -1 ≤ agE x.mo; unfold agE; split <;> omega
    · show agE x.mo ≤ _; unfold agE; split <;> omega
    · show 0 ≤ x.le → 0 ≤ agE x.mo → x.le ≤ agE x.mo
      unfold agE
      intro p q
      by_cases u : x.mo = 0
      · rw [if_pos u]; have := a6 p (by omega); omega
      · rw [if_neg u] at q; exact absurd q (by decide)
  rw [if_neg c10]
  by_cases c11 : n.op = 11
  · rw [if_pos c11]
    obtain ⟨a1, a2, a3, a4, a5, a6⟩ := hx1 (by omega) (by omega) (by omega)
    exact ⟨k1, k2, a3, a4, ⟨fun _ => rfl, fun _ => rfl⟩, fun _ h => h⟩
  rw [if_neg c11]
  by_cases c12 : n.op = 12
  · rw [if_pos c12]; exact ⟨k1, k2, k1, k2, ⟨fun _ => rfl, fun _ => rfl⟩, fun _ h => h⟩
  rw [if_neg c12]
  by_cases c13 : n.op = 13
  · rw [if_pos c13]; exact ⟨k1, k2, k1, k2, ⟨fun _ => rfl, fun _ => rfl⟩, fun _ h => h⟩
  rw [if_neg c13]
  have ag : ∀ a : Int, -1 ≤ agE a ∧ agE a ≤ 1048576 := fun a => by unfold agE; split <;> omega
  by_cases c14 : n.op = 14
  · rw [if_pos c14]
    obtain ⟨a1, a2, a3, a4, a5, a6⟩ := hx1 (by omega) (by omega) (by omega)
    have hN := hnn (by omega)
    have p1 := tim_pos (n := n.nn) (by omega) hN.2 a1
    have p2 := tim_pos (n := n.nn) (by omega) hN.2 a3
    have z1 := mul_zero_iff (n := n.nn) (a := x.le) (by omega)
    refine ⟨?_, ?_, ?_, ?_, ?_, ?_⟩
    · show -1 ≤ leC (timE n.nn x.le); unfold leC; omega
    · show leC (timE n.nn x.le) ≤ _; unfold leC; omega
    · show -1 ≤ moC (timE n.nn x.mo); unfold moC; split <;> omega
    · show moC (timE n.nn x.mo) ≤ _; unfold moC; split <;> omega
    · show x.nu = true ↔ leC (timE n.nn x.le) = 0
      rw [a5]; unfold leC; omega
    · show 0 ≤ leC (timE n.nn x.le) → 0 ≤ moC (timE n.nn x.mo) → leC (timE n.nn x.le) ≤ moC (timE n.nn x.mo)
      unfold leC moC
      intro p q
      by_cases t : 1048576 < timE n.nn x.mo
      · rw [if_pos t] at q; exact absurd q (by decide)
      · rw [if_neg t] at q ⊢
        have h := a6 (by omega) (by omega)
        have := mul_mono (n := n.nn) (by omega) h
        omega
  rw [if_neg c14]
  by_cases c15 : n.op = 15
  · rw [if_pos c15]
    obtain ⟨a1, a2, a3, a4, a5, a6⟩ := hx1 (by omega) (by omega) (by omega)
    have hN := hnn (by omega)
    have p1 := tim_pos (n := n.nn) (by omega) hN.2 a1
    have z1 := mul_zero_iff (n := n.nn) (a := x.le) (by omega)
    refine ⟨?_, ?_, (ag _).1, (ag _).2, ?_, ?_⟩
    · show -1 ≤ leC (timE n.nn x.le); unfold leC; omega
    · show leC (timE n.nn x.le) ≤ _; unfold leC; omega
    · show x.nu = true ↔ leC (timE n.nn x.le) = 0
      rw [a5]; unfold leC; omega
    · show 0 ≤ leC (timE n.nn x.le) → 0 ≤ agE x.mo → leC (timE n.nn x.le) ≤ agE x.mo
      unfold leC agE
      intro p q
      by_cases u : x.mo = 0
      · rw [if_pos u]; have := a6 (by omega) (by omega); omega
      · rw [if_neg u] at q; exact absurd q (by decide)
  rw [if_neg c15]
  by_cases c16 : n.op = 16
  · rw [if_pos c16]
    obtain ⟨a1, a2, a3, a4, a5, a6⟩ := hx1 (by omega) (by omega) (by omega)
    have hN := hnn (by omega)
    have p2 := tim_pos (n := n.nn) (by omega) hN.2 a3
    refine ⟨k1, k2, ?_, ?_, ⟨fun _ => rfl, fun _ => rfl⟩, fun _ h => h⟩
    · show -1 ≤ moC (timE n.nn x.mo); unfold moC; split <;> omega
    · show moC (timE n.nn x.mo) ≤ _; unfold moC; split <;> omega
  rw [if_neg c16]
  exact hx1 c7 c8 (by omega)
end Go.Proofs.YtbnihflihelimaaGreat.T

namespace Go.Proofs.YtbnihflihelimaaGreat.T
open Go.RowKit
/-- A length's rank: none, and no bound, stand above all numbers. -/
def rk (a : Int) : Int := if a = -1 then 1048577 else a
theorem rk_num {a : Int} (h : a ≠ -1) : rk a = a := by unfold rk; rw [if_neg h]
theorem rk_non : rk (-1) = 1048577 := rfl
theorem rk_bd {a : Int} (h1 : -1 ≤ a) (h2 : a ≤ 1048576) : 0 ≤ rk a ∧ rk a ≤ 1048577 := by unfold rk; split <;> omega
theorem rk_inj {a b : Int} (h2 : a ≤ 1048576) (g2 : b ≤ 1048576) (h : rk a = rk b) : a = b := by
  unfold rk at h
  by_cases p : a = -1
  · by_cases q : b = -1
    · rw [p, q]
    · rw [if_pos p, if_neg q] at h; omega
  · by_cases q : b = -1
    · rw [if_neg p, if_pos q] at h; omega
    · rw [if_neg p, if_neg q] at h; exact h
/-- More is known. -/
structure LeE (a b : Em) : Prop where
  n : a.nu = true → b.nu = true
  c : a.cf = true → b.cf = true
  l : rk b.le ≤ rk a.le
  m : rk b.mo ≤ rk a.mo
theorem LeE.refl (a : Em) : LeE a a := ⟨fun h => h, fun h => h, Int.le_refl _, Int.le_refl _⟩
theorem LeE.bot {a : Em} (h : OkE a) : LeE eB a := ⟨(fun q => by cases q), (fun q => by cases q), (rk_bd h.l1 h.l2).2, (rk_bd h.m1 h.m2).2⟩
/-- How much is not known yet. -/
def wE (a : Em) : Nat := (if a.nu then 0 else 1) + (if a.cf then 0 else 1) + (rk a.le).toNat + (rk a.mo).toNat
theorem wE_less {a b : Em} (ha : OkE a) (hb : OkE b) (h : LeE a b) (hne : a ≠ b) : wE b < wE a := by
  have p1 := rk_bd ha.l1 ha.l2
  have p2 := rk_bd hb.l1 hb.l2
  have p3 := rk_bd ha.m1 ha.m2
  have p4 := rk_bd hb.m1 hb.m2
  have hl := h.l
  have hm := h.m
  have hn : (if b.nu then 0 else 1 : Nat) ≤ (if a.nu then 0 else 1) := by
    cases hx : a.nu with
    | false => cases b.nu <;> simp
    | true => rw [h.n hx]; simp
  have hc : (if b.cf then 0 else 1 : Nat) ≤ (if a.cf then 0 else 1) := by
    cases hx : a.cf with
    | false => cases b.cf <;> simp
    | true => rw [h.c hx]; simp
  unfold wE
  apply Nat.lt_of_not_le
  intro hle
  apply hne
  have e1 : (if b.nu then 0 else 1 : Nat) = (if a.nu then 0 else 1) := by omega
  have e2 : (if b.cf then 0 else 1 : Nat) = (if a.cf then 0 else 1) := by omega
  refine Em.ext' ?_ ?_ (rk_inj ha.l2 hb.l2 (by omega)) (rk_inj ha.m2 hb.m2 (by omega))
  · cases hx : a.nu <;> cases hy : b.nu <;> simp [hx, hy] at e1 ⊢
  · cases hx : a.cf <;> cases hy : b.cf <;> simp [hx, hy] at e2 ⊢
theorem wE_le {a b : Em} (ha : OkE a) (hb : OkE b) (h : LeE a b) : wE b ≤ wE a := by
  by_cases e : a = b
  · rw [e]; exact Nat.le_refl _
  · exact Nat.le_of_lt (wE_less ha hb h e)
theorem ag_mono {a b : Int} (hb : -1 ≤ b) (h : rk b ≤ rk a) : rk (agE b) ≤ rk (agE a) := by
  by_cases p : a = 0
  · have e : rk a = 0 := by rw [p]; rfl
    have hb0 : b = 0 := by unfold rk at h e; split at h <;> omega
    rw [p, hb0]; exact Int.le_refl _
  · have : agE a = -1 := by unfold agE; rw [if_neg p]
    rw [this, rk_non]
    unfold agE
    split
    · decide
    · decide
theorem sumL_mono {a b c d : Int} (h1 : -1 ≤ a) (h2 : -1 ≤ b) (h3 : -1 ≤ c) (h4 : -1 ≤ d) (g1 : a ≤ 1048576) (g2 : b ≤ 1048576) (p : rk c ≤ rk a) (q : rk d ≤ rk b) : rk (leC (sumE c d)) ≤ rk (leC (sumE a b)) := by
  unfold sumE
  by_cases u : a = -1 ∨ b = -1
  · rw [if_pos u]
    show _ ≤ rk (min (-1) 1048576)
    rw [show min (-1 : Int) 1048576 = -1 from by decide, rk_non]
    unfold rk leC
    split <;> omega
  · rw [if_neg u]
    rw [rk_num (a := a) (by omega)] at p
    rw [rk_num (a := b) (by omega)] at q
    have hc : c ≠ -1 := by rintro rfl; rw [rk_non] at p; omega
    have hd : d ≠ -1 := by rintro rfl; rw [rk_non] at q; omega
    rw [if_neg (by omega)]
    rw [rk_num hc] at p
    rw [rk_num hd] at q
    unfold leC
    rw [rk_num (by omega), rk_num (by omega)]
    omega
theorem sumM_mono {a b c d : Int} (h1 : -1 ≤ a) (h2 : -1 ≤ b) (h3 : -1 ≤ c) (h4 : -1 ≤ d) (g1 : a ≤ 1048576) (g2 : b ≤ 1048576) (p : rk c ≤ rk a) (q : rk d ≤ rk b) : rk (moC (sumE c d)) ≤ rk (moC (sumE a b)) := by
  have hle : rk (moC (sumE c d)) ≤ 1048577 := by unfold rk moC; split <;> (try split) <;> omega
  unfold sumE at hle ⊢
  by_cases u : a = -1 ∨ b = -1
  · rw [if_pos u]
    show _ ≤ rk (-1)
    rw [rk_non]
    exact hle
  · rw [if_neg u]
    rw [rk_num (a := a) (by omega)] at p
    rw [rk_num (a := b) (by omega)] at q
    have hc : c ≠ -1 := by rintro rfl; rw [rk_non] at p; omega
    have hd : d ≠ -1 := by rintro rfl; rw [rk_non] at q; omega
    rw [if_neg (by omega)]
    rw [rk_num hc] at p
    rw [rk_num hd] at q
    unfold moC
    by_cases t : 1048576 < a + b
    · rw [if_pos t, rk_non]
      unfold rk
      split <;> (try split) <;> omega
    · rw [if_neg t, if_neg (by omega), rk_num (by omega), rk_num (by omega)]
      omega
theorem timL_mono {n a c : Int} (hn : 1 ≤ n) (hm : n ≤ 50) (h1 : -1 ≤ a) (h3 : -1 ≤ c) (g1 : a ≤ 1048576) (p : rk c ≤ rk a) : rk (leC (timE n c)) ≤ rk (leC (timE n a)) := by
  rcases tim_pos hn hm h1 with ⟨e, _⟩ | ⟨ha, e, _⟩
  · rw [e, show leC (-1) = -1 from by decide, rk_non]
    unfold rk leC
    split <;> omega
  · rw [rk_num (a := a) (by omega)] at p
    have hc : c ≠ -1 := by rintro rfl; rw [rk_non] at p; omega
    rcases tim_pos hn hm h3 with ⟨_, q⟩ | ⟨hc0, e2, _⟩
    · exact absurd q hc
    rw [rk_num hc] at p
    have := mul_mono hn p
    rw [e, e2]
    unfold leC
    rw [rk_num (by omega), rk_num (by omega)]
    omega
theorem timM_mono {n a c : Int} (hn : 1 ≤ n) (hm : n ≤ 50) (h1 : -1 ≤ a) (h3 : -1 ≤ c) (g1 : a ≤ 1048576) (p : rk c ≤ rk a) : rk (moC (timE n c)) ≤ rk (moC (timE n a)) := by
  have hle : rk (moC (timE n c)) ≤ 1048577 := by unfold rk moC; split <;> (try split) <;> omega
  rcases tim_pos hn hm h1 with ⟨e, _⟩ | ⟨ha, e, _⟩
  · rw [e, show moC (-1) = -1 from by decide, rk_non]
    exact hle
  · rw [rk_num (a := a) (by omega)] at p
    have hc : c ≠ -1 := by rintro rfl; rw [rk_non] at p; omega
    rcases tim_pos hn hm h3 with ⟨_, q⟩ | ⟨hc0, e2, _⟩
    · exact absurd q hc
    rw [rk_num hc] at p
    have := mul_mono hn p
    rw [e2] at hle ⊢
    rw [e]
    by_cases t : 1048576 < n * a
    · have : moC (n * a) = -1 := by unfold moC; rw [if_pos t]
      rw [this, rk_non]; exact hle
    · unfold moC
      rw [if_neg t, if_neg (by omega), rk_num (by omega), rk_num (by omega)]
      omega
theorem les_mono {a b c d : Int} (h1 : -1 ≤ a) (h2 : -1 ≤ b) (h3 : -1 ≤ c) (h4 : -1 ≤ d) (g1 : a ≤ 1048576) (g2 : b ≤ 1048576) (p : rk c ≤ rk a) (q : rk d ≤ rk b) : rk (lesE c d) ≤ rk (lesE a b) := by
  have key : ∀ x y : Int, -1 ≤ x → -1 ≤ y → rk (lesE x y) = min (rk x) (rk y) ∨ (1048576 < x ∨ 1048576 < y) := fun x y hx hy => by
    by_cases big : 1048576 < x ∨ 1048576 < y
    · exact .inr big
    refine .inl ?_
    unfold lesE rk
    by_cases u : x = -1
    · rw [if_pos u, if_pos u]
      split <;> omega
    · rw [if_neg u, if_neg u]
      by_cases v : y = -1
      · rw [if_pos v, if_pos v, if_neg u]; omega
      · rw [if_neg v, if_neg v, if_neg (by omega)]
  have hc : c ≤ 1048576 ∨ rk c ≤ 1048577 := by unfold rk at p ⊢; split at p <;> split at p <;> omega
  have hd : d ≤ 1048576 ∨ rk d ≤ 1048577 := by unfold rk at q ⊢; split at q <;> split at q <;> omega
  have ra := rk_bd h1 g1
  have rb := rk_bd h2 g2
  rcases key a b h1 h2 with e | e
  · rcases key c d h3 h4 with f | f
    · rw [e, f]; omega
    · rw [e]
      unfold lesE
      by_cases u : c = -1
      · rw [if_pos u]
        rw [u, rk_non] at p
        omega
      · rw [if_neg u]
        by_cases v : d = -1
        · rw [if_pos v]
          rw [v, rk_non] at q
          omega
        · rw [if_neg v]
          rw [rk_num u] at p
          rw [rk_num v] at q
          rw [rk_num (by omega)]
          omega
  · omega
theorem gre_mono {a b c d : Int} (h1 : -1 ≤ a) (h2 : -1 ≤ b) (h3 : -1 ≤ c) (h4 : -1 ≤ d) (g1 : a ≤ 1048576) (g2 : b ≤ 1048576) (g3 : c ≤ 1048576) (g4 : d ≤ 1048576) (p : rk c ≤ rk a) (q : rk d ≤ rk b) : rk (greE c d) ≤ rk (greE a b) := by
  unfold greE
  by_cases u : a = -1 ∨ b = -1
  · rw [if_pos u, rk_non]
    unfold rk
    split <;> (try split at *) <;> omega
  · rw [if_neg u]
    rw [rk_num (a := a) (by omega)] at p
    rw [rk_num (a := b) (by omega)] at q
    have hc : c ≠ -1 := by rintro rfl; rw [rk_non] at p; omega
    have hd : d ≠ -1 := by rintro rfl; rw [rk_non] at q; omega
    rw [if_neg (by omega)]
    rw [rk_num hc] at p
    rw [rk_num hd] at q
    rw [rk_num (by omega), rk_num (by omega)]
    omega
end Go.Proofs.YtbnihflihelimaaGreat.T

namespace Go.Proofs.YtbnihflihelimaaGreat.T
open Go.RowKit
/-- The first rule of a name. -/
def fdG : List (ByteArray × List Nd) → ByteArray → Option Nat
  | [], _ => none
  | g :: r, s => if g.1 = s then some 0 else (fdG r s).map (· + 1)
theorem fdG_of : ∀ {gs : List (ByteArray × List Nd)} {s : ByteArray} {k : Nat} {g : ByteArray × List Nd}, gs[k]? = some g → g.1 = s → (∀ j h, j < k → gs[j]? = some h → h.1 ≠ s) → fdG gs s = some k := by
  intro gs
  induction gs with
  | nil => intro s k g hg; cases hg
  | cons a r ih =>
    intro s k g hg hs hn
    cases k with
    | zero =>
      cases hg
      rw [fdG, if_pos hs]
    | succ k =>
      have h0 := hn 0 a (by omega) rfl
      rw [fdG, if_neg h0, ih (k := k) (g := g) (by simpa using hg) hs (fun j h hj hh => hn (j + 1) h (by omega) (by simpa using hh))]
      rfl
theorem fdG_some : ∀ {gs : List (ByteArray × List Nd)} {s : ByteArray} {k : Nat}, fdG gs s = some k → ∃ g, gs[k]? = some g ∧ g.1 = s ∧ ∀ j h, j < k → gs[j]? = some h → h.1 ≠ s := by
  intro gs
  induction gs with
  | nil => intro s k h; cases h
  | cons a r ih =>
    intro s k h
    rw [fdG] at h
    by_cases e : a.1 = s
    · rw [if_pos e] at h
      cases h
      exact ⟨a, rfl, e, fun j h hj => by omega⟩
    · rw [if_neg e] at h
      cases hr : fdG r s with
      | none => rw [hr] at h; cases h
      | some m =>
        rw [hr] at h
        have hk : m + 1 = k := by simpa using h
        subst hk
        obtain ⟨g, q1, q2, q3⟩ := ih hr
        refine ⟨g, by simpa using q1, q2, fun j x hj hx => ?_⟩
        cases j with
        | zero => cases hx; exact e
        | succ j => exact q3 j x (by omega) (by simpa using hx)
theorem fdG_none : ∀ {gs : List (ByteArray × List Nd)} {s : ByteArray}, fdG gs s = none ↔ ∀ g ∈ gs, g.1 ≠ s := by
  intro gs
  induction gs with
  | nil => intro s; exact ⟨(fun _ g h => by cases h), fun _ => rfl⟩
  | cons a r ih =>
    intro s
    rw [fdG]
    by_cases e : a.1 = s
    · rw [if_pos e]
      exact ⟨(fun h => by cases h), fun h => absurd e (h a List.mem_cons_self)⟩
    · rw [if_neg e, Option.map_eq_none_iff, ih]
      exact ⟨fun h g hg => by
        rcases List.mem_cons.1 hg with q | q
        · rw [q]; exact e
        · exact h g q, fun h g hg => h g (List.mem_cons_of_mem _ hg)⟩
theorem fdG_lt {gs : List (ByteArray × List Nd)} {s : ByteArray} {k : Nat} (h : fdG gs s = some k) : k < gs.length := by
  obtain ⟨g, q, _⟩ := fdG_some h
  exact (List.getElem?_eq_some_iff.1 q).1
/-- A grammar whose names are all different, and whose calls are all found. -/
structure Dn (gs : List (ByteArray × List Nd)) : Prop where
  d : ∀ (i j : Nat) (g h : ByteArray × List Nd), gs[i]? = some g → gs[j]? = some h → g.1 = h.1 → i = j
  c : ∀ g ∈ gs, ∀ n ∈ g.2, n.op = 6 → ∃ k, fdG gs n.tx = some k
/-- Which rule calls which. -/
def cG (gs : List (ByteArray × List Nd)) (i j : Nat) : Bool := match gs[i]? with
  | none => false
  | some g => g.2.any fun n => decide (n.op = 6) && decide (fdG gs n.tx = some j)
end Go.Proofs.YtbnihflihelimaaGreat.T

namespace Go.Proofs.YtbnihflihelimaaGreat.T
theorem chn_mem (L : List Nd) : ∀ (st : List Pt) (k : Nat), Chn L k st → ∀ x ∈ st, x.2.1 < k ∧ x.1 ≤ x.2.1 ∧ x = pt L x.2.1 := by
  intro st
  induction st with
  | nil => intro k _ x hx; cases hx
  | cons y r ih =>
    intro k h x hx
    obtain ⟨h1, h2, h3, h4⟩ := h
    rcases List.mem_cons.1 hx with rfl | hx
    · exact ⟨by omega, h3, h2⟩
    · obtain ⟨a, b, c⟩ := ih y.1 h4 x hx
      exact ⟨by omega, b, c⟩
structure ErOk (L : List Nd) (k : Nat) (n : Nd) : Prop where
  al : alE n = 0
  ar : arN n.op ≤ (run L k).length
  ht : (pt L k).2.2 ≤ 60
theorem er_ok {L : List Nd} {k : Nat} {n : Nd} (hn : L[k]? = some n) (h : er L k = 0) : ErOk L k n := by
  rw [er_of hn] at h
  by_cases h1 : alE n ≠ 0
  · rw [if_pos h1] at h; exact absurd h h1
  rw [if_neg h1] at h
  by_cases h2 : (run L k).length < arN n.op
  · rw [if_pos h2] at h; cases h
  rw [if_neg h2] at h
  by_cases h3 : 60 < (pt L k).2.2
  · rw [if_pos h3] at h; cases h
  exact ⟨Classical.byContradiction h1, by omega, by omega⟩
theorem run_bd {L : List Nd} {k : Nat} (hk : k ≤ L.length) (h : ∀ j, j < k → er L j = 0) : ∀ x ∈ run L k, x.1 ≤ x.2.1 ∧ x.2.1 < k ∧ x.2.2 ≤ 60 ∧ x = pt L x.2.1 := by
  intro x hx
  obtain ⟨a, b, c⟩ := chn_mem L _ k (chn_run L k hk h) x hx
  have hn : L[x.2.1]? = some L[x.2.1] := List.getElem?_eq_getElem (by omega)
  have := (er_ok hn (h _ a)).ht
  rw [← c] at this
  exact ⟨b, a, this, c⟩
theorem run_len (L : List Nd) (k : Nat) : (run L k).length ≤ k := by
  induction k with
  | zero => exact Nat.le_refl _
  | succ k ih => rw [run_succ, List.length_cons, List.length_drop]; omega
theorem arN_of {n : Nd} (h : alE n = 0) : ((arN n.op : Nat) : Int) = ar n.op := by
  have := alE_ar h
  unfold arN
  omega
/-- The top of a stack, in the order of the list. -/
theorem rev_drop {α : Type} (st : List α) (a : Nat) (h : a ≤ st.length) : st.reverse.drop (st.length - a) = (st.take a).reverse := by
  rw [List.drop_reverse]
  congr 2
  omega
theorem rev_take {α : Type} (st : List α) (a : Nat) (h : a ≤ st.length) : st.reverse.take (st.length - a) = (st.drop a).reverse := by
  rw [List.take_reverse]
  congr 2
  omega
end Go.Proofs.YtbnihflihelimaaGreat.T

namespace Go.Proofs.YtbnihflihelimaaGreat.T
open Go.RowKit
abbrev GL : Type := List (ByteArray × List Nd)
/-- Has a rule ahead this name? -/
def tw (gs : GL) (s : ByteArray) (i : Nat) : Bool := match fdG gs s with
  | some k => decide (k < i)
  | none => false
def c1G (gs : GL) : Nat → Nat → GL → (Nat × Nat) × Int
  | _, _, [] => ((0, 0), 0)
  | i, m, g :: r => if ¬ (nmB g.1 = true ∨ (g.1.size = 0 ∧ gs.length = 1)) then ((i, 0), 6) else if tw gs g.1 i = true then ((i, 0), 80) else if (ck g.2).2 ≠ 0 then ((i, (ck g.2).1), (ck g.2).2) else if 2048 < m + g.2.length then ((i, 0), 2) else c1G gs (i + 1) (m + g.2.length) r
/-- The first node that calls what is not there. -/
def unN (gs : GL) : Nat → List Nd → Option Nat
  | _, [] => none
  | k, n :: r => if n.op = 6 ∧ fdG gs n.tx = none then some k else unN gs (k + 1) r
def unG (gs : GL) : Nat → GL → (Nat × Nat) × Int
  | _, [] => ((0, 0), 0)
  | i, g :: r => match unN gs 0 g.2 with
    | some k => ((i, k), 81)
    | none => unG gs (i + 1) r
/-- What Check answers of a grammar. -/
def ckG (gs : GL) : (Nat × Nat) × Int := if gs.length = 0 then ((0, 0), 3) else if 200 < gs.length then ((0, 0), 2) else if (c1G gs 0 0 gs).2 ≠ 0 then c1G gs 0 0 gs else unG gs 0 gs
theorem unN_none {gs : GL} : ∀ (l : List Nd) (k : Nat), unN gs k l = none ↔ ∀ n ∈ l, n.op = 6 → ∃ j, fdG gs n.tx = some j := by
  intro l
  induction l with
  | nil => intro k; exact ⟨(fun _ n h => by cases h), fun _ => rfl⟩
  | cons a r ih =>
    intro k
    rw [unN]
    by_cases h : a.op = 6 ∧ fdG gs a.tx = none
    · rw [if_pos h]
      refine ⟨(fun q => by cases q), fun q => ?_⟩
      obtain ⟨j, hj⟩ := q a List.mem_cons_self h.1
      rw [h.2] at hj
      cases hj
    · rw [if_neg h, ih]
      refine ⟨fun q n hn h6 => ?_, fun q n hn h6 => q n (List.mem_cons_of_mem _ hn) h6⟩
      rcases List.mem_cons.1 hn with e | e
      · subst e
        cases hf : fdG gs n.tx with
        | none => exact absurd ⟨h6, hf⟩ h
        | some j => exact ⟨j, rfl⟩
      · exact q n e h6
theorem unG_ok {gs : GL} : ∀ (l : GL) (i : Nat), (unG gs i l).2 = 0 ↔ ∀ g ∈ l, ∀ n ∈ g.2, n.op = 6 → ∃ j, fdG gs n.tx = some j := by
  intro l
  induction l with
  | nil => intro i; exact ⟨(fun _ g h => by cases h), fun _ => rfl⟩
  | cons a r ih =>
    intro i
    rw [unG]
    cases h : unN gs 0 a.2 with
    | some k =>
      refine ⟨(fun q => by cases q), fun q => ?_⟩
      have := (unN_none a.2 0).2 (q a List.mem_cons_self)
      rw [h] at this
      cases this
    | none =>
      show (unG gs (i + 1) r).2 = 0 ↔ _
      rw [ih]
      have h0 := (unN_none a.2 0).1 h
      refine ⟨fun q g hg => ?_, fun q g hg => q g (List.mem_cons_of_mem _ hg)⟩
      rcases List.mem_cons.1 hg with e | e
      · rw [e]; exact h0
      · exact q g e
theorem c1G_ok {gs : GL} : ∀ (l : GL) (i m : Nat), m ≤ 2048 → ((c1G gs i m l).2 = 0 ↔ (∀ (k : Nat) g, l[k]? = some g → (nmB g.1 = true ∨ (g.1.size = 0 ∧ gs.length = 1)) ∧ tw gs g.1 (i + k) = false ∧ (ck g.2).2 = 0) ∧ m + (l.map fun g => g.2.length).sum ≤ 2048) := by
  intro l
  induction l with
  | nil => intro i m hm; exact ⟨fun _ => ⟨(fun k g h => by cases h), hm⟩, fun _ => rfl⟩
  | cons a r ih =>
    intro i m hm
    rw [c1G]
    by_cases h1 : nmB a.1 = true ∨ (a.1.size = 0 ∧ gs.length = 1)
    · rw [if_neg (fun q => q h1)]
      by_cases h2 : tw gs a.1 i = true
      · rw [if_pos h2]
        refine ⟨(fun q => by cases q), fun q => ?_⟩
        have := (q.1 0 a rfl).2.1
        rw [Nat.add_zero, h2] at this
        cases this
      · rw [if_neg h2]
        by_cases h3 : (ck a.2).2 = 0
        · rw [if_neg (fun q => q h3)]
          by_cases h4 : 2048 < m + a.2.length
          · rw [if_pos h4]
            refine ⟨(fun q => by cases q), fun q => ?_⟩
            have := q.2
            rw [List.map_cons, List.sum_cons] at this
            omega
          · rw [if_neg h4, ih (i + 1) (m + a.2.length) (by omega), List.map_cons, List.sum_cons]
            refine ⟨fun q => ⟨fun k g hg => ?_, by omega⟩, fun q => ⟨fun k g hg => ?_, by omega⟩⟩
            · cases k with
              | zero =>
                cases hg
                exact ⟨h1, by rw [Nat.add_zero]; exact Bool.eq_false_iff.2 h2, h3⟩
              | succ k =>
                have := q.1 k g (by simpa using hg)
                rw [show i + 1 + k = i + (k + 1) from by omega] at this
                exact this
            · have := q.1 (k + 1) g (by simpa using hg)
              rw [show i + 1 + k = i + (k + 1) from by omega]
              exact this
        · rw [if_pos h3]
          refine ⟨fun q => absurd q h3, fun q => absurd (q.1 0 a rfl).2.2 h3⟩
    · rw [if_pos h1]
      exact ⟨(fun q => by cases q), fun q => absurd (q.1 0 a rfl).1 h1⟩
/-- A right grammar. -/
structure RtG (gs : GL) : Prop where
  n1 : 1 ≤ gs.length
  n2 : gs.length ≤ 200
  nm : ∀ g ∈ gs, nmB g.1 = true ∨ (g.1.size = 0 ∧ gs.length = 1)
  ck : ∀ g ∈ gs, (ck g.2).2 = 0
  sm : (gs.map fun g => g.2.length).sum ≤ 2048
  dn : Dn gs
theorem tw_iff {gs : GL} : (∀ (k : Nat) g, gs[k]? = some g → tw gs g.1 k = false) ↔ ∀ (i j : Nat) (g h : ByteArray × List Nd), gs[i]? = some g → gs[j]? = some h → g.1 = h.1 → i = j := by
  have hf : ∀ (k : Nat) g, gs[k]? = some g → ∃ j, fdG gs g.1 = some j ∧ j ≤ k := fun k g hg => by
    cases h : fdG gs g.1 with
    | none => exact absurd rfl (fdG_none.1 h g (List.mem_of_getElem? hg))
    | some j =>
      refine ⟨j, rfl, ?_⟩
      obtain ⟨_, _, _, q⟩ := fdG_some h
      apply Nat.le_of_not_lt
      intro hlt
      exact q k g hlt hg rfl
  constructor
  · intro h i j g x hg hx e
    have key : ∀ (k : Nat) y, gs[k]? = some y → fdG gs y.1 = some k := fun k y hy => by
      obtain ⟨m, h1, h2⟩ := hf k y hy
      have := h k y hy
      unfold tw at this
      rw [h1] at this
      have : ¬ m < k := by simpa using this
      rw [h1, show m = k from by omega]
    have a := key i g hg
    have b := key j x hx
    rw [e, b] at a
    cases a
    rfl
  · intro h k g hg
    obtain ⟨j, h1, h2⟩ := hf k g hg
    unfold tw
    rw [h1]
    obtain ⟨y, y1, y2, _⟩ := fdG_some h1
    have := h j k y g y1 hg y2
    subst this
    simp
theorem ckG_ok {gs : GL} : (ckG gs).2 = 0 ↔ RtG gs := by
  unfold ckG
  by_cases h0 : gs.length = 0
  · rw [if_pos h0]
    exact ⟨(fun q => by cases q), fun q => absurd h0 (by have := q.n1; omega)⟩
  rw [if_neg h0]
  by_cases h1 : 200 < gs.length
  · rw [if_pos h1]
    exact ⟨(fun q => by cases q), fun q => absurd h1 (by have := q.n2; omega)⟩
  rw [if_neg h1]
  have hc := c1G_ok (gs := gs) gs 0 0 (by omega)
  by_cases h2 : (c1G gs 0 0 gs).2 = 0
  · rw [if_neg (fun q => q h2), unG_ok]
    obtain ⟨q1, q2⟩ := hc.1 h2
    refine ⟨fun q => ⟨by omega, by omega, fun g hg => ?_, fun g hg => ?_, by omega, tw_iff.1 fun k g hg => ?_, q⟩, fun q => q.dn.c⟩
    · obtain ⟨k, hk⟩ := List.getElem?_of_mem hg
      exact (q1 k g hk).1
    · obtain ⟨k, hk⟩ := List.getElem?_of_mem hg
      exact (q1 k g hk).2.2
    · have := (q1 k g hg).2.1
      rw [Nat.zero_add] at this
      exact this
  · rw [if_pos h2]
    refine ⟨fun q => absurd q h2, fun q => absurd (hc.2 ⟨fun k g hg => ⟨q.nm g (List.mem_of_getElem? hg), ?_, q.ck g (List.mem_of_getElem? hg)⟩, by have := q.sm; omega⟩) h2⟩
    rw [Nat.zero_add]
    exact tw_iff.2 q.dn.d k g hg
theorem al_of {L : List Nd} (h : (ck L).2 = 0) : ∀ n ∈ L, alE n = 0 := fun n hn => by
  obtain ⟨k, hk⟩ := List.getElem?_of_mem hn
  exact (er_ok hk ((rt_of h).each k (List.getElem?_eq_some_iff.1 hk).1)).al
end Go.Proofs.YtbnihflihelimaaGreat.T

namespace Go.Proofs.YtbnihflihelimaaGreat.T
open Go.RowKit
theorem emN_mono {n : Nd} {x y x' y' : Em} {r r' : ByteArray → Em} (hn : alE n = 0) (hx : 1 ≤ arN n.op → OkE x ∧ OkE x' ∧ LeE x x') (hy : 2 ≤ arN n.op → OkE y ∧ OkE y' ∧ LeE y y') (hr : n.op = 6 → LeE (r n.tx) (r' n.tx)) : LeE (emN n x y r) (emN n x' y' r') := by
  have har : ¬ ar n.op < 0 ∧ fdF n = true := by
    unfold alE at hn
    by_cases h : ar n.op < 0
    · rw [if_pos h] at hn; cases hn
    · rw [if_neg h] at hn
      by_cases q : fdF n = true
      · exact ⟨h, q⟩
      · rw [if_neg q] at hn; cases hn
  obtain ⟨ha, hf⟩ := har
  have hop : 1 ≤ n.op ∧ n.op ≤ 23 := by
    unfold ar at ha
    by_cases h : n.op < 1 ∨ 23 < n.op
    · rw [if_pos h] at ha; exact absurd (by decide) ha
    · omega
  unfold fdF at hf
  rw [Bool.and_eq_true, Bool.and_eq_true] at hf
  obtain ⟨⟨_, hu⟩, _⟩ := hf
  have hnn : (n.op = 14 ∨ n.op = 15 ∨ n.op = 16) → 0 ≤ n.nn ∧ n.nn ≤ 50 := fun h => by
    unfold nuF at hu
    rw [if_pos (by omega)] at hu
    simpa using hu
  have hx1 : n.op ≠ 7 → n.op ≠ 8 → ¬ (n.op ≤ 6 ∨ n.op = 17) → OkE x ∧ OkE x' ∧ LeE x x' := fun h7 h8 h6 => hx (by
    unfold arN ar
    rw [if_neg (by omega), if_neg h6, if_neg (by omega)]
    decide)
  have hx2 : n.op = 7 ∨ n.op = 8 → (OkE x ∧ OkE x' ∧ LeE x x') ∧ (OkE y ∧ OkE y' ∧ LeE y y') := fun h => by
    have e : arN n.op = 2 := by
      unfold arN ar
      rw [if_neg (by omega), if_neg (by omega), if_pos h]
      rfl
    exact ⟨hx (by omega), hy (by omega)⟩
  unfold emN
  by_cases c1 : n.op = 1 ∨ n.op = 17 ∨ ((n.op = 14 ∨ n.op = 16) ∧ n.nn = 0)
  · rw [if_pos c1, if_pos c1]; exact LeE.refl _
  rw [if_neg c1, if_neg c1]
  by_cases c2 : n.op = 9 ∨ (n.op = 15 ∧ n.nn = 0)
  · rw [if_pos c2, if_pos c2]
    obtain ⟨a, b, l⟩ := hx1 (by omega) (by omega) (by omega)
    exact ⟨fun h => h, fun h => h, Int.le_refl _, ag_mono b.m1 l.m⟩
  rw [if_neg c2, if_neg c2]
  by_cases c3 : n.op = 2
  · rw [if_pos c3, if_pos c3]; exact LeE.refl _
  rw [if_neg c3, if_neg c3]
  by_cases c4 : n.op = 3 ∨ n.op = 5
  · rw [if_pos c4, if_pos c4]; exact LeE.refl _
  rw [if_neg c4, if_neg c4]
  by_cases c5 : n.op = 4
  · rw [if_pos c5, if_pos c5]; exact LeE.refl _
  rw [if_neg c5, if_neg c5]
  by_cases c6 : n.op = 6
  · rw [if_pos c6, if_pos c6]; exact hr c6
  rw [if_neg c6, if_neg c6]
  by_cases c7 : n.op = 7
  · rw [if_pos c7, if_pos c7]
    obtain ⟨⟨a, b, l⟩, ⟨c, d, m⟩⟩ := hx2 (.inl c7)
    refine ⟨fun h => ?_, fun h => ?_, sumL_mono a.l1 c.l1 b.l1 d.l1 a.l2 c.l2 l.l m.l, sumM_mono a.m1 c.m1 b.m1 d.m1 a.m2 c.m2 l.m m.m⟩
    · have h : (x.nu && y.nu) = true := h
      rw [Bool.and_eq_true] at h
      show (x'.nu && y'.nu) = true
      rw [l.n h.1, m.n h.2]; rfl
    · have h : (x.cf || y.cf) = true := h
      rw [Bool.or_eq_true] at h
      show (x'.cf || y'.cf) = true
      rcases h with h | h
      · rw [l.c h]; rfl
      · rw [m.c h, Bool.or_true]
  rw [if_neg c7, if_neg c7]
  by_cases c8 : n.op = 8
  · rw [if_pos c8, if_pos c8]
    obtain ⟨⟨a, b, l⟩, ⟨c, d, m⟩⟩ := hx2 (.inr c8)
    refine ⟨fun h => ?_, fun h => ?_, les_mono a.l1 c.l1 b.l1 d.l1 a.l2 c.l2 l.l m.l, gre_mono a.m1 c.m1 b.m1 d.m1 a.m2 c.m2 b.m2 d.m2 l.m m.m⟩
    · have h : (x.nu || y.nu) = true := h
      rw [Bool.or_eq_true] at h
      show (x'.nu || y'.nu) = true
      rcases h with h | h
      · rw [l.n h]; rfl
      · rw [m.n h, Bool.or_true]
    · have h : (x.cf && y.cf) = true := h
      rw [Bool.and_eq_true] at h
      show (x'.cf && y'.cf) = true
      rw [l.c h.1, m.c h.2]; rfl
  rw [if_neg c8, if_neg c8]
  obtain ⟨a, b, l⟩ := hx1 c7 c8 (by omega)
  by_cases c10 : n.op = 10
  · rw [if_pos c10, if_pos c10]; exact ⟨l.n, l.c, l.l, ag_mono b.m1 l.m⟩
  rw [if_neg c10, if_neg c10]
  by_cases c11 : n.op = 11
  · rw [if_pos c11, if_pos c11]; exact ⟨fun h => h, fun h => h, Int.le_refl _, l.m⟩
  rw [if_neg c11, if_neg c11]
  by_cases c12 : n.op = 12
  · rw [if_pos c12, if_pos c12]; exact ⟨fun h => h, l.c, Int.le_refl _, Int.le_refl _⟩
  rw [if_neg c12, if_neg c12]
  by_cases c13 : n.op = 13
  · rw [if_pos c13, if_pos c13]; exact LeE.refl _
  rw [if_neg c13, if_neg c13]
  by_cases c14 : n.op = 14
  · rw [if_pos c14, if_pos c14]
    have hN := hnn (by omega)
    exact ⟨l.n, l.c, timL_mono (by omega) hN.2 a.l1 b.l1 a.l2 l.l, timM_mono (by omega) hN.2 a.m1 b.m1 a.m2 l.m⟩
  rw [if_neg c14, if_neg c14]
  by_cases c15 : n.op = 15
  · rw [if_pos c15, if_pos c15]
    have hN := hnn (by omega)
    exact ⟨l.n, l.c, timL_mono (by omega) hN.2 a.l1 b.l1 a.l2 l.l, ag_mono b.m1 l.m⟩
  rw [if_neg c15, if_neg c15]
  by_cases c16 : n.op = 16
  · rw [if_pos c16, if_pos c16]
    have hN := hnn (by omega)
    exact ⟨fun h => h, fun h => h, Int.le_refl _, timM_mono (by omega) hN.2 a.m1 b.m1 a.m2 l.m⟩
  rw [if_neg c16, if_neg c16]
  exact l
/-- What is known of a part that was gone through. -/
def kE (l : List Em) (ks : List Nat) (i : Nat) : Em := match ks[i]? with
  | none => e0
  | some j => (l[j]?).getD e0
/-- What is known of the first nodes; kd: the last nodes of each one's parts. -/
def emL (kd : Nat → List Nat) (r : ByteArray → Em) (L : List Nd) : Nat → List Em
  | 0 => []
  | k + 1 => match L[k]? with
    | none => emL kd r L k
    | some n => emL kd r L k ++ [emN n (kE (emL kd r L k) (kd k) 0) (kE (emL kd r L k) (kd k) 1) r]
theorem emL_succ {kd : Nat → List Nat} {r : ByteArray → Em} {L : List Nd} {k : Nat} {n : Nd} (h : L[k]? = some n) : emL kd r L (k + 1) = emL kd r L k ++ [emN n (kE (emL kd r L k) (kd k) 0) (kE (emL kd r L k) (kd k) 1) r] := by rw [emL, h]
theorem emL_len {kd : Nat → List Nat} {r : ByteArray → Em} {L : List Nd} : ∀ k, k ≤ L.length → (emL kd r L k).length = k := by
  intro k
  induction k with
  | zero => intro _; rfl
  | succ k ih =>
    intro h
    rw [emL_succ (List.getElem?_eq_getElem (by omega)), List.length_append, ih (by omega)]
    rfl
/-- The parts of right patterns lie ahead. -/
structure Kds (kd : Nat → List Nat) (L : List Nd) : Prop where
  n : ∀ (k : Nat) n, L[k]? = some n → (kd k).length = arN n.op
  lt : ∀ (k j : Nat), k < L.length → j ∈ kd k → j < k
theorem kE_at {kd : Nat → List Nat} {r : ByteArray → Em} {L : List Nd} (hk : Kds kd L) {k i : Nat} {n : Nd} (hn : L[k]? = some n) (hi : i < arN n.op) : ∃ j, j < k ∧ (kd k)[i]? = some j ∧ (emL kd r L k)[j]? = some (kE (emL kd r L k) (kd k) i) := by
  have hlt := (List.getElem?_eq_some_iff.1 hn).1
  have hl := hk.n k n hn
  have e : (kd k)[i]? = some (kd k)[i] := List.getElem?_eq_getElem (by omega)
  have hj := hk.lt k _ hlt (List.getElem_mem (show i < (kd k).length by omega))
  refine ⟨_, hj, e, ?_⟩
  have hlen := emL_len (kd := kd) (r := r) (L := L) k (by omega)
  have e2 : (emL kd r L k)[(kd k)[i]]? = some _ := List.getElem?_eq_getElem (by omega)
  unfold kE
  rw [e]
  show _ = some (((emL kd r L k)[(kd k)[i]]?).getD e0)
  rw [e2]
  rfl
theorem emL_ok {kd : Nat → List Nat} {r : ByteArray → Em} {L : List Nd} (hk : Kds kd L) (ha : ∀ n ∈ L, alE n = 0) (hr : ∀ n ∈ L, n.op = 6 → OkE (r n.tx)) : ∀ k, k ≤ L.length → ∀ e ∈ emL kd r L k, OkE e := by
  intro k
  induction k with
  | zero => intro _ e he; cases he
  | succ k ih =>
    intro h e he
    have hn : L[k]? = some L[k] := List.getElem?_eq_getElem (by omega)
    have hi := ih (by omega)
    rw [emL_succ hn] at he
    rcases List.mem_append.1 he with q | q
    · exact hi e q
    · rw [List.mem_singleton.1 q]
      have hm := List.mem_of_getElem? hn
      refine emN_ok (ha _ hm) (fun g => ?_) (fun g => ?_) (hr _ hm)
      · obtain ⟨j, _, _, hj⟩ := kE_at (r := r) hk hn (show 0 < arN L[k].op by omega)
        exact hi _ (List.mem_of_getElem? hj)
      · obtain ⟨j, _, _, hj⟩ := kE_at (r := r) hk hn (show 1 < arN L[k].op by omega)
        exact hi _ (List.mem_of_getElem? hj)
theorem emL_mono {kd : Nat → List Nat} {r r' : ByteArray → Em} {L : List Nd} (hk : Kds kd L) (ha : ∀ n ∈ L, alE n = 0) (hr : ∀ n ∈ L, n.op = 6 → OkE (r n.tx) ∧ OkE (r' n.tx) ∧ LeE (r n.tx) (r' n.tx)) : ∀ k, k ≤ L.length → ∀ (j : Nat) e e', (emL kd r L k)[j]? = some e → (emL kd r' L k)[j]? = some e' → LeE e e' := by
  intro k
  induction k with
  | zero => intro _ j e e' h; cases h
  | succ k ih =>
    intro h j e e' h1 h2
    have hn : L[k]? = some L[k] := List.getElem?_eq_getElem (by omega)
    have hm := List.mem_of_getElem? hn
    have hi := ih (by omega)
    have l1 := emL_len (kd := kd) (r := r) (L := L) k (by omega)
    have l2 := emL_len (kd := kd) (r := r') (L := L) k (by omega)
    have o1 := emL_ok (r := r) hk ha (fun n hn h6 => (hr n hn h6).1) k (by omega)
    have o2 := emL_ok (r := r') hk ha (fun n hn h6 => (hr n hn h6).2.1) k (by omega)
    rw [emL_succ hn] at h1 h2
    by_cases q : j < k
    · rw [List.getElem?_append_left (by omega)] at h1 h2
      exact hi j e e' h1 h2
    · rw [List.getElem?_append_right (by omega)] at h1 h2
      have hj : j - k = 0 := by
        apply Nat.eq_zero_of_not_pos
        intro hp
        rw [l1, List.getElem?_eq_none (by show 1 ≤ j - k; omega)] at h1
        cases h1
      rw [l1, hj] at h1
      rw [l2, hj] at h2
      cases h1
      cases h2
      refine emN_mono (ha _ hm) (fun g => ?_) (fun g => ?_) (fun h6 => (hr _ hm h6).2.2)
      · obtain ⟨a, _, a1, a2⟩ := kE_at (r := r) hk hn (show 0 < arN L[k].op by omega)
        obtain ⟨b, _, b1, b2⟩ := kE_at (r := r') hk hn (show 0 < arN L[k].op by omega)
        rw [a1] at b1
        cases b1
        exact ⟨o1 _ (List.mem_of_getElem? a2), o2 _ (List.mem_of_getElem? b2), hi a _ _ a2 b2⟩
      · obtain ⟨a, _, a1, a2⟩ := kE_at (r := r) hk hn (show 1 < arN L[k].op by omega)
        obtain ⟨b, _, b1, b2⟩ := kE_at (r := r') hk hn (show 1 < arN L[k].op by omega)
        rw [a1] at b1
        cases b1
        exact ⟨o1 _ (List.mem_of_getElem? a2), o2 _ (List.mem_of_getElem? b2), hi a _ _ a2 b2⟩
end Go.Proofs.YtbnihflihelimaaGreat.T

namespace Go.Proofs.YtbnihflihelimaaGreat.T
open Go.RowKit
/-- What is known of a name, by what is known of the rules. -/
def lkE (gs : GL) (now : List Em) (s : ByteArray) : Em := match fdG gs s with
  | none => e0
  | some k => (now[k]?).getD e0
/-- Of a pattern: of its last node. -/
def laE (kd : Nat → List Nat) (r : ByteArray → Em) (L : List Nd) : Em := ((emL kd r L L.length).getLast?).getD e0
/-- One round; bd: is the rule's greatest length bounded at all? -/
def rdE (gs : GL) (kd : List Nd → Nat → List Nat) (bd : Nat → Bool) (now : List Em) : List Em := gs.mapIdx fun i g => if bd i then laE (kd g.2) (lkE gs now) g.2 else { laE (kd g.2) (lkE gs now) g.2 with mo := -1 }
def knE (gs : GL) (kd : List Nd → Nat → List Nat) (bd : Nat → Bool) : Nat → List Em
  | 0 => List.replicate gs.length eB
  | m + 1 => rdE gs kd bd (knE gs kd bd m)
theorem rdE_len {gs : GL} {kd : List Nd → Nat → List Nat} {bd : Nat → Bool} {now : List Em} : (rdE gs kd bd now).length = gs.length := by unfold rdE; rw [List.length_mapIdx]
theorem rdE_get {gs : GL} {kd : List Nd → Nat → List Nat} {bd : Nat → Bool} {now : List Em} {i : Nat} {g : ByteArray × List Nd} (h : gs[i]? = some g) : (rdE gs kd bd now)[i]? = some (if bd i then laE (kd g.2) (lkE gs now) g.2 else { laE (kd g.2) (lkE gs now) g.2 with mo := -1 }) := by
  unfold rdE
  rw [List.getElem?_mapIdx, h]
  rfl
/-- As much is known as there are rules, and it hangs together. -/
structure OkN (gs : GL) (now : List Em) : Prop where
  n : now.length = gs.length
  o : ∀ e ∈ now, OkE e
def LeN (a b : List Em) : Prop := ∀ (i : Nat) x y, a[i]? = some x → b[i]? = some y → LeE x y
/-- A right grammar, and the parts of its patterns. -/
structure GK (gs : GL) (kd : List Nd → Nat → List Nat) : Prop where
  r : RtG gs
  k : ∀ g ∈ gs, Kds (kd g.2) g.2
theorem lk_ok {gs : GL} (hg : RtG gs) {now : List Em} (h : OkN gs now) {g : ByteArray × List Nd} (hm : g ∈ gs) {n : Nd} (hn : n ∈ g.2) (h6 : n.op = 6) : ∃ k e, fdG gs n.tx = some k ∧ now[k]? = some e ∧ lkE gs now n.tx = e ∧ OkE e := by
  obtain ⟨k, hk⟩ := hg.dn.c g hm n hn h6
  have hlt := fdG_lt hk
  have hl := h.n
  have e : now[k]? = some now[k] := List.getElem?_eq_getElem (by omega)
  refine ⟨k, _, hk, e, ?_, h.o _ (List.mem_of_getElem? e)⟩
  unfold lkE
  rw [hk]
  show (now[k]?).getD e0 = _
  rw [e]
  rfl
theorem body_pos {gs : GL} (hg : RtG gs) {g : ByteArray × List Nd} (hm : g ∈ gs) : 0 < g.2.length := by
  have h := (rt_of (hg.ck g hm)).one
  rcases Nat.eq_zero_or_pos g.2.length with q | q
  · rw [List.eq_nil_of_length_eq_zero q] at h
    simp [run] at h
  · exact q
theorem la_at {kd : Nat → List Nat} {r : ByteArray → Em} {L : List Nd} (h0 : 0 < L.length) : (emL kd r L L.length)[L.length - 1]? = some (laE kd r L) := by
  have hl := emL_len (kd := kd) (r := r) (L := L) L.length (Nat.le_refl _)
  have e : (emL kd r L L.length)[L.length - 1]? = some _ := List.getElem?_eq_getElem (by omega)
  unfold laE
  rw [List.getLast?_eq_getElem?, hl, e]
  rfl
theorem la_ok {gs : GL} {kd : List Nd → Nat → List Nat} (hg : GK gs kd) {now : List Em} (h : OkN gs now) {g : ByteArray × List Nd} (hm : g ∈ gs) : OkE (laE (kd g.2) (lkE gs now) g.2) := by
  refine emL_ok (hg.k g hm) (al_of (hg.r.ck g hm)) (fun n hn h6 => ?_) _ (Nat.le_refl _) _ (List.mem_of_getElem? (la_at (body_pos hg.r hm)))
  obtain ⟨_, e, _, _, h3, h4⟩ := lk_ok hg.r h hm hn h6
  rw [h3]; exact h4
theorem ok_cut {e : Em} (h : OkE e) : OkE { e with mo := -1 } := ⟨h.l1, h.l2, Int.le_refl _, by show (-1 : Int) ≤ _; decide, h.z, fun _ q => absurd q (by show ¬ (0 : Int) ≤ -1; decide)⟩
theorem rdE_ok {gs : GL} {kd : List Nd → Nat → List Nat} (hg : GK gs kd) {bd : Nat → Bool} {now : List Em} (h : OkN gs now) : OkN gs (rdE gs kd bd now) := by
  refine ⟨rdE_len, fun e he => ?_⟩
  obtain ⟨i, hi⟩ := List.getElem?_of_mem he
  have hlt := (List.getElem?_eq_some_iff.1 hi).1
  rw [rdE_len] at hlt
  have hgi : gs[i]? = some gs[i] := List.getElem?_eq_getElem hlt
  rw [rdE_get hgi] at hi
  have hm := List.mem_of_getElem? hgi
  have ho := la_ok hg h hm
  have hi : (if bd i then laE (kd gs[i].2) (lkE gs now) gs[i].2 else { laE (kd gs[i].2) (lkE gs now) gs[i].2 with mo := -1 }) = e := Option.some.inj hi
  rw [← hi]
  split
  · exact ho
  · exact ok_cut ho
theorem rdE_mono {gs : GL} {kd : List Nd → Nat → List Nat} (hg : GK gs kd) {bd : Nat → Bool} {a b : List Em} (ha : OkN gs a) (hb : OkN gs b) (h : LeN a b) : LeN (rdE gs kd bd a) (rdE gs kd bd b) := by
  intro i x y hx hy
  have hlt := (List.getElem?_eq_some_iff.1 hx).1
  rw [rdE_len] at hlt
  have hgi : gs[i]? = some gs[i] := List.getElem?_eq_getElem hlt
  have hm := List.mem_of_getElem? hgi
  have hp := body_pos hg.r hm
  have hl : LeE (laE (kd gs[i].2) (lkE gs a) gs[i].2) (laE (kd gs[i].2) (lkE gs b) gs[i].2) := by
    refine emL_mono (hg.k _ hm) (al_of (hg.r.ck _ hm)) (fun n hn h6 => ?_) _ (Nat.le_refl _) (gs[i].2.length - 1) _ _ (la_at hp) (la_at hp)
    obtain ⟨k, e, h1, h2, h3, h4⟩ := lk_ok hg.r ha hm hn h6
    obtain ⟨k', e', g1, g2, g3, g4⟩ := lk_ok hg.r hb hm hn h6
    rw [h1] at g1
    cases g1
    rw [h3, g3]
    exact ⟨h4, g4, h k e e' h2 g2⟩
  rw [rdE_get hgi] at hx hy
  cases hbd : bd i with
  | true =>
    rw [hbd] at hx hy
    have hx : laE (kd gs[i].2) (lkE gs a) gs[i].2 = x := Option.some.inj hx
    have hy : laE (kd gs[i].2) (lkE gs b) gs[i].2 = y := Option.some.inj hy
    rw [← hx, ← hy]
    exact hl
  | false =>
    rw [hbd] at hx hy
    have hx : ({ laE (kd gs[i].2) (lkE gs a) gs[i].2 with mo := -1 } : Em) = x := Option.some.inj hx
    have hy : ({ laE (kd gs[i].2) (lkE gs b) gs[i].2 with mo := -1 } : Em) = y := Option.some.inj hy
    rw [← hx, ← hy]
    exact ⟨hl.n, hl.c, hl.l, Int.le_refl _⟩
theorem okN_0 (gs : GL) : OkN gs (List.replicate gs.length eB) := ⟨List.length_replicate, fun e he => by rw [List.eq_of_mem_replicate he]; exact okB⟩
theorem bot_N {gs : GL} {z : List Em} (hz : OkN gs z) : LeN (List.replicate gs.length eB) z := fun i x y hx hy => by
  have e := List.eq_of_mem_replicate (List.mem_of_getElem? hx)
  rw [e]
  exact LeE.bot (hz.o y (List.mem_of_getElem? hy))
theorem knE_ok {gs : GL} {kd : List Nd → Nat → List Nat} (hg : GK gs kd) (bd : Nat → Bool) : ∀ m, OkN gs (knE gs kd bd m) := by
  intro m
  induction m with
  | zero => exact okN_0 gs
  | succ m ih => exact rdE_ok hg ih
theorem knE_up {gs : GL} {kd : List Nd → Nat → List Nat} (hg : GK gs kd) (bd : Nat → Bool) : ∀ m, LeN (knE gs kd bd m) (knE gs kd bd (m + 1)) := by
  intro m
  induction m with
  | zero => exact bot_N (knE_ok hg bd 1)
  | succ m ih => exact rdE_mono hg (knE_ok hg bd m) (knE_ok hg bd (m + 1)) ih
/-- How much is not known yet, of all rules. -/
def wN (a : List Em) : Nat := (a.map wE).sum
theorem wN_le : ∀ (a b : List Em), a.length = b.length → (∀ e ∈ a, OkE e) → (∀ e ∈ b, OkE e) → LeN a b → wN b ≤ wN a ∧ (a ≠ b → wN b < wN a) := by
  intro a
  induction a with
  | nil =>
    intro b hl _ _ _
    have : b = [] := List.eq_nil_of_length_eq_zero hl.symm
    subst this
    exact ⟨Nat.le_refl _, fun h => absurd rfl h⟩
  | cons x a ih =>
    intro b hl ha hb h
    cases b with
    | nil => cases hl
    | cons y b =>
      have hxy := h 0 x y rfl rfl
      have ox := ha x List.mem_cons_self
      have oy := hb y List.mem_cons_self
      obtain ⟨i1, i2⟩ := ih b (by simpa using hl) (fun e he => ha e (List.mem_cons_of_mem _ he)) (fun e he => hb e (List.mem_cons_of_mem _ he)) (fun i u v hu hv => h (i + 1) u v (by simpa using hu) (by simpa using hv))
      have w1 := wE_le ox oy hxy
      have e1 : wN (x :: a) = wE x + wN a := by unfold wN; rw [List.map_cons, List.sum_cons]
      have e2 : wN (y :: b) = wE y + wN b := by unfold wN; rw [List.map_cons, List.sum_cons]
      rw [e1, e2]
      refine ⟨by omega, fun hne => ?_⟩
      by_cases q : x = y
      · have : a ≠ b := fun e => hne (by rw [q, e])
        have := i2 this
        omega
      · have := wE_less ox oy hxy q
        omega
/-- A round that changes something leaves less to be known. -/
theorem knE_less {gs : GL} {kd : List Nd → Nat → List Nat} (hg : GK gs kd) (bd : Nat → Bool) (m : Nat) (hne : knE gs kd bd m ≠ knE gs kd bd (m + 1)) : wN (knE gs kd bd (m + 1)) < wN (knE gs kd bd m) :=
  (wN_le _ _ (by rw [(knE_ok hg bd m).n, (knE_ok hg bd (m + 1)).n]) (knE_ok hg bd m).o (knE_ok hg bd (m + 1)).o (knE_up hg bd m)).2 hne
end Go.Proofs.YtbnihflihelimaaGreat.T

namespace Go.Proofs.YtbnihflihelimaaGreat.N
open Go.RowKit
/-- Which calls which. -/
abbrev Mx := Nat → Nat → Bool
def stpM (n : Nat) (c : Mx) : Mx := fun i j => c i j || (List.range n).any fun k => c i k && c k j
def rcF (n : Nat) (c : Mx) : Nat → Mx
  | 0 => c
  | m + 1 => stpM n (rcF n c m)
/-- Comes to, by one call at least. -/
def Rc (n : Nat) (c : Mx) (i j : Nat) : Prop := ∃ m, rcF n c m i j = true
theorem rcF_up {n : Nat} {c : Mx} {m i j : Nat} (h : rcF n c m i j = true) : ∀ k, rcF n c (m + k) i j = true := by
  intro k
  induction k with
  | zero => exact h
  | succ k ih =>
    show stpM n (rcF n c (m + k)) i j = true
    unfold stpM
    rw [ih]
    rfl
theorem rcF_le {n : Nat} {c : Mx} {m k i j : Nat} (h : rcF n c m i j = true) (hk : m ≤ k) : rcF n c k i j = true := by
  have := rcF_up h (k - m)
  rwa [Nat.add_sub_cancel' hk] at this
theorem Rc.of {n : Nat} {c : Mx} {i j : Nat} (h : c i j = true) : Rc n c i j := ⟨0, h⟩
theorem Rc.trans {n : Nat} {c : Mx} {i k j : Nat} (hk : k < n) (h : Rc n c i k) (g : Rc n c k j) : Rc n c i j := by
  obtain ⟨a, h⟩ := h
  obtain ⟨b, g⟩ := g
  refine ⟨max a b + 1, ?_⟩
  show stpM n (rcF n c (max a b)) i j = true
  unfold stpM
  rw [Bool.or_eq_true, List.any_eq_true]
  exact .inr ⟨k, List.mem_range.2 hk, by rw [rcF_le h (Nat.le_max_left _ _), rcF_le g (Nat.le_max_right _ _)]; rfl⟩
/-- The least: whatever holds the calls and is closed holds it. -/
theorem Rc.least {n : Nat} {c : Mx} {d : Nat → Nat → Prop} (h1 : ∀ i j, c i j = true → d i j) (h2 : ∀ i k j, k < n → d i k → d k j → d i j) : ∀ {i j : Nat}, Rc n c i j → d i j := by
  intro i j h
  obtain ⟨m, h⟩ := h
  induction m generalizing i j with
  | zero => exact h1 i j h
  | succ m ih =>
    have h : stpM n (rcF n c m) i j = true := h
    unfold stpM at h
    rw [Bool.or_eq_true, List.any_eq_true] at h
    rcases h with h | ⟨k, hk, h⟩
    · exact ih h
    · rw [Bool.and_eq_true] at h
      exact h2 i k j (List.mem_range.1 hk) (ih h.1) (ih h.2)
end Go.Proofs.YtbnihflihelimaaGreat.N

namespace Go.Proofs.YtbnihflihelimaaGreat.N
open Go.RowKit
/-- A table of what comes to what. -/
structure IsR (n : Nat) (c r : Mx) : Prop where
  cl : ∀ i j, c i j = true → i < n ∧ j < n
  rl : ∀ i j, i < n → j < n → (r i j = true ↔ Rc n c i j)
end Go.Proofs.YtbnihflihelimaaGreat.N

namespace Go.Proofs.YtbnihflihelimaaGreat.N
open Go.RowKit
theorem cn_set : ∀ (l : List Bool) (j : Nat), l[j]? = some false → (l.set j true).count false + 1 = l.count false := by
  intro l
  induction l with
  | nil => intro j h; cases h
  | cons a l ih =>
    intro j h
    cases j with
    | zero =>
      cases h
      rw [List.set_cons_zero, List.count_cons_of_ne (by decide), List.count_cons_self]
    | succ j =>
      have h2 : l[j]? = some false := by simpa using h
      rw [List.set_cons_succ, List.count_cons, List.count_cons]
      have := ih j h2
      omega
end Go.Proofs.YtbnihflihelimaaGreat.N

namespace Go.Proofs.YtbnihflihelimaaGreat.T
open Go.RowKit
/-- The same but for the greatest length. -/
def eqL (a b : Em) : Prop := a.nu = b.nu ∧ a.cf = b.cf ∧ a.le = b.le
theorem eqL.refl (a : Em) : eqL a a := ⟨rfl, rfl, rfl⟩
theorem eqL.ext {a b : Em} (h : eqL a b) (hm : a.mo = b.mo) : a = b := Em.ext' h.1 h.2.1 h.2.2 hm
theorem emN_L {n : Nd} {x y x' y' : Em} {r r' : ByteArray → Em} (hx : eqL x x') (hy : eqL y y') (hr : n.op = 6 → eqL (r n.tx) (r' n.tx)) : eqL (emN n x y r) (emN n x' y' r') := by
  obtain ⟨a1, a2, a3⟩ := hx
  obtain ⟨b1, b2, b3⟩ := hy
  unfold emN
  by_cases c1 : n.op = 1 ∨ n.op = 17 ∨ ((n.op = 14 ∨ n.op = 16) ∧ n.nn = 0)
  · rw [if_pos c1, if_pos c1]; exact eqL.refl _
  rw [if_neg c1, if_neg c1]
  by_cases c2 : n.op = 9 ∨ (n.op = 15 ∧ n.nn = 0)
  · rw [if_pos c2, if_pos c2]; exact ⟨rfl, rfl, rfl⟩
  rw [if_neg c2, if_neg c2]
  by_cases c3 : n.op = 2
  · rw [if_pos c3, if_pos c3]; exact eqL.refl _
  rw [if_neg c3, if_neg c3]
  by_cases c4 : n.op = 3 ∨ n.op = 5
  · rw [if_pos c4, if_pos c4]; exact eqL.refl _
  rw [if_neg c4, if_neg c4]
  by_cases c5 : n.op = 4
  · rw [if_pos c5, if_pos c5]; exact eqL.refl _
  rw [if_neg c5, if_neg c5]
  by_cases c6 : n.op = 6
  · rw [if_pos c6, if_pos c6]; exact hr c6
  rw [if_neg c6, if_neg c6]
  by_cases c7 : n.op = 7
  · rw [if_pos c7, if_pos c7]; exact ⟨by show (_ && _) = (_ && _); rw [a1, b1], by show (_ || _) = (_ || _); rw [a2, b2], by show leC _ = leC _; rw [a3, b3]⟩
  rw [if_neg c7, if_neg c7]
  by_cases c8 : n.op = 8
  · rw [if_pos c8, if_pos c8]; exact ⟨by show (_ || _) = (_ || _); rw [a1, b1], by show (_ && _) = (_ && _); rw [a2, b2], by show lesE _ _ = lesE _ _; rw [a3, b3]⟩
  rw [if_neg c8, if_neg c8]
  by_cases c10 : n.op = 10
  · rw [if_pos c10, if_pos c10]; exact ⟨a1, a2, a3⟩
  rw [if_neg c10, if_neg c10]
  by_cases c11 : n.op = 11
  · rw [if_pos c11, if_pos c11]; exact ⟨rfl, rfl, rfl⟩
  rw [if_neg c11, if_neg c11]
  by_cases c12 : n.op = 12
  · rw [if_pos c12, if_pos c12]; exact ⟨rfl, a2, rfl⟩
  rw [if_neg c12, if_neg c12]
  by_cases c13 : n.op = 13
  · rw [if_pos c13, if_pos c13]; exact eqL.refl _
  rw [if_neg c13, if_neg c13]
  by_cases c14 : n.op = 14
  · rw [if_pos c14, if_pos c14]; exact ⟨a1, a2, by show leC _ = leC _; rw [a3]⟩
  rw [if_neg c14, if_neg c14]
  by_cases c15 : n.op = 15
  · rw [if_pos c15, if_pos c15]; exact ⟨a1, a2, by show leC _ = leC _; rw [a3]⟩
  rw [if_neg c15, if_neg c15]
  by_cases c16 : n.op = 16
  · rw [if_pos c16, if_pos c16]; exact ⟨rfl, rfl, rfl⟩
  rw [if_neg c16, if_neg c16]
  exact ⟨a1, a2, a3⟩
theorem emN_M {n : Nd} {x y x' y' : Em} {r r' : ByteArray → Em} (hx : x.mo = x'.mo) (hy : y.mo = y'.mo) (hr : n.op = 6 → (r n.tx).mo = (r' n.tx).mo) : (emN n x y r).mo = (emN n x' y' r').mo := by
  unfold emN
  by_cases c1 : n.op = 1 ∨ n.op = 17 ∨ ((n.op = 14 ∨ n.op = 16) ∧ n.nn = 0)
  · rw [if_pos c1, if_pos c1]
  rw [if_neg c1, if_neg c1]
  by_cases c2 : n.op = 9 ∨ (n.op = 15 ∧ n.nn = 0)
  · rw [if_pos c2, if_pos c2]; show agE _ = agE _; rw [hx]
  rw [if_neg c2, if_neg c2]
  by_cases c3 : n.op = 2
  · rw [if_pos c3, if_pos c3]
  rw [if_neg c3, if_neg c3]
  by_cases c4 : n.op = 3 ∨ n.op = 5
  · rw [if_pos c4, if_pos c4]
  rw [if_neg c4, if_neg c4]
  by_cases c5 : n.op = 4
  · rw [if_pos c5, if_pos c5]
  rw [if_neg c5, if_neg c5]
  by_cases c6 : n.op = 6
  · rw [if_pos c6, if_pos c6]; exact hr c6
  rw [if_neg c6, if_neg c6]
  by_cases c7 : n.op = 7
  · rw [if_pos c7, if_pos c7]; show moC _ = moC _; rw [hx, hy]
  rw [if_neg c7, if_neg c7]
  by_cases c8 : n.op = 8
  · rw [if_pos c8, if_pos c8]; show greE _ _ = greE _ _; rw [hx, hy]
  rw [if_neg c8, if_neg c8]
  by_cases c10 : n.op = 10
  · rw [if_pos c10, if_pos c10]; show agE _ = agE _; rw [hx]
  rw [if_neg c10, if_neg c10]
  by_cases c11 : n.op = 11
  · rw [if_pos c11, if_pos c11]; exact hx
  rw [if_neg c11, if_neg c11]
  by_cases c12 : n.op = 12
  · rw [if_pos c12, if_pos c12]
  rw [if_neg c12, if_neg c12]
  by_cases c13 : n.op = 13
  · rw [if_pos c13, if_pos c13]
  rw [if_neg c13, if_neg c13]
  by_cases c14 : n.op = 14
  · rw [if_pos c14, if_pos c14]; show moC _ = moC _; rw [hx]
  rw [if_neg c14, if_neg c14]
  by_cases c15 : n.op = 15
  · rw [if_pos c15, if_pos c15]; show agE _ = agE _; rw [hx]
  rw [if_neg c15, if_neg c15]
  by_cases c16 : n.op = 16
  · rw [if_pos c16, if_pos c16]; show moC _ = moC _; rw [hx]
  rw [if_neg c16, if_neg c16]
  exact hx
/-- Two lists side by side. -/
def Sd (P : Em → Em → Prop) (a b : List Em) : Prop := a.length = b.length ∧ ∀ (i : Nat) x y, a[i]? = some x → b[i]? = some y → P x y
theorem Sd.get {P : Em → Em → Prop} (hP : ∀ a, P a a) {a b : List Em} (h : Sd P a b) (i : Nat) : P ((a[i]?).getD e0) ((b[i]?).getD e0) := by
  by_cases hi : i < a.length
  · have hb : i < b.length := by have := h.1; omega
    have e1 : a[i]? = some a[i] := List.getElem?_eq_getElem hi
    have e2 : b[i]? = some b[i] := List.getElem?_eq_getElem hb
    rw [e1, e2]
    exact h.2 i _ _ e1 e2
  · rw [List.getElem?_eq_none (by omega), List.getElem?_eq_none (by have := h.1; omega)]
    exact hP _
theorem Sd.push {P : Em → Em → Prop} {a b : List Em} {x y : Em} (h : Sd P a b) (hx : P x y) : Sd P (a ++ [x]) (b ++ [y]) := by
  have hl := h.1
  refine ⟨by rw [List.length_append, List.length_append, hl]; rfl, fun i u v hu hv => ?_⟩
  by_cases hi : i < a.length
  · rw [List.getElem?_append_left hi] at hu
    rw [List.getElem?_append_left (by omega)] at hv
    exact h.2 i u v hu hv
  · rw [List.getElem?_append_right (by omega)] at hu
    rw [List.getElem?_append_right (by omega)] at hv
    have e : i - a.length = 0 := by
      have := (List.getElem?_eq_some_iff.1 hu).1
      have h1 : [x].length = 1 := rfl
      omega
    rw [e] at hu
    rw [← hl, e] at hv
    cases hu
    cases hv
    exact hx
theorem emL_Sd {P : Em → Em → Prop} (hP : ∀ a, P a a) (hN : ∀ (n : Nd) (x y x' y' : Em) (r r' : ByteArray → Em), P x x' → P y y' → (n.op = 6 → P (r n.tx) (r' n.tx)) → P (emN n x y r) (emN n x' y' r')) {kd : Nat → List Nat} {r r' : ByteArray → Em} {L : List Nd} (hr : ∀ n ∈ L, n.op = 6 → P (r n.tx) (r' n.tx)) : ∀ k, Sd P (emL kd r L k) (emL kd r' L k) := by
  intro k
  induction k with
  | zero => exact ⟨rfl, fun i x y hx => by cases hx⟩
  | succ k ih =>
    cases hn : L[k]? with
    | none =>
      have e1 : emL kd r L (k + 1) = emL kd r L k := by rw [emL, hn]
      have e2 : emL kd r' L (k + 1) = emL kd r' L k := by rw [emL, hn]
      rw [e1, e2]; exact ih
    | some n =>
      rw [emL_succ hn, emL_succ hn]
      have hk : ∀ i, P (kE (emL kd r L k) (kd k) i) (kE (emL kd r' L k) (kd k) i) := fun i => by
        unfold kE
        cases (kd k)[i]? with
        | none => exact hP _
        | some j => exact ih.get hP j
      exact ih.push (hN n _ _ _ _ r r' (hk 0) (hk 1) (hr n (List.mem_of_getElem? hn)))
theorem laE_Sd {P : Em → Em → Prop} (hP : ∀ a, P a a) (hN : ∀ (n : Nd) (x y x' y' : Em) (r r' : ByteArray → Em), P x x' → P y y' → (n.op = 6 → P (r n.tx) (r' n.tx)) → P (emN n x y r) (emN n x' y' r')) {kd : Nat → List Nat} {r r' : ByteArray → Em} {L : List Nd} (hr : ∀ n ∈ L, n.op = 6 → P (r n.tx) (r' n.tx)) : P (laE kd r L) (laE kd r' L) := by
  have h := emL_Sd hP hN (kd := kd) hr L.length
  unfold laE
  rw [List.getLast?_eq_getElem?, List.getLast?_eq_getElem?, ← h.1]
  exact h.get hP _
/-- A rule's greatest length hangs on those of the rules that it calls. -/
theorem rdE_L {gs : GL} {kd : List Nd → Nat → List Nat} {bd : Nat → Bool} {a b : List Em} (h : Sd eqL a b) : Sd eqL (rdE gs kd bd a) (rdE gs kd bd b) := by
  refine ⟨by rw [rdE_len, rdE_len], fun i x y hx hy => ?_⟩
  have hlt := (List.getElem?_eq_some_iff.1 hx).1
  rw [rdE_len] at hlt
  have hgi : gs[i]? = some gs[i] := List.getElem?_eq_getElem hlt
  rw [rdE_get hgi] at hx hy
  have hl : eqL (laE (kd gs[i].2) (lkE gs a) gs[i].2) (laE (kd gs[i].2) (lkE gs b) gs[i].2) := laE_Sd eqL.refl (fun n x y x' y' r r' h1 h2 h3 => emN_L h1 h2 h3) (fun n _ _ => by
    unfold lkE
    cases fdG gs n.tx with
    | none => exact eqL.refl _
    | some k => exact h.get eqL.refl k)
  have hx : (if bd i then laE (kd gs[i].2) (lkE gs a) gs[i].2 else { laE (kd gs[i].2) (lkE gs a) gs[i].2 with mo := -1 }) = x := Option.some.inj hx
  have hy : (if bd i then laE (kd gs[i].2) (lkE gs b) gs[i].2 else { laE (kd gs[i].2) (lkE gs b) gs[i].2 with mo := -1 }) = y := Option.some.inj hy
  rw [← hx, ← hy]
  cases bd i
  · exact hl
  · exact hl
def moA (a : List Em) (i : Nat) : Int := ((a[i]?).getD e0).mo
theorem rdE_M {gs : GL} {kd : List Nd → Nat → List Nat} {bd : Nat → Bool} {a b : List Em} {i : Nat} (hi : i < gs.length) (h : bd i = true → ∀ j, cG gs i j = true → moA a j = moA b j) : moA (rdE gs kd bd a) i = moA (rdE gs kd bd b) i := by
  have hgi : gs[i]? = some gs[i] := List.getElem?_eq_getElem hi
  unfold moA
  rw [rdE_get hgi, rdE_get hgi]
  show (if bd i then laE (kd gs[i].2) (lkE gs a) gs[i].2 else { laE (kd gs[i].2) (lkE gs a) gs[i].2 with mo := -1 }).mo = (if bd i then laE (kd gs[i].2) (lkE gs b) gs[i].2 else { laE (kd gs[i].2) (lkE gs b) gs[i].2 with mo := -1 }).mo
  cases hb : bd i with
  | false => rfl
  | true =>
    show (laE (kd gs[i].2) (lkE gs a) gs[i].2).mo = (laE (kd gs[i].2) (lkE gs b) gs[i].2).mo
    refine laE_Sd (P := fun x y => x.mo = y.mo) (fun _ => rfl) (fun n x y x' y' r r' h1 h2 h3 => emN_M h1 h2 h3) (fun n hn h6 => ?_)
    show (lkE gs a n.tx).mo = (lkE gs b n.tx).mo
    unfold lkE
    cases hf : fdG gs n.tx with
    | none => rfl
    | some k =>
      refine h hb k ?_
      unfold cG
      rw [hgi]
      simp only [List.any_eq_true, Bool.and_eq_true, decide_eq_true_eq]
      exact ⟨n, hn, h6, hf⟩
/-- The program begins with 0 where the greatest length is bounded at all. -/
def eP : Em := ⟨false, false, -1, 0⟩
def pgS (gs : GL) (bd : Nat → Bool) : List Em := (List.range gs.length).map fun i => if bd i then eP else eB
def pgE (gs : GL) (kd : List Nd → Nat → List Nat) (bd : Nat → Bool) : Nat → List Em
  | 0 => pgS gs bd
  | m + 1 => rdE gs kd bd (pgE gs kd bd m)
theorem pgS_len (gs : GL) (bd : Nat → Bool) : (pgS gs bd).length = gs.length := by unfold pgS; rw [List.length_map, List.length_range]
theorem okP : OkE eP := ⟨by decide, by decide, by decide, by decide, ⟨(fun h => by cases h), (fun h => by cases h)⟩, (fun h => by cases h)⟩
theorem pgE_ok {gs : GL} {kd : List Nd → Nat → List Nat} (hg : GK gs kd) (bd : Nat → Bool) : ∀ m, OkN gs (pgE gs kd bd m) := by
  intro m
  induction m with
  | zero =>
    refine ⟨pgS_len gs bd, fun e he => ?_⟩
    obtain ⟨i, _, rfl⟩ := List.mem_map.1 he
    split
    · exact okP
    · exact okB
  | succ m ih => exact rdE_ok hg ih
theorem pgE_L (gs : GL) (kd : List Nd → Nat → List Nat) (bd : Nat → Bool) : ∀ m, Sd eqL (pgE gs kd bd m) (knE gs kd bd m) := by
  intro m
  induction m with
  | zero =>
    refine ⟨by show (pgS gs bd).length = (List.replicate gs.length eB).length; rw [pgS_len, List.length_replicate], fun i x y hx hy => ?_⟩
    have e2 := List.eq_of_mem_replicate (List.mem_of_getElem? hy)
    obtain ⟨j, _, rfl⟩ := List.mem_map.1 (List.mem_of_getElem? hx)
    rw [e2]
    split
    · exact ⟨rfl, rfl, rfl⟩
    · exact eqL.refl _
  | succ m ih => exact rdE_L ih
end Go.Proofs.YtbnihflihelimaaGreat.T

namespace Go.Proofs.YtbnihflihelimaaGreat.N
open Go.RowKit
open Go.Proofs.YtbnihflihelimaaGreat.T

/-- How many rules a rule comes to. -/
def ctR (n : Nat) (R : Nat → Nat → Bool) (i : Nat) : Nat := ((List.range n).filter fun j => R i j).length
theorem ctR_le (n : Nat) (R : Nat → Nat → Bool) (i : Nat) : ctR n R i ≤ n := by
  unfold ctR
  have := List.length_filter_le (fun j => R i j) (List.range n)
  rw [List.length_range] at this
  exact this
theorem filt_lt {p q : Nat → Bool} : ∀ (l : List Nat), (∀ x ∈ l, p x = true → q x = true) → (∃ x ∈ l, q x = true ∧ p x = false) → (l.filter p).length < (l.filter q).length := by
  intro l
  induction l with
  | nil => rintro _ ⟨x, hx, _⟩; cases hx
  | cons a l ih =>
    intro h1 h2
    have hle : ∀ (l : List Nat), (∀ x ∈ l, p x = true → q x = true) → (l.filter p).length ≤ (l.filter q).length := by
      intro l
      induction l with
      | nil => intro _; exact Nat.le_refl _
      | cons b l ih2 =>
        intro h
        have := ih2 (fun x hx => h x (List.mem_cons_of_mem _ hx))
        rw [List.filter_cons, List.filter_cons]
        cases hp : p b with
        | true => rw [h b List.mem_cons_self hp, if_pos rfl, if_pos rfl, List.length_cons, List.length_cons]; omega
        | false =>
          rw [if_neg Bool.noConfusion]
          split
          · rw [List.length_cons]; omega
          · exact this
    rw [List.filter_cons, List.filter_cons]
    obtain ⟨x, hx, hq, hp⟩ := h2
    have hl := hle l (fun y hy => h1 y (List.mem_cons_of_mem _ hy))
    rcases List.mem_cons.1 hx with e | e
    · subst e
      rw [hp, hq, if_neg Bool.noConfusion, if_pos rfl, List.length_cons]
      omega
    · have := ih (fun y hy => h1 y (List.mem_cons_of_mem _ hy)) ⟨x, e, hq, hp⟩
      cases hpa : p a with
      | true => rw [h1 a List.mem_cons_self hpa, if_pos rfl, if_pos rfl, List.length_cons, List.length_cons]; omega
      | false =>
        rw [if_neg Bool.noConfusion]
        split
        · rw [List.length_cons]; omega
        · exact this
/-- What a rule calls comes to fewer, where the one called does not come to itself. -/
theorem ctR_less {n : Nat} {c R : Mx} (h : IsR n c R) {i j : Nat} (hc : c i j = true) (hj : R j j = false) : ctR n R j < ctR n R i := by
  obtain ⟨hi, hjn⟩ := h.cl i j hc
  refine filt_lt _ (fun x hx q => ?_) ⟨j, List.mem_range.2 hjn, (h.rl i j hi hjn).2 (Rc.of hc), hj⟩
  have hx := List.mem_range.1 hx
  exact (h.rl i x hi hx).2 (Rc.trans hjn (Rc.of hc) ((h.rl j x hjn hx).1 q))
theorem moA_out {a : List Em} {i : Nat} (h : a.length ≤ i) : moA a i = 0 := by unfold moA; rw [List.getElem?_eq_none h]; rfl
section
variable {gs : GL} {kd : List Nd → Nat → List Nat} {R : Mx} {bd : Nat → Bool}
theorem mo_cut {a : List Em} {i : Nat} (hi : i < gs.length) (hb : bd i = false) : moA (rdE gs kd bd a) i = -1 := by
  have hgi : gs[i]? = some gs[i] := List.getElem?_eq_getElem hi
  unfold moA
  rw [rdE_get hgi, hb]
  rfl
theorem mo_kn0 {i : Nat} (hi : i < gs.length) : moA (knE gs kd bd 0) i = -1 := by
  unfold moA
  show (((List.replicate gs.length eB)[i]?).getD e0).mo = -1
  rw [List.getElem?_replicate, if_pos hi]
  rfl
theorem mo_pg0 {i : Nat} (hi : i < gs.length) (hb : bd i = false) : moA (pgE gs kd bd 0) i = -1 := by
  unfold moA
  show (((pgS gs bd)[i]?).getD e0).mo = -1
  unfold pgS
  rw [List.getElem?_map, List.getElem?_range hi, Option.map_some, hb]
  rfl
theorem mo_loop {i : Nat} (hi : i < gs.length) (hb : bd i = false) (m : Nat) : moA (knE gs kd bd m) i = -1 ∧ moA (pgE gs kd bd m) i = -1 := by
  cases m with
  | zero => exact ⟨mo_kn0 hi, mo_pg0 hi hb⟩
  | succ m => exact ⟨mo_cut hi hb, mo_cut hi hb⟩
/-- Behind as many rounds as there are rules a greatest length stays, and is the same for both. -/
theorem mo_stay (hR : IsR gs.length (cG gs) R) (hbd : ∀ i, bd i = !(R i i)) : ∀ (b i : Nat), i < gs.length → ctR gs.length R i ≤ b → ∀ m, b + 1 ≤ m → moA (knE gs kd bd (m + 1)) i = moA (knE gs kd bd m) i ∧ moA (pgE gs kd bd (m + 1)) i = moA (pgE gs kd bd m) i ∧ moA (pgE gs kd bd m) i = moA (knE gs kd bd m) i := by
  intro b
  induction b with
  | zero =>
    intro i hi hc m hm
    obtain ⟨m, rfl⟩ : ∃ k, m = k + 1 := ⟨m - 1, by omega⟩
    cases hb : bd i with
    | false => rw [(mo_loop hi hb (m + 1)).1, (mo_loop hi hb (m + 1)).2, (mo_loop hi hb (m + 1 + 1)).1, (mo_loop hi hb (m + 1 + 1)).2]; exact ⟨rfl, rfl, rfl⟩
    | true =>
      have no : ∀ j, cG gs i j ≠ true := fun j q => by
        have h1 : j ∈ (List.range gs.length).filter fun k => R i k := List.mem_filter.2 ⟨List.mem_range.2 (hR.cl i j q).2, (hR.rl i j hi (hR.cl i j q).2).2 (Rc.of q)⟩
        have h2 : 0 < ctR gs.length R i := List.length_pos_of_mem h1
        omega
      exact ⟨rdE_M hi fun _ j q => absurd q (no j), rdE_M hi fun _ j q => absurd q (no j), rdE_M hi fun _ j q => absurd q (no j)⟩
  | succ b ih =>
    intro i hi hc m hm
    obtain ⟨m, rfl⟩ : ∃ k, m = k + 1 := ⟨m - 1, by omega⟩
    have key : bd i = true → ∀ j, cG gs i j = true → moA (knE gs kd bd (m + 1)) j = moA (knE gs kd bd m) j ∧ moA (pgE gs kd bd (m + 1)) j = moA (pgE gs kd bd m) j ∧ moA (pgE gs kd bd m) j = moA (knE gs kd bd m) j := fun _ j q => by
      have hj := (hR.cl i j q).2
      cases hbj : bd j with
      | false => rw [(mo_loop hj hbj m).1, (mo_loop hj hbj m).2, (mo_loop hj hbj (m + 1)).1, (mo_loop hj hbj (m + 1)).2]; exact ⟨rfl, rfl, rfl⟩
      | true =>
        have hjj : R j j = false := by rw [hbd j] at hbj; simpa using hbj
        have hl := ctR_less hR q hjj
        exact ih j hj (by omega) m (by omega)
    exact ⟨rdE_M hi fun hb j q => (key hb j q).1, rdE_M hi fun hb j q => (key hb j q).2.1, rdE_M hi fun hb j q => (key hb j q).2.2⟩
/-- From some round on both know the same. -/
theorem pg_kn (hg : GK gs kd) (hR : IsR gs.length (cG gs) R) (hbd : ∀ i, bd i = !(R i i)) {m : Nat} (hm : gs.length + 1 ≤ m) : pgE gs kd bd m = knE gs kd bd m := by
  have h1 := pgE_ok hg bd m
  have h2 := knE_ok hg bd m
  have hs := pgE_L gs kd bd m
  refine List.ext_getElem? fun i => ?_
  by_cases hi : i < gs.length
  · have i1 : i < (pgE gs kd bd m).length := by rw [h1.n]; exact hi
    have i2 : i < (knE gs kd bd m).length := by rw [h2.n]; exact hi
    have e1 : (pgE gs kd bd m)[i]? = some (pgE gs kd bd m)[i] := List.getElem?_eq_getElem i1
    have e2 : (knE gs kd bd m)[i]? = some (knE gs kd bd m)[i] := List.getElem?_eq_getElem i2
    have hmo := (mo_stay (kd := kd) hR hbd gs.length i hi (ctR_le _ _ _) m hm).2.2
    unfold moA at hmo
    rw [e1, e2] at hmo ⊢
    exact congrArg some ((hs.2 i _ _ e1 e2).ext hmo)
  · rw [List.getElem?_eq_none (by rw [h1.n]; omega), List.getElem?_eq_none (by rw [h2.n]; omega)]
theorem kn_fix {m : Nat} (h : knE gs kd bd (m + 1) = knE gs kd bd m) : ∀ k, knE gs kd bd (m + k) = knE gs kd bd m := by
  intro k
  induction k with
  | zero => rfl
  | succ k ih =>
    show rdE gs kd bd (knE gs kd bd (m + k)) = _
    rw [ih]
    exact h
theorem pg_fix {m : Nat} (h : pgE gs kd bd (m + 1) = pgE gs kd bd m) : ∀ k, pgE gs kd bd (m + k) = pgE gs kd bd m := by
  intro k
  induction k with
  | zero => rfl
  | succ k ih =>
    show rdE gs kd bd (pgE gs kd bd (m + k)) = _
    rw [ih]
    exact h
/-- Both ends are one. -/
theorem ends_one (hg : GK gs kd) (hR : IsR gs.length (cG gs) R) (hbd : ∀ i, bd i = !(R i i)) {a b : Nat} (ha : pgE gs kd bd (a + 1) = pgE gs kd bd a) (hb : knE gs kd bd (b + 1) = knE gs kd bd b) : pgE gs kd bd a = knE gs kd bd b := by
  rw [← pg_fix ha (b + gs.length + 1), ← kn_fix hb (a + gs.length + 1), show b + (a + gs.length + 1) = a + (b + gs.length + 1) from by omega]
  exact pg_kn hg hR hbd (by omega)
/-- How much is left: what is not known yet, and the rounds until the greatest lengths stay. -/
def pgM (gs : GL) (kd : List Nd → Nat → List Nat) (bd : Nat → Bool) (m : Nat) : Nat := wN (knE gs kd bd m) + (gs.length + 1 - m)
theorem pgM_less (hg : GK gs kd) (hR : IsR gs.length (cG gs) R) (hbd : ∀ i, bd i = !(R i i)) {m : Nat} (hne : pgE gs kd bd (m + 1) ≠ pgE gs kd bd m) : pgM gs kd bd (m + 1) < pgM gs kd bd m := by
  have hle := (wN_le _ _ (by rw [(knE_ok hg bd m).n, (knE_ok hg bd (m + 1)).n]) (knE_ok hg bd m).o (knE_ok hg bd (m + 1)).o (knE_up hg bd m)).1
  unfold pgM
  by_cases hm : m < gs.length + 1
  · omega
  · have e1 := pg_kn hg hR hbd (m := m) (by omega)
    have e2 := pg_kn hg hR hbd (m := m + 1) (by omega)
    rw [e1, e2] at hne
    have := knE_less hg bd m (fun e => hne e.symm)
    omega
end
end Go.Proofs.YtbnihflihelimaaGreat.N
