/- DERIVED. The law CharsetAlgebra, walked. -/
import Derived.Test.YtlcmlipldkpliabWrk
import Derived.Test.YtlcmlipldkpliabEqs
namespace Go.Proofs.Ytlcmlipldkpliab
open Go.RowKit

/-- The worlds of a law of three sets. -/
structure At3 (w W : World) (x y z : BitVec 256) : Prop where
  x : Holds W w.heap.size x
  y : Holds W (w.heap.size + 1) y
  z : Holds W (w.heap.size + 1 + 1) z
  b : Below w.heap.size w W
theorem At3.step {w W W' : World} {x y z : BitVec 256} (h : At3 w W x y z) (hb : Below W.heap.size W W') : At3 w W' x y z :=
  ⟨h.x.below hb h.x.lt, h.y.below hb h.y.lt, h.z.below hb h.z.lt, h.b.trans (hb.mono h.b.size)⟩
theorem At3.drew {w W : World} {x y z : BitVec 256} (h : At3 w W x y z) : At3 w W.drew x y z := ⟨h.x.drew, h.y.drew, h.z.drew, h.b.drew⟩
theorem At3.start (w : World) (x y z : BitVec 256) : At3 w (((w.alloc (c4 x)).alloc (c4 y)).alloc (c4 z)) x y z := by
  have h := Holds.new (w.alloc (c4 x)) y
  rw [size1] at h
  have h2 := Holds.new ((w.alloc (c4 x)).alloc (c4 y)) z
  rw [size2] at h2
  exact ⟨((Holds.new w x).alloc _).alloc _, h.alloc _, h2, below3 w (c4 x) (c4 y) (c4 z)⟩

theorem b_uassoc (x y z : BitVec 256) : (x ||| (y ||| z) == x ||| y ||| z) = true := by rw [BitVec.or_assoc]; exact beq_self_eq_true _
theorem b_ucomm (x y : BitVec 256) : (x ||| y == y ||| x) = true := by rw [BitVec.or_comm]; exact beq_self_eq_true _
theorem b_uself (x : BitVec 256) : (x ||| x == x) = true := by rw [BitVec.or_self]; exact beq_self_eq_true _

theorem b_massoc (x y z : BitVec 256) : (x &&& (y &&& z) == x &&& y &&& z) = true := by rw [BitVec.and_assoc]; exact beq_self_eq_true _
theorem b_mcomm (x y : BitVec 256) : (x &&& y == y &&& x) = true := by rw [BitVec.and_comm]; exact beq_self_eq_true _
theorem b_absorb (x y : BitVec 256) : (x &&& (x ||| y) == x) = true := by
  rw [beq_iff_eq]; apply BitVec.eq_of_getLsbD_eq; intro i _; simp only [BitVec.getLsbD_and, BitVec.getLsbD_or]; cases x.getLsbD i <;> simp
theorem b_over1 (x y z : BitVec 256) : (x &&& (y ||| z) == x &&& y ||| x &&& z) = true := by
  rw [beq_iff_eq]; apply BitVec.eq_of_getLsbD_eq; intro i _; simp only [BitVec.getLsbD_and, BitVec.getLsbD_or]; cases x.getLsbD i <;> simp
theorem b_over2 (x y z : BitVec 256) : (x ||| y &&& z == (x ||| y) &&& (x ||| z)) = true := by
  rw [beq_iff_eq]; apply BitVec.eq_of_getLsbD_eq; intro i _; simp only [BitVec.getLsbD_and, BitVec.getLsbD_or]; cases x.getLsbD i <;> simp
theorem b_nn (x : BitVec 256) : (~~~ (~~~ x) == x) = true := by rw [BitVec.not_not]; exact beq_self_eq_true _
theorem b_dm (x y : BitVec 256) : (~~~ (x ||| y) == ~~~ x &&& ~~~ y) = true := by
  rw [beq_iff_eq]; apply BitVec.eq_of_getLsbD_eq; intro i hi; simp only [BitVec.getLsbD_and, BitVec.getLsbD_or, BitVec.getLsbD_not, hi, decide_true, Bool.true_and, Bool.not_or]
theorem b_less (x y : BitVec 256) : (x &&& ~~~ y == x &&& ~~~ y) = true := beq_self_eq_true _
theorem b_end1 (x : BitVec 256) : (x &&& ~~~ x == 0#256) = true := by
  rw [beq_iff_eq]; apply BitVec.eq_of_getLsbD_eq; intro i hi; simp only [BitVec.getLsbD_and, BitVec.getLsbD_not, hi, decide_true, Bool.true_and]; cases x.getLsbD i <;> simp
theorem b_end2 (x : BitVec 256) : (x ||| ~~~ x == ~~~ 0#256) = true := by
  rw [beq_iff_eq]; apply BitVec.eq_of_getLsbD_eq; intro i hi; simp only [BitVec.getLsbD_or, BitVec.getLsbD_not, hi, decide_true, Bool.true_and]; cases x.getLsbD i <;> simp

set_option maxRecDepth 100000 in
set_option maxHeartbeats 8000000 in
theorem algebra_any (x y z : BitVec 256) (w : World) :
    Calls Try.prog 3 #[sv x, sv y, sv z] w fun e w' => e = .returned (.bool true) ∧ Below w.heap.size w w' := by
  have HA := (show Hid _ from At3.start w x y z)
  have heq := eq24
  have p1 := b_uassoc x y z
  have p2 := b_ucomm x y
  have p3 := b_uself x
  go_enter Try.func3, Try.ntmps3
  go_wp2_with fail
  refine (works_any _).mono ?_
  rintro e w1 ⟨rfl, hb1⟩
  replace HA := (show Hid _ from HA.out.step hb1)
  clear hb1
  obtain ⟨l0, c0, c1, c2, c3, f0, f1, f2, f3⟩ := HA.out.x
  obtain ⟨l1, d0, d1, d2, d3, g0, g1, g2, g3⟩ := HA.out.y
  obtain ⟨l2, e0, e1, e2, e3, k0, k1, k2, k3⟩ := HA.out.z
  go_wp2_with fail
  go_region_held3 (fun w' => w'.cell? ⟨w.heap.size, 0, none⟩ = some (.int .u64 (wd x 0)) ∧ w'.cell? ⟨w.heap.size, 1, none⟩ = some (.int .u64 (wd x 1)) ∧ w'.cell? ⟨w.heap.size, 2, none⟩ = some (.int .u64 (wd x 2)) ∧ w'.cell? ⟨w.heap.size, 3, none⟩ = some (.int .u64 (wd x 3)) ∧ w'.cell? ⟨w.heap.size + 1, 0, none⟩ = some (.int .u64 (wd y 0)) ∧ w'.cell? ⟨w.heap.size + 1, 1, none⟩ = some (.int .u64 (wd y 1)) ∧ w'.cell? ⟨w.heap.size + 1, 2, none⟩ = some (.int .u64 (wd y 2)) ∧ w'.cell? ⟨w.heap.size + 1, 3, none⟩ = some (.int .u64 (wd y 3)) ∧ w'.cell? ⟨w.heap.size + 1 + 1, 0, none⟩ = some (.int .u64 (wd z 0)) ∧ w'.cell? ⟨w.heap.size + 1 + 1, 1, none⟩ = some (.int .u64 (wd z 1)) ∧ w'.cell? ⟨w.heap.size + 1 + 1, 2, none⟩ = some (.int .u64 (wd z 2)) ∧ w'.cell? ⟨w.heap.size + 1 + 1, 3, none⟩ = some (.int .u64 (wd z 3))) (first | exact ⟨HA.out.x.c0, HA.out.x.c1, HA.out.x.c2, HA.out.x.c3, HA.out.y.c0, HA.out.y.c1, HA.out.y.c2, HA.out.y.c3, HA.out.z.c0, HA.out.z.c1, HA.out.z.c2, HA.out.z.c3⟩ | go_keep) (first | (go_at_call 7; refine (union_any _ _ _).mono ?_; rintro e w1 ⟨rfl, hb⟩; have hA2 := (show At3 w w1 x y z from (by first | exact HA.out.step hb | exact HA.out.drew.step hb)); replace HA := (show Hid _ from hA2); clear hA2 hb) | (go_at_call 8; refine (meet_any _ _ _).mono ?_; rintro e w1 ⟨rfl, hb⟩; have hA2 := (show At3 w w1 x y z from (by first | exact HA.out.step hb | exact HA.out.drew.step hb)); replace HA := (show Hid _ from hA2); clear hA2 hb) | (go_at_call 9; refine (not_any _ _).mono ?_; rintro e w1 ⟨rfl, hb⟩; have hA2 := (show At3 w w1 x y z from (by first | exact HA.out.step hb | exact HA.out.drew.step hb)); replace HA := (show Hid _ from hA2); clear hA2 hb) | (go_at_call 10; refine (less_any _ _ _).mono ?_; rintro e w1 ⟨rfl, hb⟩; have hA2 := (show At3 w w1 x y z from (by first | exact HA.out.step hb | exact HA.out.drew.step hb)); replace HA := (show Hid _ from hA2); clear hA2 hb) | (go_at_call 11; refine (empty_any _ _).mono ?_; rintro e w1 ⟨rfl, hb⟩; have hA2 := (show At3 w w1 x y z from (by first | exact HA.out.step hb | exact HA.out.drew.step hb)); replace HA := (show Hid _ from hA2); clear hA2 hb) | (go_at_call 12; refine (full_any _ _).mono ?_; rintro e w1 ⟨rfl, hb⟩; have hA2 := (show At3 w w1 x y z from (by first | exact HA.out.step hb | exact HA.out.drew.step hb)); replace HA := (show Hid _ from hA2); clear hA2 hb))
  clear c0 c1 c2 c3 f0 f1 f2 f3 d0 d1 d2 d3 g0 g1 g2 g3 e0 e1 e2 e3 k0 k1 k2 k3 l0 l1 l2
  clear p1 p2 p3
  have p4 := b_massoc x y z
  have p5 := b_mcomm x y
  have p6 := b_absorb x y
  obtain ⟨l0, c0, c1, c2, c3, f0, f1, f2, f3⟩ := HA.out.x
  obtain ⟨l1, d0, d1, d2, d3, g0, g1, g2, g3⟩ := HA.out.y
  obtain ⟨l2, e0, e1, e2, e3, k0, k1, k2, k3⟩ := HA.out.z
  go_wp2_with fail
  go_region_held3 (fun w' => w'.cell? ⟨w.heap.size, 0, none⟩ = some (.int .u64 (wd x 0)) ∧ w'.cell? ⟨w.heap.size, 1, none⟩ = some (.int .u64 (wd x 1)) ∧ w'.cell? ⟨w.heap.size, 2, none⟩ = some (.int .u64 (wd x 2)) ∧ w'.cell? ⟨w.heap.size, 3, none⟩ = some (.int .u64 (wd x 3)) ∧ w'.cell? ⟨w.heap.size + 1, 0, none⟩ = some (.int .u64 (wd y 0)) ∧ w'.cell? ⟨w.heap.size + 1, 1, none⟩ = some (.int .u64 (wd y 1)) ∧ w'.cell? ⟨w.heap.size + 1, 2, none⟩ = some (.int .u64 (wd y 2)) ∧ w'.cell? ⟨w.heap.size + 1, 3, none⟩ = some (.int .u64 (wd y 3)) ∧ w'.cell? ⟨w.heap.size + 1 + 1, 0, none⟩ = some (.int .u64 (wd z 0)) ∧ w'.cell? ⟨w.heap.size + 1 + 1, 1, none⟩ = some (.int .u64 (wd z 1)) ∧ w'.cell? ⟨w.heap.size + 1 + 1, 2, none⟩ = some (.int .u64 (wd z 2)) ∧ w'.cell? ⟨w.heap.size + 1 + 1, 3, none⟩ = some (.int .u64 (wd z 3))) (first | exact ⟨HA.out.x.c0, HA.out.x.c1, HA.out.x.c2, HA.out.x.c3, HA.out.y.c0, HA.out.y.c1, HA.out.y.c2, HA.out.y.c3, HA.out.z.c0, HA.out.z.c1, HA.out.z.c2, HA.out.z.c3⟩ | go_keep) (first | (go_at_call 7; refine (union_any _ _ _).mono ?_; rintro e w1 ⟨rfl, hb⟩; have hA2 := (show At3 w w1 x y z from (by first | exact HA.out.step hb | exact HA.out.drew.step hb)); replace HA := (show Hid _ from hA2); clear hA2 hb) | (go_at_call 8; refine (meet_any _ _ _).mono ?_; rintro e w1 ⟨rfl, hb⟩; have hA2 := (show At3 w w1 x y z from (by first | exact HA.out.step hb | exact HA.out.drew.step hb)); replace HA := (show Hid _ from hA2); clear hA2 hb) | (go_at_call 9; refine (not_any _ _).mono ?_; rintro e w1 ⟨rfl, hb⟩; have hA2 := (show At3 w w1 x y z from (by first | exact HA.out.step hb | exact HA.out.drew.step hb)); replace HA := (show Hid _ from hA2); clear hA2 hb) | (go_at_call 10; refine (less_any _ _ _).mono ?_; rintro e w1 ⟨rfl, hb⟩; have hA2 := (show At3 w w1 x y z from (by first | exact HA.out.step hb | exact HA.out.drew.step hb)); replace HA := (show Hid _ from hA2); clear hA2 hb) | (go_at_call 11; refine (empty_any _ _).mono ?_; rintro e w1 ⟨rfl, hb⟩; have hA2 := (show At3 w w1 x y z from (by first | exact HA.out.step hb | exact HA.out.drew.step hb)); replace HA := (show Hid _ from hA2); clear hA2 hb) | (go_at_call 12; refine (full_any _ _).mono ?_; rintro e w1 ⟨rfl, hb⟩; have hA2 := (show At3 w w1 x y z from (by first | exact HA.out.step hb | exact HA.out.drew.step hb)); replace HA := (show Hid _ from hA2); clear hA2 hb))
  clear c0 c1 c2 c3 f0 f1 f2 f3 d0 d1 d2 d3 g0 g1 g2 g3 e0 e1 e2 e3 k0 k1 k2 k3 l0 l1 l2
  clear p4 p5 p6
  have p7 := b_over1 x y z
  have p8 := b_over2 x y z
  obtain ⟨l0, c0, c1, c2, c3, f0, f1, f2, f3⟩ := HA.out.x
  obtain ⟨l1, d0, d1, d2, d3, g0, g1, g2, g3⟩ := HA.out.y
  obtain ⟨l2, e0, e1, e2, e3, k0, k1, k2, k3⟩ := HA.out.z
  go_wp2_with fail
  go_region_held3 (fun w' => w'.cell? ⟨w.heap.size, 0, none⟩ = some (.int .u64 (wd x 0)) ∧ w'.cell? ⟨w.heap.size, 1, none⟩ = some (.int .u64 (wd x 1)) ∧ w'.cell? ⟨w.heap.size, 2, none⟩ = some (.int .u64 (wd x 2)) ∧ w'.cell? ⟨w.heap.size, 3, none⟩ = some (.int .u64 (wd x 3)) ∧ w'.cell? ⟨w.heap.size + 1, 0, none⟩ = some (.int .u64 (wd y 0)) ∧ w'.cell? ⟨w.heap.size + 1, 1, none⟩ = some (.int .u64 (wd y 1)) ∧ w'.cell? ⟨w.heap.size + 1, 2, none⟩ = some (.int .u64 (wd y 2)) ∧ w'.cell? ⟨w.heap.size + 1, 3, none⟩ = some (.int .u64 (wd y 3)) ∧ w'.cell? ⟨w.heap.size + 1 + 1, 0, none⟩ = some (.int .u64 (wd z 0)) ∧ w'.cell? ⟨w.heap.size + 1 + 1, 1, none⟩ = some (.int .u64 (wd z 1)) ∧ w'.cell? ⟨w.heap.size + 1 + 1, 2, none⟩ = some (.int .u64 (wd z 2)) ∧ w'.cell? ⟨w.heap.size + 1 + 1, 3, none⟩ = some (.int .u64 (wd z 3))) (first | exact ⟨HA.out.x.c0, HA.out.x.c1, HA.out.x.c2, HA.out.x.c3, HA.out.y.c0, HA.out.y.c1, HA.out.y.c2, HA.out.y.c3, HA.out.z.c0, HA.out.z.c1, HA.out.z.c2, HA.out.z.c3⟩ | go_keep) (first | (go_at_call 7; refine (union_any _ _ _).mono ?_; rintro e w1 ⟨rfl, hb⟩; have hA2 := (show At3 w w1 x y z from (by first | exact HA.out.step hb | exact HA.out.drew.step hb)); replace HA := (show Hid _ from hA2); clear hA2 hb) | (go_at_call 8; refine (meet_any _ _ _).mono ?_; rintro e w1 ⟨rfl, hb⟩; have hA2 := (show At3 w w1 x y z from (by first | exact HA.out.step hb | exact HA.out.drew.step hb)); replace HA := (show Hid _ from hA2); clear hA2 hb) | (go_at_call 9; refine (not_any _ _).mono ?_; rintro e w1 ⟨rfl, hb⟩; have hA2 := (show At3 w w1 x y z from (by first | exact HA.out.step hb | exact HA.out.drew.step hb)); replace HA := (show Hid _ from hA2); clear hA2 hb) | (go_at_call 10; refine (less_any _ _ _).mono ?_; rintro e w1 ⟨rfl, hb⟩; have hA2 := (show At3 w w1 x y z from (by first | exact HA.out.step hb | exact HA.out.drew.step hb)); replace HA := (show Hid _ from hA2); clear hA2 hb) | (go_at_call 11; refine (empty_any _ _).mono ?_; rintro e w1 ⟨rfl, hb⟩; have hA2 := (show At3 w w1 x y z from (by first | exact HA.out.step hb | exact HA.out.drew.step hb)); replace HA := (show Hid _ from hA2); clear hA2 hb) | (go_at_call 12; refine (full_any _ _).mono ?_; rintro e w1 ⟨rfl, hb⟩; have hA2 := (show At3 w w1 x y z from (by first | exact HA.out.step hb | exact HA.out.drew.step hb)); replace HA := (show Hid _ from hA2); clear hA2 hb))
  clear c0 c1 c2 c3 f0 f1 f2 f3 d0 d1 d2 d3 g0 g1 g2 g3 e0 e1 e2 e3 k0 k1 k2 k3 l0 l1 l2
  clear p7 p8
  have p9 := b_nn x
  have p10 := b_dm x y
  have p11 := b_less x y
  obtain ⟨l0, c0, c1, c2, c3, f0, f1, f2, f3⟩ := HA.out.x
  obtain ⟨l1, d0, d1, d2, d3, g0, g1, g2, g3⟩ := HA.out.y
  obtain ⟨l2, e0, e1, e2, e3, k0, k1, k2, k3⟩ := HA.out.z
  go_wp2_with fail
  go_region_held3 (fun w' => w'.cell? ⟨w.heap.size, 0, none⟩ = some (.int .u64 (wd x 0)) ∧ w'.cell? ⟨w.heap.size, 1, none⟩ = some (.int .u64 (wd x 1)) ∧ w'.cell? ⟨w.heap.size, 2, none⟩ = some (.int .u64 (wd x 2)) ∧ w'.cell? ⟨w.heap.size, 3, none⟩ = some (.int .u64 (wd x 3)) ∧ w'.cell? ⟨w.heap.size + 1, 0, none⟩ = some (.int .u64 (wd y 0)) ∧ w'.cell? ⟨w.heap.size + 1, 1, none⟩ = some (.int .u64 (wd y 1)) ∧ w'.cell? ⟨w.heap.size + 1, 2, none⟩ = some (.int .u64 (wd y 2)) ∧ w'.cell? ⟨w.heap.size + 1, 3, none⟩ = some (.int .u64 (wd y 3)) ∧ w'.cell? ⟨w.heap.size + 1 + 1, 0, none⟩ = some (.int .u64 (wd z 0)) ∧ w'.cell? ⟨w.heap.size + 1 + 1, 1, none⟩ = some (.int .u64 (wd z 1)) ∧ w'.cell? ⟨w.heap.size + 1 + 1, 2, none⟩ = some (.int .u64 (wd z 2)) ∧ w'.cell? ⟨w.heap.size + 1 + 1, 3, none⟩ = some (.int .u64 (wd z 3))) (first | exact ⟨HA.out.x.c0, HA.out.x.c1, HA.out.x.c2, HA.out.x.c3, HA.out.y.c0, HA.out.y.c1, HA.out.y.c2, HA.out.y.c3, HA.out.z.c0, HA.out.z.c1, HA.out.z.c2, HA.out.z.c3⟩ | go_keep) (first | (go_at_call 7; refine (union_any _ _ _).mono ?_; rintro e w1 ⟨rfl, hb⟩; have hA2 := (show At3 w w1 x y z from (by first | exact HA.out.step hb | exact HA.out.drew.step hb)); replace HA := (show Hid _ from hA2); clear hA2 hb) | (go_at_call 8; refine (meet_any _ _ _).mono ?_; rintro e w1 ⟨rfl, hb⟩; have hA2 := (show At3 w w1 x y z from (by first | exact HA.out.step hb | exact HA.out.drew.step hb)); replace HA := (show Hid _ from hA2); clear hA2 hb) | (go_at_call 9; refine (not_any _ _).mono ?_; rintro e w1 ⟨rfl, hb⟩; have hA2 := (show At3 w w1 x y z from (by first | exact HA.out.step hb | exact HA.out.drew.step hb)); replace HA := (show Hid _ from hA2); clear hA2 hb) | (go_at_call 10; refine (less_any _ _ _).mono ?_; rintro e w1 ⟨rfl, hb⟩; have hA2 := (show At3 w w1 x y z from (by first | exact HA.out.step hb | exact HA.out.drew.step hb)); replace HA := (show Hid _ from hA2); clear hA2 hb) | (go_at_call 11; refine (empty_any _ _).mono ?_; rintro e w1 ⟨rfl, hb⟩; have hA2 := (show At3 w w1 x y z from (by first | exact HA.out.step hb | exact HA.out.drew.step hb)); replace HA := (show Hid _ from hA2); clear hA2 hb) | (go_at_call 12; refine (full_any _ _).mono ?_; rintro e w1 ⟨rfl, hb⟩; have hA2 := (show At3 w w1 x y z from (by first | exact HA.out.step hb | exact HA.out.drew.step hb)); replace HA := (show Hid _ from hA2); clear hA2 hb))
  clear c0 c1 c2 c3 f0 f1 f2 f3 d0 d1 d2 d3 g0 g1 g2 g3 e0 e1 e2 e3 k0 k1 k2 k3 l0 l1 l2
  clear p9 p10 p11
  have p12 := b_end1 x
  have p13 := b_end2 x
  obtain ⟨l0, c0, c1, c2, c3, f0, f1, f2, f3⟩ := HA.out.x
  obtain ⟨l1, d0, d1, d2, d3, g0, g1, g2, g3⟩ := HA.out.y
  obtain ⟨l2, e0, e1, e2, e3, k0, k1, k2, k3⟩ := HA.out.z
  go_wp2_with fail
  go_region_held3 (fun w' => w'.cell? ⟨w.heap.size, 0, none⟩ = some (.int .u64 (wd x 0)) ∧ w'.cell? ⟨w.heap.size, 1, none⟩ = some (.int .u64 (wd x 1)) ∧ w'.cell? ⟨w.heap.size, 2, none⟩ = some (.int .u64 (wd x 2)) ∧ w'.cell? ⟨w.heap.size, 3, none⟩ = some (.int .u64 (wd x 3)) ∧ w'.cell? ⟨w.heap.size + 1, 0, none⟩ = some (.int .u64 (wd y 0)) ∧ w'.cell? ⟨w.heap.size + 1, 1, none⟩ = some (.int .u64 (wd y 1)) ∧ w'.cell? ⟨w.heap.size + 1, 2, none⟩ = some (.int .u64 (wd y 2)) ∧ w'.cell? ⟨w.heap.size + 1, 3, none⟩ = some (.int .u64 (wd y 3)) ∧ w'.cell? ⟨w.heap.size + 1 + 1, 0, none⟩ = some (.int .u64 (wd z 0)) ∧ w'.cell? ⟨w.heap.size + 1 + 1, 1, none⟩ = some (.int .u64 (wd z 1)) ∧ w'.cell? ⟨w.heap.size + 1 + 1, 2, none⟩ = some (.int .u64 (wd z 2)) ∧ w'.cell? ⟨w.heap.size + 1 + 1, 3, none⟩ = some (.int .u64 (wd z 3))) (first | exact ⟨HA.out.x.c0, HA.out.x.c1, HA.out.x.c2, HA.out.x.c3, HA.out.y.c0, HA.out.y.c1, HA.out.y.c2, HA.out.y.c3, HA.out.z.c0, HA.out.z.c1, HA.out.z.c2, HA.out.z.c3⟩ | go_keep) (first | (go_at_call 7; refine (union_any _ _ _).mono ?_; rintro e w1 ⟨rfl, hb⟩; have hA2 := (show At3 w w1 x y z from (by first | exact HA.out.step hb | exact HA.out.drew.step hb)); replace HA := (show Hid _ from hA2); clear hA2 hb) | (go_at_call 8; refine (meet_any _ _ _).mono ?_; rintro e w1 ⟨rfl, hb⟩; have hA2 := (show At3 w w1 x y z from (by first | exact HA.out.step hb | exact HA.out.drew.step hb)); replace HA := (show Hid _ from hA2); clear hA2 hb) | (go_at_call 9; refine (not_any _ _).mono ?_; rintro e w1 ⟨rfl, hb⟩; have hA2 := (show At3 w w1 x y z from (by first | exact HA.out.step hb | exact HA.out.drew.step hb)); replace HA := (show Hid _ from hA2); clear hA2 hb) | (go_at_call 10; refine (less_any _ _ _).mono ?_; rintro e w1 ⟨rfl, hb⟩; have hA2 := (show At3 w w1 x y z from (by first | exact HA.out.step hb | exact HA.out.drew.step hb)); replace HA := (show Hid _ from hA2); clear hA2 hb) | (go_at_call 11; refine (empty_any _ _).mono ?_; rintro e w1 ⟨rfl, hb⟩; have hA2 := (show At3 w w1 x y z from (by first | exact HA.out.step hb | exact HA.out.drew.step hb)); replace HA := (show Hid _ from hA2); clear hA2 hb) | (go_at_call 12; refine (full_any _ _).mono ?_; rintro e w1 ⟨rfl, hb⟩; have hA2 := (show At3 w w1 x y z from (by first | exact HA.out.step hb | exact HA.out.drew.step hb)); replace HA := (show Hid _ from hA2); clear hA2 hb))
  go_wp2_with fail
  go_ret
  exact ⟨rfl, HA.out.b⟩
end Go.Proofs.Ytlcmlipldkpliab
