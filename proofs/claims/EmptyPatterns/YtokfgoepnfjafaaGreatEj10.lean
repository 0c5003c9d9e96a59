/- DERIVED. Plain mathematics and walks, laid together (10). -/
import Derived.StillTailTactics
import Derived.Deep.RegionLaw
import Derived.Test.YtokfgoepnfjafaaGreatEj09
namespace Go.Proofs.YtokfgoepnfjafaaGreat.N
open Go.RowKit Go.Maps
open Go.Proofs.YtokfgoepnfjafaaGreat.T
set_option maxRecDepth 100000 in
set_option maxHeartbeats 16000000 in
theorem nodeD_10 {x : Em} (nd : Nd) (A Ak An : Option Addr) (gn c ck nn cn : Nat) (ho : nd.op = 10) (w : World) (hp : RdE w Ak [x]) : Calls Tryz.prog 47 #[.agg #[.slice A gn c], ndG nd, .slice Ak 1 ck, .slice An nn cn] w fun e w' => e = .returned (emG (d10 x)) ∧ Below w.heap.size w w' := by
  have t1 : (nd.op == 1) = false := by rw [beq_eq_false_iff_ne]; omega
  have t17 : (nd.op == 17) = false := by rw [beq_eq_false_iff_ne]; omega
  have t14 : (nd.op == 14) = false := by rw [beq_eq_false_iff_ne]; omega
  have t16 : (nd.op == 16) = false := by rw [beq_eq_false_iff_ne]; omega
  have t9 : (nd.op == 9) = false := by rw [beq_eq_false_iff_ne]; omega
  have t15 : (nd.op == 15) = false := by rw [beq_eq_false_iff_ne]; omega
  have t2 : (nd.op == 2) = false := by rw [beq_eq_false_iff_ne]; omega
  have t3 : (nd.op == 3) = false := by rw [beq_eq_false_iff_ne]; omega
  have t5 : (nd.op == 5) = false := by rw [beq_eq_false_iff_ne]; omega
  have t4 : (nd.op == 4) = false := by rw [beq_eq_false_iff_ne]; omega
  have t6 : (nd.op == 6) = false := by rw [beq_eq_false_iff_ne]; omega
  have t7 : (nd.op == 7) = false := by rw [beq_eq_false_iff_ne]; omega
  have t8 : (nd.op == 8) = false := by rw [beq_eq_false_iff_ne]; omega
  have t10 : (nd.op == 10) = true := by rw [ho]; rfl
  have t11 : (nd.op == 11) = false := by rw [beq_eq_false_iff_ne]; omega
  have t12 : (nd.op == 12) = false := by rw [beq_eq_false_iff_ne]; omega
  have t13 : (nd.op == 13) = false := by rw [beq_eq_false_iff_ne]; omega
  clear ho
  obtain ⟨g, o, rfl, lg, hEB⟩ := hp (by simp)
  have hx0 := hEB 0 x rfl
  rw [Nat.zero_mul, Nat.add_zero] at hx0
  obtain ⟨xn, xc, xl, xm⟩ := x
  have H1 := (show Hid (∀ w, Calls Tryz.prog 61 #[.int .i64 xm] w fun e w' => e = .returned (.int .i64 (agE xm)) ∧ w' = w) from fun w => againD_len _ w)
  have HS := (show Hid (d10 ⟨xn, xc, xl, xm⟩ = ⟨xn, xc, xl, agE xm⟩) from rfl)
  rw [HS.out]
  clear HS
  generalize agE xm = ag at *
  obtain ⟨w4, hw4⟩ : ∃ w4, w4 = (((w.alloc (.cells #[.slice A gn c] 24)).alloc (.cells #[.int .i64 nd.op, .int .i64 nd.nn, .string nd.tx, .int .u64 nd.s0, .int .u64 nd.s1, .int .u64 nd.s2, .int .u64 nd.s3] 62)).alloc (.cells #[.bool false, .bool false, .int .i64 0, .int .i64 0] 33)).alloc (.cells #[.bool false, .bool false, .int .i64 0, .int .i64 0] 33) := ⟨_, rfl⟩
  have HE4 := (show Hid ((((w.alloc (.cells #[.slice A gn c] 24)).alloc (.cells #[.int .i64 nd.op, .int .i64 nd.nn, .string nd.tx, .int .u64 nd.s0, .int .u64 nd.s1, .int .u64 nd.s2, .int .u64 nd.s3] 62)).alloc (.cells #[.bool false, .bool false, .int .i64 0, .int .i64 0] 33)).alloc (.cells #[.bool false, .bool false, .int .i64 0, .int .i64 0] 33) = w4) from hw4.symm)
  have h4 : D6 w w4 (.slice A gn c) nd e0 := by rw [hw4]; exact D6.of (D5.start w _ nd)
  have HE5 := (show Hid ((((w4.setCell ⟨w.heap.size + 3, 0, none⟩ (.bool false)).setCell ⟨w.heap.size + 3, 1, none⟩ (.bool false)).setCell ⟨w.heap.size + 3, 2, none⟩ (.int .i64 0)).setCell ⟨w.heap.size + 3, 3, none⟩ (.int .i64 0) = w4) from h4.same0)
  obtain ⟨w6, hw6⟩ : ∃ w6, w6 = (((w4.setCell ⟨w.heap.size + 3, 0, none⟩ (.bool xn)).setCell ⟨w.heap.size + 3, 1, none⟩ (.bool xc)).setCell ⟨w.heap.size + 3, 2, none⟩ (.int .i64 xl)).setCell ⟨w.heap.size + 3, 3, none⟩ (.int .i64 xm) := ⟨_, rfl⟩
  have HE6 := (show Hid ((((w4.setCell ⟨w.heap.size + 3, 0, none⟩ (.bool xn)).setCell ⟨w.heap.size + 3, 1, none⟩ (.bool xc)).setCell ⟨w.heap.size + 3, 2, none⟩ (.int .i64 xl)).setCell ⟨w.heap.size + 3, 3, none⟩ (.int .i64 xm) = w6) from hw6.symm)
  have h6 : D6 w w6 (.slice A gn c) nd ⟨xn, xc, xl, xm⟩ := by rw [hw6]; exact h4.put ⟨xn, xc, xl, xm⟩
  have H6 := (show Hid (D6 w w6 (.slice A gn c) nd ⟨xn, xc, xl, xm⟩) from h6)
  have a0 : w4.cell? ⟨w.heap.size + 3, 0, none⟩ = some (.bool false) := h4.a.eb.c0
  have a1 : w4.cell? ⟨w.heap.size + 3, 1, none⟩ = some (.bool false) := h4.a.eb.c1
  have a2 : w4.cell? ⟨w.heap.size + 3, 2, none⟩ = some (.int .i64 0) := h4.a.eb.c2
  have a3 : w4.cell? ⟨w.heap.size + 3, 3, none⟩ = some (.int .i64 0) := h4.a.eb.c3
  have b0 := h4.a.fz 0
  have b1 := h4.a.fz 1
  have b2 := h4.a.fz 2
  have b3 := h4.a.fz 3
  obtain ⟨k0, k1, k2, k3⟩ := hx0.same (h4.b.block g lg)
  simp only at k0 k1 k2 k3
  have n0 : w6.cell? ⟨w.heap.size + 1, 0, none⟩ = some (.int .i64 nd.op) := h6.n.nb.c0
  have n1 : w6.cell? ⟨w.heap.size + 1, 1, none⟩ = some (.int .i64 nd.nn) := h6.n.nb.c1
  have HR := (show Hid _ from h6.ret ⟨xn, xc, xl, ag⟩)
  have f0 := H6.out.z.fz 0
  have f1 := H6.out.z.fz 1
  have f2 := H6.out.z.fz 2
  have f3 := H6.out.z.fz 3
  have z0 : w6.cell? ⟨w.heap.size + 2, 0, none⟩ = some (.bool false) := H6.out.z.eb.c0
  have z1 : w6.cell? ⟨w.heap.size + 2, 1, none⟩ = some (.bool false) := H6.out.z.eb.c1
  have z2 : w6.cell? ⟨w.heap.size + 2, 2, none⟩ = some (.int .i64 0) := H6.out.z.eb.c2
  have z3 : w6.cell? ⟨w.heap.size + 2, 3, none⟩ = some (.int .i64 0) := H6.out.z.eb.c3
  have HD := (show Hid (D6 w w6.drew (.slice A gn c) nd ⟨xn, xc, xl, xm⟩) from h6.later (Below.refl _ _).drew)
  have n9 : w6.drew.cell? ⟨w.heap.size + 1, 1, none⟩ = some (.int .i64 nd.nn) := HD.out.n.nb.c1
  have x0 : w6.drew.cell? ⟨w.heap.size + 3, 0, none⟩ = some (.bool xn) := HD.out.a.eb.c0
  have x1 : w6.drew.cell? ⟨w.heap.size + 3, 1, none⟩ = some (.bool xc) := HD.out.a.eb.c1
  have x2 : w6.drew.cell? ⟨w.heap.size + 3, 2, none⟩ = some (.int .i64 xl) := HD.out.a.eb.c2
  have x3 : w6.drew.cell? ⟨w.heap.size + 3, 3, none⟩ = some (.int .i64 xm) := HD.out.a.eb.c3
  clear hw4 hw6 h4 h6 hEB hx0 lg hp
  go_enter Tryz.func47, Tryz.ntmps47
  go_wp2_with (first | rw [HE4.out] | rw [HE5.out] | rw [HE6.out])
  clear HE4 HE5 HE6 a0 a1 a2 a3 b0 b1 b2 b3 k0 k1 k2 k3 n0 n1 H6 t1 t17 t14 t16 t9 t15 t2 t3 t5 t4 t6 t7 t8 t10 t11 t12 t13
  try clear HD
  try rw [show w.heap.size + 1 + 1 + 1 = w.heap.size + 3 from rfl]
  try rw [show w.heap.size + 1 + 1 = w.heap.size + 2 from rfl]
  refine wp_region_still_tail 10 (by kernel_rfl) (by kernel_rfl) ?_
  simp only [List.take_succ_cons, List.take_zero, List.drop_succ_cons, List.drop_zero]
  repeat (first | (with_reducible refine wpStill_plain9 rfl (fun K hK => ?_); go_simp; with_reducible refine hK _ ?_; clear hK K) | (with_reducible refine wpStill_plain9 rfl (fun K hK => ?_); go_simp; with_reducible refine ⟨_, H1.out _, hK _ ?_⟩; clear hK K))
  with_reducible refine wpStill_nil ?_
  change wpList _ _ _ _ _ (World.drew w6)
  clear x0 x1 x2 x3 n9 H1
  go_wp2_with fail
  refine ret_ex (s := 8) (k := w.heap.size + 2) (e := ⟨xn, xc, xl, ag⟩) (by rfl) (by rfl) (by rfl) (HR.out.1.below (Below.refl _ _).drew) ?_
  exact ⟨rfl, HR.out.2.drew⟩
end Go.Proofs.YtokfgoepnfjafaaGreat.N

namespace Go.Proofs.YtokfgoepnfjafaaGreat.N
open Go.RowKit Go.Maps
open Go.Proofs.YtokfgoepnfjafaaGreat.T
set_option maxRecDepth 100000 in
set_option maxHeartbeats 16000000 in
theorem nodeD_14 {x : Em} (nd : Nd) (A Ak An : Option Addr) (gn c ck nn cn : Nat) (ho : nd.op = 14) (hz : nd.nn ≠ 0) (h0 : 0 ≤ nd.nn) (h1 : nd.nn ≤ 50) (hx : OkE x) (w : World) (hp : RdE w Ak [x]) : Calls Tryz.prog 47 #[.agg #[.slice A gn c], ndG nd, .slice Ak 1 ck, .slice An nn cn] w fun e w' => e = .returned (emG (d14 nd.nn x)) ∧ Below w.heap.size w w' := by
  have tn : (nd.nn == 0) = false := by rw [beq_eq_false_iff_ne]; exact hz
  clear hz
  have t1 : (nd.op == 1) = false := by rw [beq_eq_false_iff_ne]; omega
  have t17 : (nd.op == 17) = false := by rw [beq_eq_false_iff_ne]; omega
  have t14 : (nd.op == 14) = true := by rw [ho]; rfl
  have t16 : (nd.op == 16) = false := by rw [beq_eq_false_iff_ne]; omega
  have t9 : (nd.op == 9) = false := by rw [beq_eq_false_iff_ne]; omega
  have t15 : (nd.op == 15) = false := by rw [beq_eq_false_iff_ne]; omega
  have t2 : (nd.op == 2) = false := by rw [beq_eq_false_iff_ne]; omega
  have t3 : (nd.op == 3) = false := by rw [beq_eq_false_iff_ne]; omega
  have t5 : (nd.op == 5) = false := by rw [beq_eq_false_iff_ne]; omega
  have t4 : (nd.op == 4) = false := by rw [beq_eq_false_iff_ne]; omega
  have t6 : (nd.op == 6) = false := by rw [beq_eq_false_iff_ne]; omega
  have t7 : (nd.op == 7) = false := by rw [beq_eq_false_iff_ne]; omega
  have t8 : (nd.op == 8) = false := by rw [beq_eq_false_iff_ne]; omega
  have t10 : (nd.op == 10) = false := by rw [beq_eq_false_iff_ne]; omega
  have t11 : (nd.op == 11) = false := by rw [beq_eq_false_iff_ne]; omega
  have t12 : (nd.op == 12) = false := by rw [beq_eq_false_iff_ne]; omega
  have t13 : (nd.op == 13) = false := by rw [beq_eq_false_iff_ne]; omega
  clear ho
  obtain ⟨g, o, rfl, lg, hEB⟩ := hp (by simp)
  have hx0 := hEB 0 x rfl
  rw [Nat.zero_mul, Nat.add_zero] at hx0
  obtain ⟨xn, xc, xl, xm⟩ := x
  have H1 := (show Hid (∀ w, Calls Tryz.prog 67 #[.int .i64 nd.nn, .int .i64 xl] w fun e w' => e = .returned (.int .i64 (timE nd.nn xl)) ∧ w' = w) from fun w => timesD_any _ _ (wrap_mul h0 h1 hx.l1 hx.l2) w)
  have H2 := (show Hid (∀ w, Calls Tryz.prog 62 #[.int .i64 (timE nd.nn xl)] w fun e w' => e = .returned (.int .i64 (leC (timE nd.nn xl))) ∧ w' = w) from fun w => leastD_any _ w)
  have H3 := (show Hid (∀ w, Calls Tryz.prog 67 #[.int .i64 nd.nn, .int .i64 xm] w fun e w' => e = .returned (.int .i64 (timE nd.nn xm)) ∧ w' = w) from fun w => timesD_any _ _ (wrap_mul h0 h1 hx.m1 hx.m2) w)
  have H4 := (show Hid (∀ w, Calls Tryz.prog 64 #[.int .i64 (timE nd.nn xm)] w fun e w' => e = .returned (.int .i64 (moC (timE nd.nn xm))) ∧ w' = w) from fun w => mostD_any _ w)
  clear hx h0 h1
  have HS := (show Hid (d14 nd.nn ⟨xn, xc, xl, xm⟩ = ⟨xn, xc, leC (timE nd.nn xl), moC (timE nd.nn xm)⟩) from rfl)
  rw [HS.out]
  clear HS
  generalize timE nd.nn xl = tl at *
  generalize timE nd.nn xm = tm at *
  generalize leC tl = cl at *
  generalize moC tm = cm at *
  obtain ⟨w4, hw4⟩ : ∃ w4, w4 = (((w.alloc (.cells #[.slice A gn c] 24)).alloc (.cells #[.int .i64 nd.op, .int .i64 nd.nn, .string nd.tx, .int .u64 nd.s0, .int .u64 nd.s1, .int .u64 nd.s2, .int .u64 nd.s3] 62)).alloc (.cells #[.bool false, .bool false, .int .i64 0, .int .i64 0] 33)).alloc (.cells #[.bool false, .bool false, .int .i64 0, .int .i64 0] 33) := ⟨_, rfl⟩
  have HE4 := (show Hid ((((w.alloc (.cells #[.slice A gn c] 24)).alloc (.cells #[.int .i64 nd.op, .int .i64 nd.nn, .string nd.tx, .int .u64 nd.s0, .int .u64 nd.s1, .int .u64 nd.s2, .int .u64 nd.s3] 62)).alloc (.cells #[.bool false, .bool false, .int .i64 0, .int .i64 0] 33)).alloc (.cells #[.bool false, .bool false, .int .i64 0, .int .i64 0] 33) = w4) from hw4.symm)
  have h4 : D6 w w4 (.slice A gn c) nd e0 := by rw [hw4]; exact D6.of (D5.start w _ nd)
  have HE5 := (show Hid ((((w4.setCell ⟨w.heap.size + 3, 0, none⟩ (.bool false)).setCell ⟨w.heap.size + 3, 1, none⟩ (.bool false)).setCell ⟨w.heap.size + 3, 2, none⟩ (.int .i64 0)).setCell ⟨w.heap.size + 3, 3, none⟩ (.int .i64 0) = w4) from h4.same0)
  obtain ⟨w6, hw6⟩ : ∃ w6, w6 = (((w4.setCell ⟨w.heap.size + 3, 0, none⟩ (.bool xn)).setCell ⟨w.heap.size + 3, 1, none⟩ (.bool xc)).setCell ⟨w.heap.size + 3, 2, none⟩ (.int .i64 xl)).setCell ⟨w.heap.size + 3, 3, none⟩ (.int .i64 xm) := ⟨_, rfl⟩
  have HE6 := (show Hid ((((w4.setCell ⟨w.heap.size + 3, 0, none⟩ (.bool xn)).setCell ⟨w.heap.size + 3, 1, none⟩ (.bool xc)).setCell ⟨w.heap.size + 3, 2, none⟩ (.int .i64 xl)).setCell ⟨w.heap.size + 3, 3, none⟩ (.int .i64 xm) = w6) from hw6.symm)
  have h6 : D6 w w6 (.slice A gn c) nd ⟨xn, xc, xl, xm⟩ := by rw [hw6]; exact h4.put ⟨xn, xc, xl, xm⟩
  have H6 := (show Hid (D6 w w6 (.slice A gn c) nd ⟨xn, xc, xl, xm⟩) from h6)
  have a0 : w4.cell? ⟨w.heap.size + 3, 0, none⟩ = some (.bool false) := h4.a.eb.c0
  have a1 : w4.cell? ⟨w.heap.size + 3, 1, none⟩ = some (.bool false) := h4.a.eb.c1
  have a2 : w4.cell? ⟨w.heap.size + 3, 2, none⟩ = some (.int .i64 0) := h4.a.eb.c2
  have a3 : w4.cell? ⟨w.heap.size + 3, 3, none⟩ = some (.int .i64 0) := h4.a.eb.c3
  have b0 := h4.a.fz 0
  have b1 := h4.a.fz 1
  have b2 := h4.a.fz 2
  have b3 := h4.a.fz 3
  obtain ⟨k0, k1, k2, k3⟩ := hx0.same (h4.b.block g lg)
  simp only at k0 k1 k2 k3
  have n0 : w6.cell? ⟨w.heap.size + 1, 0, none⟩ = some (.int .i64 nd.op) := h6.n.nb.c0
  have n1 : w6.cell? ⟨w.heap.size + 1, 1, none⟩ = some (.int .i64 nd.nn) := h6.n.nb.c1
  have HR := (show Hid _ from h6.ret ⟨xn, xc, cl, cm⟩)
  have f0 := H6.out.z.fz 0
  have f1 := H6.out.z.fz 1
  have f2 := H6.out.z.fz 2
  have f3 := H6.out.z.fz 3
  have z0 : w6.cell? ⟨w.heap.size + 2, 0, none⟩ = some (.bool false) := H6.out.z.eb.c0
  have z1 : w6.cell? ⟨w.heap.size + 2, 1, none⟩ = some (.bool false) := H6.out.z.eb.c1
  have z2 : w6.cell? ⟨w.heap.size + 2, 2, none⟩ = some (.int .i64 0) := H6.out.z.eb.c2
  have z3 : w6.cell? ⟨w.heap.size + 2, 3, none⟩ = some (.int .i64 0) := H6.out.z.eb.c3
  have HD := (show Hid (D6 w w6.drew (.slice A gn c) nd ⟨xn, xc, xl, xm⟩) from h6.later (Below.refl _ _).drew)
  have n9 : w6.drew.cell? ⟨w.heap.size + 1, 1, none⟩ = some (.int .i64 nd.nn) := HD.out.n.nb.c1
  have x0 : w6.drew.cell? ⟨w.heap.size + 3, 0, none⟩ = some (.bool xn) := HD.out.a.eb.c0
  have x1 : w6.drew.cell? ⟨w.heap.size + 3, 1, none⟩ = some (.bool xc) := HD.out.a.eb.c1
  have x2 : w6.drew.cell? ⟨w.heap.size + 3, 2, none⟩ = some (.int .i64 xl) := HD.out.a.eb.c2
  have x3 : w6.drew.cell? ⟨w.heap.size + 3, 3, none⟩ = some (.int .i64 xm) := HD.out.a.eb.c3
  clear hw4 hw6 h4 h6 hEB hx0 lg hp
  go_enter Tryz.func47, Tryz.ntmps47
  go_wp2_with (first | rw [HE4.out] | rw [HE5.out] | rw [HE6.out])
  clear HE4 HE5 HE6 a0 a1 a2 a3 b0 b1 b2 b3 k0 k1 k2 k3 n0 n1 H6 t1 t17 t14 t16 t9 t15 t2 t3 t5 t4 t6 t7 t8 t10 t11 t12 t13
  try clear HD
  try rw [show w.heap.size + 1 + 1 + 1 = w.heap.size + 3 from rfl]
  try rw [show w.heap.size + 1 + 1 = w.heap.size + 2 from rfl]
  refine wp_region_still_tail 17 (by kernel_rfl) (by kernel_rfl) ?_
  simp only [List.take_succ_cons, List.take_zero, List.drop_succ_cons, List.drop_zero]
  repeat (first | (with_reducible refine wpStill_plain9 rfl (fun K hK => ?_); go_simp; with_reducible refine hK _ ?_; clear hK K) | (with_reducible refine wpStill_plain9 rfl (fun K hK => ?_); go_simp; with_reducible refine ⟨_, H1.out _, hK _ ?_⟩; clear hK K) | (with_reducible refine wpStill_plain9 rfl (fun K hK => ?_); go_simp; with_reducible refine ⟨_, H2.out _, hK _ ?_⟩; clear hK K) | (with_reducible refine wpStill_plain9 rfl (fun K hK => ?_); go_simp; with_reducible refine ⟨_, H3.out _, hK _ ?_⟩; clear hK K) | (with_reducible refine wpStill_plain9 rfl (fun K hK => ?_); go_simp; with_reducible refine ⟨_, H4.out _, hK _ ?_⟩; clear hK K))
  with_reducible refine wpStill_nil ?_
  change wpList _ _ _ _ _ (World.drew w6)
  clear x0 x1 x2 x3 n9 H1 H2 H3 H4
  go_wp2_with fail
  refine ret_ex (s := 8) (k := w.heap.size + 2) (e := ⟨xn, xc, cl, cm⟩) (by rfl) (by rfl) (by rfl) (HR.out.1.below (Below.refl _ _).drew) ?_
  exact ⟨rfl, HR.out.2.drew⟩
set_option maxRecDepth 100000 in
set_option maxHeartbeats 16000000 in
theorem nodeD_15 {x : Em} (nd : Nd) (A Ak An : Option Addr) (gn c ck nn cn : Nat) (ho : nd.op = 15) (hz : nd.nn ≠ 0) (h0 : 0 ≤ nd.nn) (h1 : nd.nn ≤ 50) (hx : OkE x) (w : World) (hp : RdE w Ak [x]) : Calls Tryz.prog 47 #[.agg #[.slice A gn c], ndG nd, .slice Ak 1 ck, .slice An nn cn] w fun e w' => e = .returned (emG (d15 nd.nn x)) ∧ Below w.heap.size w w' := by
  have tn : (nd.nn == 0) = false := by rw [beq_eq_false_iff_ne]; exact hz
  clear hz
  have t1 : (nd.op == 1) = false := by rw [beq_eq_false_iff_ne]; omega
  have t17 : (nd.op == 17) = false := by rw [beq_eq_false_iff_ne]; omega
  have t14 : (nd.op == 14) = false := by rw [beq_eq_false_iff_ne]; omega
  have t16 : (nd.op == 16) = false := by rw [beq_eq_false_iff_ne]; omega
  have t9 : (nd.op == 9) = false := by rw [beq_eq_false_iff_ne]; omega
  have t15 : (nd.op == 15) = true := by rw [ho]; rfl
  have t2 : (nd.op == 2) = false := by rw [beq_eq_false_iff_ne]; omega
  have t3 : (nd.op == 3) = false := by rw [beq_eq_false_iff_ne]; omega
  have t5 : (nd.op == 5) = false := by rw [beq_eq_false_iff_ne]; omega
  have t4 : (nd.op == 4) = false := by rw [beq_eq_false_iff_ne]; omega
  have t6 : (nd.op == 6) = false := by rw [beq_eq_false_iff_ne]; omega
  have t7 : (nd.op == 7) = false := by rw [beq_eq_false_iff_ne]; omega
  have t8 : (nd.op == 8) = false := by rw [beq_eq_false_iff_ne]; omega
  have t10 : (nd.op == 10) = false := by rw [beq_eq_false_iff_ne]; omega
  have t11 : (nd.op == 11) = false := by rw [beq_eq_false_iff_ne]; omega
  have t12 : (nd.op == 12) = false := by rw [beq_eq_false_iff_ne]; omega
  have t13 : (nd.op == 13) = false := by rw [beq_eq_false_iff_ne]; omega
  clear ho
  obtain ⟨g, o, rfl, lg, hEB⟩ := hp (by simp)
  have hx0 := hEB 0 x rfl
  rw [Nat.zero_mul, Nat.add_zero] at hx0
  obtain ⟨xn, xc, xl, xm⟩ := x
  have H1 := (show Hid (∀ w, Calls Tryz.prog 67 #[.int .i64 nd.nn, .int .i64 xl] w fun e w' => e = .returned (.int .i64 (timE nd.nn xl)) ∧ w' = w) from fun w => timesD_any _ _ (wrap_mul h0 h1 hx.l1 hx.l2) w)
  have H2 := (show Hid (∀ w, Calls Tryz.prog 62 #[.int .i64 (timE nd.nn xl)] w fun e w' => e = .returned (.int .i64 (leC (timE nd.nn xl))) ∧ w' = w) from fun w => leastD_any _ w)
  have H5 := (show Hid (∀ w, Calls Tryz.prog 61 #[.int .i64 xm] w fun e w' => e = .returned (.int .i64 (agE xm)) ∧ w' = w) from fun w => againD_len _ w)
  clear hx h0 h1
  have HS := (show Hid (d15 nd.nn ⟨xn, xc, xl, xm⟩ = ⟨xn, xc, leC (timE nd.nn xl), agE xm⟩) from rfl)
  rw [HS.out]
  clear HS
  generalize timE nd.nn xl = tl at *
  generalize leC tl = cl at *
  generalize agE xm = ag at *
  obtain ⟨w4, hw4⟩ : ∃ w4, w4 = (((w.alloc (.cells #[.slice A gn c] 24)).alloc (.cells #[.int .i64 nd.op, .int .i64 nd.nn, .string nd.tx, .int .u64 nd.s0, .int .u64 nd.s1, .int .u64 nd.s2, .int .u64 nd.s3] 62)).alloc (.cells #[.bool false, .bool false, .int .i64 0, .int .i64 0] 33)).alloc (.cells #[.bool false, .bool false, .int .i64 0, .int .i64 0] 33) := ⟨_, rfl⟩
  have HE4 := (show Hid ((((w.alloc (.cells #[.slice A gn c] 24)).alloc (.cells #[.int .i64 nd.op, .int .i64 nd.nn, .string nd.tx, .int .u64 nd.s0, .int .u64 nd.s1, .int .u64 nd.s2, .int .u64 nd.s3] 62)).alloc (.cells #[.bool false, .bool false, .int .i64 0, .int .i64 0] 33)).alloc (.cells #[.bool false, .bool false, .int .i64 0, .int .i64 0] 33) = w4) from hw4.symm)
  have h4 : D6 w w4 (.slice A gn c) nd e0 := by rw [hw4]; exact D6.of (D5.start w _ nd)
  have HE5 := (show Hid ((((w4.setCell ⟨w.heap.size + 3, 0, none⟩ (.bool false)).setCell ⟨w.heap.size + 3, 1, none⟩ (.bool false)).setCell ⟨w.heap.size + 3, 2, none⟩ (.int .i64 0)).setCell ⟨w.heap.size + 3, 3, none⟩ (.int .i64 0) = w4) from h4.same0)
  obtain ⟨w6, hw6⟩ : ∃ w6, w6 = (((w4.setCell ⟨w.heap.size + 3, 0, none⟩ (.bool xn)).setCell ⟨w.heap.size + 3, 1, none⟩ (.bool xc)).setCell ⟨w.heap.size + 3, 2, none⟩ (.int .i64 xl)).setCell ⟨w.heap.size + 3, 3, none⟩ (.int .i64 xm) := ⟨_, rfl⟩
  have HE6 := (show Hid ((((w4.setCell ⟨w.heap.size + 3, 0, none⟩ (.bool xn)).setCell ⟨w.heap.size + 3, 1, none⟩ (.bool xc)).setCell ⟨w.heap.size + 3, 2, none⟩ (.int .i64 xl)).setCell ⟨w.heap.size + 3, 3, none⟩ (.int .i64 xm) = w6) from hw6.symm)
  have h6 : D6 w w6 (.slice A gn c) nd ⟨xn, xc, xl, xm⟩ := by rw [hw6]; exact h4.put ⟨xn, xc, xl, xm⟩
  have H6 := (show Hid (D6 w w6 (.slice A gn c) nd ⟨xn, xc, xl, xm⟩) from h6)
  have a0 : w4.cell? ⟨w.heap.size + 3, 0, none⟩ = some (.bool false) := h4.a.eb.c0
  have a1 : w4.cell? ⟨w.heap.size + 3, 1, none⟩ = some (.bool false) := h4.a.eb.c1
  have a2 : w4.cell? ⟨w.heap.size + 3, 2, none⟩ = some (.int .i64 0) := h4.a.eb.c2
  have a3 : w4.cell? ⟨w.heap.size + 3, 3, none⟩ = some (.int .i64 0) := h4.a.eb.c3
  have b0 := h4.a.fz 0
  have b1 := h4.a.fz 1
  have b2 := h4.a.fz 2
  have b3 := h4.a.fz 3
  obtain ⟨k0, k1, k2, k3⟩ := hx0.same (h4.b.block g lg)
  simp only at k0 k1 k2 k3
  have n0 : w6.cell? ⟨w.heap.size + 1, 0, none⟩ = some (.int .i64 nd.op) := h6.n.nb.c0
  have n1 : w6.cell? ⟨w.heap.size + 1, 1, none⟩ = some (.int .i64 nd.nn) := h6.n.nb.c1
  have HR := (show Hid _ from h6.ret ⟨xn, xc, cl, ag⟩)
  have f0 := H6.out.z.fz 0
  have f1 := H6.out.z.fz 1
  have f2 := H6.out.z.fz 2
  have f3 := H6.out.z.fz 3
  have z0 : w6.cell? ⟨w.heap.size + 2, 0, none⟩ = some (.bool false) := H6.out.z.eb.c0
  have z1 : w6.cell? ⟨w.heap.size + 2, 1, none⟩ = some (.bool false) := H6.out.z.eb.c1
  have z2 : w6.cell? ⟨w.heap.size + 2, 2, none⟩ = some (.int .i64 0) := H6.out.z.eb.c2
  have z3 : w6.cell? ⟨w.heap.size + 2, 3, none⟩ = some (.int .i64 0) := H6.out.z.eb.c3
  have HD := (show Hid (D6 w w6.drew (.slice A gn c) nd ⟨xn, xc, xl, xm⟩) from h6.later (Below.refl _ _).drew)
  have n9 : w6.drew.cell? ⟨w.heap.size + 1, 1, none⟩ = some (.int .i64 nd.nn) := HD.out.n.nb.c1
  have x0 : w6.drew.cell? ⟨w.heap.size + 3, 0, none⟩ = some (.bool xn) := HD.out.a.eb.c0
  have x1 : w6.drew.cell? ⟨w.heap.size + 3, 1, none⟩ = some (.bool xc) := HD.out.a.eb.c1
  have x2 : w6.drew.cell? ⟨w.heap.size + 3, 2, none⟩ = some (.int .i64 xl) := HD.out.a.eb.c2
  have x3 : w6.drew.cell? ⟨w.heap.size + 3, 3, none⟩ = some (.int .i64 xm) := HD.out.a.eb.c3
  clear hw4 hw6 h4 h6 hEB hx0 lg hp
  go_enter Tryz.func47, Tryz.ntmps47
  go_wp2_with (first | rw [HE4.out] | rw [HE5.out] | rw [HE6.out])
  clear HE4 HE5 HE6 a0 a1 a2 a3 b0 b1 b2 b3 k0 k1 k2 k3 n0 n1 H6 t1 t17 t14 t16 t9 t15 t2 t3 t5 t4 t6 t7 t8 t10 t11 t12 t13
  try clear HD
  try rw [show w.heap.size + 1 + 1 + 1 = w.heap.size + 3 from rfl]
  try rw [show w.heap.size + 1 + 1 = w.heap.size + 2 from rfl]
  refine wp_region_still_tail 14 (by kernel_rfl) (by kernel_rfl) ?_
  simp only [List.take_succ_cons, List.take_zero, List.drop_succ_cons, List.drop_zero]
  repeat (first | (with_reducible refine wpStill_plain9 rfl (fun K hK => ?_); go_simp; with_reducible refine hK _ ?_; clear hK K) | (with_reducible refine wpStill_plain9 rfl (fun K hK => ?_); go_simp; with_reducible refine ⟨_, H1.out _, hK _ ?_⟩; clear hK K) | (with_reducible refine wpStill_plain9 rfl (fun K hK => ?_); go_simp; with_reducible refine ⟨_, H2.out _, hK _ ?_⟩; clear hK K) | (with_reducible refine wpStill_plain9 rfl (fun K hK => ?_); go_simp; with_reducible refine ⟨_, H5.out _, hK _ ?_⟩; clear hK K))
  with_reducible refine wpStill_nil ?_
  change wpList _ _ _ _ _ (World.drew w6)
  clear x0 x1 x2 x3 n9 H1 H2 H5
  go_wp2_with fail
  refine ret_ex (s := 8) (k := w.heap.size + 2) (e := ⟨xn, xc, cl, ag⟩) (by rfl) (by rfl) (by rfl) (HR.out.1.below (Below.refl _ _).drew) ?_
  exact ⟨rfl, HR.out.2.drew⟩
end Go.Proofs.YtokfgoepnfjafaaGreat.N

namespace Go.Proofs.YtokfgoepnfjafaaGreat.N
open Go.RowKit Go.Maps
open Go.Proofs.YtokfgoepnfjafaaGreat.T
set_option maxRecDepth 100000 in
set_option maxHeartbeats 16000000 in
theorem nodeD_16 {x : Em} (nd : Nd) (A Ak An : Option Addr) (gn c ck nn cn : Nat) (ho : nd.op = 16) (hz : nd.nn ≠ 0) (h0 : 0 ≤ nd.nn) (h1 : nd.nn ≤ 50) (hx : OkE x) (w : World) (hp : RdE w Ak [x]) : Calls Tryz.prog 47 #[.agg #[.slice A gn c], ndG nd, .slice Ak 1 ck, .slice An nn cn] w fun e w' => e = .returned (emG (d16 nd.nn x)) ∧ Below w.heap.size w w' := by
  have tn : (nd.nn == 0) = false := by rw [beq_eq_false_iff_ne]; exact hz
  clear hz
  have t1 : (nd.op == 1) = false := by rw [beq_eq_false_iff_ne]; omega
  have t17 : (nd.op == 17) = false := by rw [beq_eq_false_iff_ne]; omega
  have t14 : (nd.op == 14) = false := by rw [beq_eq_false_iff_ne]; omega
  have t16 : (nd.op == 16) = true := by rw [ho]; rfl
  have t9 : (nd.op == 9) = false := by rw [beq_eq_false_iff_ne]; omega
  have t15 : (nd.op == 15) = false := by rw [beq_eq_false_iff_ne]; omega
  have t2 : (nd.op == 2) = false := by rw [beq_eq_false_iff_ne]; omega
  have t3 : (nd.op == 3) = false := by rw [beq_eq_false_iff_ne]; omega
  have t5 : (nd.op == 5) = false := by rw [beq_eq_false_iff_ne]; omega
  have t4 : (nd.op == 4) = false := by rw [beq_eq_false_iff_ne]; omega
  have t6 : (nd.op == 6) = false := by rw [beq_eq_false_iff_ne]; omega
  have t7 : (nd.op == 7) = false := by rw [beq_eq_false_iff_ne]; omega
  have t8 : (nd.op == 8) = false := by rw [beq_eq_false_iff_ne]; omega
  have t10 : (nd.op == 10) = false := by rw [beq_eq_false_iff_ne]; omega
  have t11 : (nd.op == 11) = false := by rw [beq_eq_false_iff_ne]; omega
  have t12 : (nd.op == 12) = false := by rw [beq_eq_false_iff_ne]; omega
  have t13 : (nd.op == 13) = false := by rw [beq_eq_false_iff_ne]; omega
  clear ho
  obtain ⟨g, o, rfl, lg, hEB⟩ := hp (by simp)
  have hx0 := hEB 0 x rfl
  rw [Nat.zero_mul, Nat.add_zero] at hx0
  obtain ⟨xn, xc, xl, xm⟩ := x
  have H3 := (show Hid (∀ w, Calls Tryz.prog 67 #[.int .i64 nd.nn, .int .i64 xm] w fun e w' => e = .returned (.int .i64 (timE nd.nn xm)) ∧ w' = w) from fun w => timesD_any _ _ (wrap_mul h0 h1 hx.m1 hx.m2) w)
  have H4 := (show Hid (∀ w, Calls Tryz.prog 64 #[.int .i64 (timE nd.nn xm)] w fun e w' => e = .returned (.int .i64 (moC (timE nd.nn xm))) ∧ w' = w) from fun w => mostD_any _ w)
  have HS := (show Hid (d16 nd.nn ⟨xn, xc, xl, xm⟩ = ⟨true, false, 0, moC (timE nd.nn xm)⟩) from rfl)
  rw [HS.out]
  clear HS hx h0 h1
  generalize timE nd.nn xm = tm at *
  generalize moC tm = cm at *
  obtain ⟨w4, hw4⟩ : ∃ w4, w4 = (((w.alloc (.cells #[.slice A gn c] 24)).alloc (.cells #[.int .i64 nd.op, .int .i64 nd.nn, .string nd.tx, .int .u64 nd.s0, .int .u64 nd.s1, .int .u64 nd.s2, .int .u64 nd.s3] 62)).alloc (.cells #[.bool false, .bool false, .int .i64 0, .int .i64 0] 33)).alloc (.cells #[.bool false, .bool false, .int .i64 0, .int .i64 0] 33) := ⟨_, rfl⟩
  have HE4 := (show Hid ((((w.alloc (.cells #[.slice A gn c] 24)).alloc (.cells #[.int .i64 nd.op, .int .i64 nd.nn, .string nd.tx, .int .u64 nd.s0, .int .u64 nd.s1, .int .u64 nd.s2, .int .u64 nd.s3] 62)).alloc (.cells #[.bool false, .bool false, .int .i64 0, .int .i64 0] 33)).alloc (.cells #[.bool false, .bool false, .int .i64 0, .int .i64 0] 33) = w4) from hw4.symm)
  have h4 : D6 w w4 (.slice A gn c) nd e0 := by rw [hw4]; exact D6.of (D5.start w _ nd)
  have HE5 := (show Hid ((((w4.setCell ⟨w.heap.size + 3, 0, none⟩ (.bool false)).setCell ⟨w.heap.size + 3, 1, none⟩ (.bool false)).setCell ⟨w.heap.size + 3, 2, none⟩ (.int .i64 0)).setCell ⟨w.heap.size + 3, 3, none⟩ (.int .i64 0) = w4) from h4.same0)
  obtain ⟨w6, hw6⟩ : ∃ w6, w6 = (((w4.setCell ⟨w.heap.size + 3, 0, none⟩ (.bool xn)).setCell ⟨w.heap.size + 3, 1, none⟩ (.bool xc)).setCell ⟨w.heap.size + 3, 2, none⟩ (.int .i64 xl)).setCell ⟨w.heap.size + 3, 3, none⟩ (.int .i64 xm) := ⟨_, rfl⟩
  have HE6 := (show Hid ((((w4.setCell ⟨w.heap.size + 3, 0, none⟩ (.bool xn)).setCell ⟨w.heap.size + 3, 1, none⟩ (.bool xc)).setCell ⟨w.heap.size + 3, 2, none⟩ (.int .i64 xl)).setCell ⟨w.heap.size + 3, 3, none⟩ (.int .i64 xm) = w6) from hw6.symm)
  have h6 : D6 w w6 (.slice A gn c) nd ⟨xn, xc, xl, xm⟩ := by rw [hw6]; exact h4.put ⟨xn, xc, xl, xm⟩
  have H6 := (show Hid (D6 w w6 (.slice A gn c) nd ⟨xn, xc, xl, xm⟩) from h6)
  have a0 : w4.cell? ⟨w.heap.size + 3, 0, none⟩ = some (.bool false) := h4.a.eb.c0
  have a1 : w4.cell? ⟨w.heap.size + 3, 1, none⟩ = some (.bool false) := h4.a.eb.c1
  have a2 : w4.cell? ⟨w.heap.size + 3, 2, none⟩ = some (.int .i64 0) := h4.a.eb.c2
  have a3 : w4.cell? ⟨w.heap.size + 3, 3, none⟩ = some (.int .i64 0) := h4.a.eb.c3
  have b0 := h4.a.fz 0
  have b1 := h4.a.fz 1
  have b2 := h4.a.fz 2
  have b3 := h4.a.fz 3
  obtain ⟨k0, k1, k2, k3⟩ := hx0.same (h4.b.block g lg)
  simp only at k0 k1 k2 k3
  have n0 : w6.cell? ⟨w.heap.size + 1, 0, none⟩ = some (.int .i64 nd.op) := h6.n.nb.c0
  have n1 : w6.cell? ⟨w.heap.size + 1, 1, none⟩ = some (.int .i64 nd.nn) := h6.n.nb.c1
  have HR := (show Hid _ from h6.ret ⟨true, false, 0, cm⟩)
  have f0 := H6.out.z.fz 0
  have f1 := H6.out.z.fz 1
  have f2 := H6.out.z.fz 2
  have f3 := H6.out.z.fz 3
  have z0 : w6.cell? ⟨w.heap.size + 2, 0, none⟩ = some (.bool false) := H6.out.z.eb.c0
  have z1 : w6.cell? ⟨w.heap.size + 2, 1, none⟩ = some (.bool false) := H6.out.z.eb.c1
  have z2 : w6.cell? ⟨w.heap.size + 2, 2, none⟩ = some (.int .i64 0) := H6.out.z.eb.c2
  have z3 : w6.cell? ⟨w.heap.size + 2, 3, none⟩ = some (.int .i64 0) := H6.out.z.eb.c3
  have x0 : w6.cell? ⟨w.heap.size + 3, 0, none⟩ = some (.bool xn) := H6.out.a.eb.c0
  have x1 : w6.cell? ⟨w.heap.size + 3, 1, none⟩ = some (.bool xc) := H6.out.a.eb.c1
  have x2 : w6.cell? ⟨w.heap.size + 3, 2, none⟩ = some (.int .i64 xl) := H6.out.a.eb.c2
  have x3 : w6.cell? ⟨w.heap.size + 3, 3, none⟩ = some (.int .i64 xm) := H6.out.a.eb.c3
  clear hw4 hw6 h4 h6 hEB hx0 lg hp
  go_enter Tryz.func47, Tryz.ntmps47
  go_wp2_with (first | rw [HE4.out] | rw [HE5.out] | rw [HE6.out])
  refine ((H3).out _).mono ?_
  rintro e w7 ⟨rfl, rfl⟩
  go_wp2_with fail
  refine ((H4).out _).mono ?_
  rintro e w7 ⟨rfl, rfl⟩
  go_wp2_with fail
  refine ret_ex (s := 8) (k := w.heap.size + 2) (e := ⟨true, false, 0, cm⟩) (by rfl) (by rfl) (by rfl) HR.out.1 ?_
  exact ⟨rfl, HR.out.2⟩
end Go.Proofs.YtokfgoepnfjafaaGreat.N

namespace Go.Proofs.YtokfgoepnfjafaaGreat.N
open Go.RowKit Go.Maps
open Go.Proofs.YtokfgoepnfjafaaGreat.T
set_option maxRecDepth 100000 in
set_option maxHeartbeats 16000000 in
theorem nodeD_7 {x y : Em} (nd : Nd) (A Ak An : Option Addr) (gn c ck nn cn : Nat) (ho : nd.op = 7) (hx : OkE x) (hy : OkE y) (w : World) (hp : RdE w Ak [x, y]) : Calls Tryz.prog 47 #[.agg #[.slice A gn c], ndG nd, .slice Ak 2 ck, .slice An nn cn] w fun e w' => e = .returned (emG (seqE x y)) ∧ Below w.heap.size w w' := by
  have t1 : (nd.op == 1) = false := by rw [beq_eq_false_iff_ne]; omega
  have t17 : (nd.op == 17) = false := by rw [beq_eq_false_iff_ne]; omega
  have t14 : (nd.op == 14) = false := by rw [beq_eq_false_iff_ne]; omega
  have t16 : (nd.op == 16) = false := by rw [beq_eq_false_iff_ne]; omega
  have t9 : (nd.op == 9) = false := by rw [beq_eq_false_iff_ne]; omega
  have t15 : (nd.op == 15) = false := by rw [beq_eq_false_iff_ne]; omega
  have t2 : (nd.op == 2) = false := by rw [beq_eq_false_iff_ne]; omega
  have t3 : (nd.op == 3) = false := by rw [beq_eq_false_iff_ne]; omega
  have t5 : (nd.op == 5) = false := by rw [beq_eq_false_iff_ne]; omega
  have t4 : (nd.op == 4) = false := by rw [beq_eq_false_iff_ne]; omega
  have t6 : (nd.op == 6) = false := by rw [beq_eq_false_iff_ne]; omega
  have t7 : (nd.op == 7) = true := by rw [ho]; rfl
  have t8 : (nd.op == 8) = false := by rw [beq_eq_false_iff_ne]; omega
  have t10 : (nd.op == 10) = false := by rw [beq_eq_false_iff_ne]; omega
  have t11 : (nd.op == 11) = false := by rw [beq_eq_false_iff_ne]; omega
  have t12 : (nd.op == 12) = false := by rw [beq_eq_false_iff_ne]; omega
  have t13 : (nd.op == 13) = false := by rw [beq_eq_false_iff_ne]; omega
  clear ho
  obtain ⟨g, o, rfl, lg, hEB⟩ := hp (by simp)
  have hx0 := hEB 0 x rfl
  rw [Nat.zero_mul, Nat.add_zero] at hx0
  have hy0 := hEB 1 y rfl
  rw [Nat.one_mul] at hy0
  obtain ⟨xn, xc, xl, xm⟩ := x
  obtain ⟨yn, yc, yl, ym⟩ := y
  have H1 := (show Hid (∀ w, Calls Tryz.prog 63 #[.int .i64 xl, .int .i64 yl] w fun e w' => e = .returned (.int .i64 (sumE xl yl)) ∧ w' = w) from fun w => sumD_any _ _ hx.l1 hx.l2 hy.l1 hy.l2 w)
  have H2 := (show Hid (∀ w, Calls Tryz.prog 63 #[.int .i64 xm, .int .i64 ym] w fun e w' => e = .returned (.int .i64 (sumE xm ym)) ∧ w' = w) from fun w => sumD_any _ _ hx.m1 hx.m2 hy.m1 hy.m2 w)
  have H3 := (show Hid (∀ w, Calls Tryz.prog 62 #[.int .i64 (sumE xl yl)] w fun e w' => e = .returned (.int .i64 (leC (sumE xl yl))) ∧ w' = w) from fun w => leastD_any _ w)
  have H4 := (show Hid (∀ w, Calls Tryz.prog 64 #[.int .i64 (sumE xm ym)] w fun e w' => e = .returned (.int .i64 (moC (sumE xm ym))) ∧ w' = w) from fun w => mostD_any _ w)
  clear hx hy
  have HS := (show Hid (seqE ⟨xn, xc, xl, xm⟩ ⟨yn, yc, yl, ym⟩ = ⟨xn && yn, xc || yc, leC (sumE xl yl), moC (sumE xm ym)⟩) from rfl)
  rw [HS.out]
  clear HS
  generalize sumE xl yl = tl at *
  generalize sumE xm ym = tm at *
  generalize leC tl = cl at *
  generalize moC tm = cm at *
  obtain ⟨w4, hw4⟩ : ∃ w4, w4 = (((w.alloc (.cells #[.slice A gn c] 24)).alloc (.cells #[.int .i64 nd.op, .int .i64 nd.nn, .string nd.tx, .int .u64 nd.s0, .int .u64 nd.s1, .int .u64 nd.s2, .int .u64 nd.s3] 62)).alloc (.cells #[.bool false, .bool false, .int .i64 0, .int .i64 0] 33)).alloc (.cells #[.bool false, .bool false, .int .i64 0, .int .i64 0] 33) := ⟨_, rfl⟩
  have HE4 := (show Hid ((((w.alloc (.cells #[.slice A gn c] 24)).alloc (.cells #[.int .i64 nd.op, .int .i64 nd.nn, .string nd.tx, .int .u64 nd.s0, .int .u64 nd.s1, .int .u64 nd.s2, .int .u64 nd.s3] 62)).alloc (.cells #[.bool false, .bool false, .int .i64 0, .int .i64 0] 33)).alloc (.cells #[.bool false, .bool false, .int .i64 0, .int .i64 0] 33) = w4) from hw4.symm)
  have h4 : D6 w w4 (.slice A gn c) nd e0 := by rw [hw4]; exact D6.of (D5.start w _ nd)
  have HE5 := (show Hid ((((w4.setCell ⟨w.heap.size + 3, 0, none⟩ (.bool false)).setCell ⟨w.heap.size + 3, 1, none⟩ (.bool false)).setCell ⟨w.heap.size + 3, 2, none⟩ (.int .i64 0)).setCell ⟨w.heap.size + 3, 3, none⟩ (.int .i64 0) = w4) from h4.same0)
  obtain ⟨w6, hw6⟩ : ∃ w6, w6 = (((w4.setCell ⟨w.heap.size + 3, 0, none⟩ (.bool xn)).setCell ⟨w.heap.size + 3, 1, none⟩ (.bool xc)).setCell ⟨w.heap.size + 3, 2, none⟩ (.int .i64 xl)).setCell ⟨w.heap.size + 3, 3, none⟩ (.int .i64 xm) := ⟨_, rfl⟩
  have HE6 := (show Hid ((((w4.setCell ⟨w.heap.size + 3, 0, none⟩ (.bool xn)).setCell ⟨w.heap.size + 3, 1, none⟩ (.bool xc)).setCell ⟨w.heap.size + 3, 2, none⟩ (.int .i64 xl)).setCell ⟨w.heap.size + 3, 3, none⟩ (.int .i64 xm) = w6) from hw6.symm)
  have h6 : D6 w w6 (.slice A gn c) nd ⟨xn, xc, xl, xm⟩ := by rw [hw6]; exact h4.put ⟨xn, xc, xl, xm⟩
  have H6 := (show Hid (D6 w w6 (.slice A gn c) nd ⟨xn, xc, xl, xm⟩) from h6)
  have a0 : w4.cell? ⟨w.heap.size + 3, 0, none⟩ = some (.bool false) := h4.a.eb.c0
  have a1 : w4.cell? ⟨w.heap.size + 3, 1, none⟩ = some (.bool false) := h4.a.eb.c1
  have a2 : w4.cell? ⟨w.heap.size + 3, 2, none⟩ = some (.int .i64 0) := h4.a.eb.c2
  have a3 : w4.cell? ⟨w.heap.size + 3, 3, none⟩ = some (.int .i64 0) := h4.a.eb.c3
  have b0 := h4.a.fz 0
  have b1 := h4.a.fz 1
  have b2 := h4.a.fz 2
  have b3 := h4.a.fz 3
  obtain ⟨k0, k1, k2, k3⟩ := hx0.same (h4.b.block g lg)
  simp only at k0 k1 k2 k3
  have n0 : w6.cell? ⟨w.heap.size + 1, 0, none⟩ = some (.int .i64 nd.op) := h6.n.nb.c0
  have n1 : w6.cell? ⟨w.heap.size + 1, 1, none⟩ = some (.int .i64 nd.nn) := h6.n.nb.c1
  have HR := (show Hid _ from h6.ret ⟨xn && yn, xc || yc, cl, cm⟩)
  have f0 := H6.out.z.fz 0
  have f1 := H6.out.z.fz 1
  have f2 := H6.out.z.fz 2
  have f3 := H6.out.z.fz 3
  have z0 : w6.cell? ⟨w.heap.size + 2, 0, none⟩ = some (.bool false) := H6.out.z.eb.c0
  have z1 : w6.cell? ⟨w.heap.size + 2, 1, none⟩ = some (.bool false) := H6.out.z.eb.c1
  have z2 : w6.cell? ⟨w.heap.size + 2, 2, none⟩ = some (.int .i64 0) := H6.out.z.eb.c2
  have z3 : w6.cell? ⟨w.heap.size + 2, 3, none⟩ = some (.int .i64 0) := H6.out.z.eb.c3
  have HD := (show Hid (D6 w w6.drew (.slice A gn c) nd ⟨xn, xc, xl, xm⟩) from h6.later (Below.refl _ _).drew)
  have n9 : w6.drew.cell? ⟨w.heap.size + 1, 1, none⟩ = some (.int .i64 nd.nn) := HD.out.n.nb.c1
  have x0 : w6.drew.cell? ⟨w.heap.size + 3, 0, none⟩ = some (.bool xn) := HD.out.a.eb.c0
  have x1 : w6.drew.cell? ⟨w.heap.size + 3, 1, none⟩ = some (.bool xc) := HD.out.a.eb.c1
  have x2 : w6.drew.cell? ⟨w.heap.size + 3, 2, none⟩ = some (.int .i64 xl) := HD.out.a.eb.c2
  have x3 : w6.drew.cell? ⟨w.heap.size + 3, 3, none⟩ = some (.int .i64 xm) := HD.out.a.eb.c3
  obtain ⟨y0, y1, y2, y3⟩ := hy0.same (HD.out.b.block g lg)
  simp only at y0 y1 y2 y3
  clear hw4 hw6 h4 h6 hEB hx0 lg hp hy0
  go_enter Tryz.func47, Tryz.ntmps47
  go_wp2_with (first | rw [HE4.out] | rw [HE5.out] | rw [HE6.out])
  clear HE4 HE5 HE6 a0 a1 a2 a3 b0 b1 b2 b3 k0 k1 k2 k3 n0 n1 H6 t1 t17 t14 t16 t9 t15 t2 t3 t5 t4 t6 t7 t8 t10 t11 t12 t13
  try clear HD
  try rw [show w.heap.size + 1 + 1 + 1 = w.heap.size + 3 from rfl]
  try rw [show w.heap.size + 1 + 1 = w.heap.size + 2 from rfl]
  cases xn
  all_goals cases xc
  all_goals
    refine wp_region_still_tail 33 (by kernel_rfl) (by kernel_rfl) ?_
    simp only [List.take_succ_cons, List.take_zero, List.drop_succ_cons, List.drop_zero]
    repeat (first | (with_reducible refine wpStill_plain9 rfl (fun K hK => ?_); go_simp; with_reducible refine hK _ ?_; clear hK K) | (with_reducible refine wpStill_plain9 rfl (fun K hK => ?_); go_simp; with_reducible refine ⟨_, H1.out _, hK _ ?_⟩; clear hK K) | (with_reducible refine wpStill_plain9 rfl (fun K hK => ?_); go_simp; with_reducible refine ⟨_, H2.out _, hK _ ?_⟩; clear hK K) | (with_reducible refine wpStill_plain9 rfl (fun K hK => ?_); go_simp; with_reducible refine ⟨_, H3.out _, hK _ ?_⟩; clear hK K) | (with_reducible refine wpStill_plain9 rfl (fun K hK => ?_); go_simp; with_reducible refine ⟨_, H4.out _, hK _ ?_⟩; clear hK K) | (with_reducible refine wpStill_step (fun K hK => ?_); go_simp; with_reducible refine hK _ ?_; clear hK K))
    with_reducible refine wpStill_nil ?_
    change wpList _ _ _ _ _ (World.drew w6)
    clear x0 x1 x2 x3 n9 y0 y1 y2 y3 H1 H2 H3 H4
    go_wp2_with fail
    refine ret_ex (s := 8) (k := w.heap.size + 2) (by rfl) (by rfl) (by rfl) (HR.out.1.below (Below.refl _ _).drew) ?_
    exact ⟨rfl, HR.out.2.drew⟩
end Go.Proofs.YtokfgoepnfjafaaGreat.N

namespace Go.Proofs.YtokfgoepnfjafaaGreat.N
open Go.RowKit Go.Maps
open Go.Proofs.YtokfgoepnfjafaaGreat.T
set_option maxRecDepth 100000 in
set_option maxHeartbeats 16000000 in
theorem nodeD_8 {x y : Em} (nd : Nd) (A Ak An : Option Addr) (gn c ck nn cn : Nat) (ho : nd.op = 8) (w : World) (hp : RdE w Ak [x, y]) : Calls Tryz.prog 47 #[.agg #[.slice A gn c], ndG nd, .slice Ak 2 ck, .slice An nn cn] w fun e w' => e = .returned (emG (choE x y)) ∧ Below w.heap.size w w' := by
  have t1 : (nd.op == 1) = false := by rw [beq_eq_false_iff_ne]; omega
  have t17 : (nd.op == 17) = false := by rw [beq_eq_false_iff_ne]; omega
  have t14 : (nd.op == 14) = false := by rw [beq_eq_false_iff_ne]; omega
  have t16 : (nd.op == 16) = false := by rw [beq_eq_false_iff_ne]; omega
  have t9 : (nd.op == 9) = false := by rw [beq_eq_false_iff_ne]; omega
  have t15 : (nd.op == 15) = false := by rw [beq_eq_false_iff_ne]; omega
  have t2 : (nd.op == 2) = false := by rw [beq_eq_false_iff_ne]; omega
  have t3 : (nd.op == 3) = false := by rw [beq_eq_false_iff_ne]; omega
  have t5 : (nd.op == 5) = false := by rw [beq_eq_false_iff_ne]; omega
  have t4 : (nd.op == 4) = false := by rw [beq_eq_false_iff_ne]; omega
  have t6 : (nd.op == 6) = false := by rw [beq_eq_false_iff_ne]; omega
  have t7 : (nd.op == 7) = false := by rw [beq_eq_false_iff_ne]; omega
  have t8 : (nd.op == 8) = true := by rw [ho]; rfl
  have t10 : (nd.op == 10) = false := by rw [beq_eq_false_iff_ne]; omega
  have t11 : (nd.op == 11) = false := by rw [beq_eq_false_iff_ne]; omega
  have t12 : (nd.op == 12) = false := by rw [beq_eq_false_iff_ne]; omega
  have t13 : (nd.op == 13) = false := by rw [beq_eq_false_iff_ne]; omega
  clear ho
  obtain ⟨g, o, rfl, lg, hEB⟩ := hp (by simp)
  have hx0 := hEB 0 x rfl
  rw [Nat.zero_mul, Nat.add_zero] at hx0
  have hy0 := hEB 1 y rfl
  rw [Nat.one_mul] at hy0
  obtain ⟨xn, xc, xl, xm⟩ := x
  obtain ⟨yn, yc, yl, ym⟩ := y
  have H1 := (show Hid (∀ w, Calls Tryz.prog 65 #[.int .i64 xl, .int .i64 yl] w fun e w' => e = .returned (.int .i64 (lesE xl yl)) ∧ w' = w) from fun w => lesserD_any _ _ w)
  have H2 := (show Hid (∀ w, Calls Tryz.prog 66 #[.int .i64 xm, .int .i64 ym] w fun e w' => e = .returned (.int .i64 (greE xm ym)) ∧ w' = w) from fun w => greaterD_any _ _ w)
  have HS := (show Hid (choE ⟨xn, xc, xl, xm⟩ ⟨yn, yc, yl, ym⟩ = ⟨xn || yn, xc && yc, lesE xl yl, greE xm ym⟩) from rfl)
  rw [HS.out]
  clear HS
  generalize lesE xl yl = cl at *
  generalize greE xm ym = cm at *
  obtain ⟨w4, hw4⟩ : ∃ w4, w4 = (((w.alloc (.cells #[.slice A gn c] 24)).alloc (.cells #[.int .i64 nd.op, .int .i64 nd.nn, .string nd.tx, .int .u64 nd.s0, .int .u64 nd.s1, .int .u64 nd.s2, .int .u64 nd.s3] 62)).alloc (.cells #[.bool false, .bool false, .int .i64 0, .int .i64 0] 33)).alloc (.cells #[.bool false, .bool false, .int .i64 0, .int .i64 0] 33) := ⟨_, rfl⟩
  have HE4 := (show Hid ((((w.alloc (.cells #[.slice A gn c] 24)).alloc (.cells #[.int .i64 nd.op, .int .i64 nd.nn, .string nd.tx, .int .u64 nd.s0, .int .u64 nd.s1, .int .u64 nd.s2, .int .u64 nd.s3] 62)).alloc (.cells #[.bool false, .bool false, .int .i64 0, .int .i64 0] 33)).alloc (.cells #[.bool false, .bool false, .int .i64 0, .int .i64 0] 33) = w4) from hw4.symm)
  have h4 : D6 w w4 (.slice A gn c) nd e0 := by rw [hw4]; exact D6.of (D5.start w _ nd)
  have HE5 := (show Hid ((((w4.setCell ⟨w.heap.size + 3, 0, none⟩ (.bool false)).setCell ⟨w.heap.size + 3, 1, none⟩ (.bool false)).setCell ⟨w.heap.size + 3, 2, none⟩ (.int .i64 0)).setCell ⟨w.heap.size + 3, 3, none⟩ (.int .i64 0) = w4) from h4.same0)
  obtain ⟨w6, hw6⟩ : ∃ w6, w6 = (((w4.setCell ⟨w.heap.size + 3, 0, none⟩ (.bool xn)).setCell ⟨w.heap.size + 3, 1, none⟩ (.bool xc)).setCell ⟨w.heap.size + 3, 2, none⟩ (.int .i64 xl)).setCell ⟨w.heap.size + 3, 3, none⟩ (.int .i64 xm) := ⟨_, rfl⟩
  have HE6 := (show Hid ((((w4.setCell ⟨w.heap.size + 3, 0, none⟩ (.bool xn)).setCell ⟨w.heap.size + 3, 1, none⟩ (.bool xc)).setCell ⟨w.heap.size + 3, 2, none⟩ (.int .i64 xl)).setCell ⟨w.heap.size + 3, 3, none⟩ (.int .i64 xm) = w6) from hw6.symm)
  have h6 : D6 w w6 (.slice A gn c) nd ⟨xn, xc, xl, xm⟩ := by rw [hw6]; exact h4.put ⟨xn, xc, xl, xm⟩
  have H6 := (show Hid (D6 w w6 (.slice A gn c) nd ⟨xn, xc, xl, xm⟩) from h6)
  have a0 : w4.cell? ⟨w.heap.size + 3, 0, none⟩ = some (.bool false) := h4.a.eb.c0
  have a1 : w4.cell? ⟨w.heap.size + 3, 1, none⟩ = some (.bool false) := h4.a.eb.c1
  have a2 : w4.cell? ⟨w.heap.size + 3, 2, none⟩ = some (.int .i64 0) := h4.a.eb.c2
  have a3 : w4.cell? ⟨w.heap.size + 3, 3, none⟩ = some (.int .i64 0) := h4.a.eb.c3
  have b0 := h4.a.fz 0
  have b1 := h4.a.fz 1
  have b2 := h4.a.fz 2
  have b3 := h4.a.fz 3
  obtain ⟨k0, k1, k2, k3⟩ := hx0.same (h4.b.block g lg)
  simp only at k0 k1 k2 k3
  have n0 : w6.cell? ⟨w.heap.size + 1, 0, none⟩ = some (.int .i64 nd.op) := h6.n.nb.c0
  have n1 : w6.cell? ⟨w.heap.size + 1, 1, none⟩ = some (.int .i64 nd.nn) := h6.n.nb.c1
  have HR := (show Hid _ from h6.ret ⟨xn || yn, xc && yc, cl, cm⟩)
  have f0 := H6.out.z.fz 0
  have f1 := H6.out.z.fz 1
  have f2 := H6.out.z.fz 2
  have f3 := H6.out.z.fz 3
  have z0 : w6.cell? ⟨w.heap.size + 2, 0, none⟩ = some (.bool false) := H6.out.z.eb.c0
  have z1 : w6.cell? ⟨w.heap.size + 2, 1, none⟩ = some (.bool false) := H6.out.z.eb.c1
  have z2 : w6.cell? ⟨w.heap.size + 2, 2, none⟩ = some (.int .i64 0) := H6.out.z.eb.c2
  have z3 : w6.cell? ⟨w.heap.size + 2, 3, none⟩ = some (.int .i64 0) := H6.out.z.eb.c3
  have HD := (show Hid (D6 w w6.drew (.slice A gn c) nd ⟨xn, xc, xl, xm⟩) from h6.later (Below.refl _ _).drew)
  have n9 : w6.drew.cell? ⟨w.heap.size + 1, 1, none⟩ = some (.int .i64 nd.nn) := HD.out.n.nb.c1
  have x0 : w6.drew.cell? ⟨w.heap.size + 3, 0, none⟩ = some (.bool xn) := HD.out.a.eb.c0
  have x1 : w6.drew.cell? ⟨w.heap.size + 3, 1, none⟩ = some (.bool xc) := HD.out.a.eb.c1
  have x2 : w6.drew.cell? ⟨w.heap.size + 3, 2, none⟩ = some (.int .i64 xl) := HD.out.a.eb.c2
  have x3 : w6.drew.cell? ⟨w.heap.size + 3, 3, none⟩ = some (.int .i64 xm) := HD.out.a.eb.c3
  obtain ⟨y0, y1, y2, y3⟩ := hy0.same (HD.out.b.block g lg)
  simp only at y0 y1 y2 y3
  clear hw4 hw6 h4 h6 hEB hx0 lg hp hy0
  go_enter Tryz.func47, Tryz.ntmps47
  go_wp2_with (first | rw [HE4.out] | rw [HE5.out] | rw [HE6.out])
  clear HE4 HE5 HE6 a0 a1 a2 a3 b0 b1 b2 b3 k0 k1 k2 k3 n0 n1 H6 t1 t17 t14 t16 t9 t15 t2 t3 t5 t4 t6 t7 t8 t10 t11 t12 t13
  try clear HD
  try rw [show w.heap.size + 1 + 1 + 1 = w.heap.size + 3 from rfl]
  try rw [show w.heap.size + 1 + 1 = w.heap.size + 2 from rfl]
  cases xn
  all_goals cases xc
  all_goals
    refine wp_region_still_tail 31 (by kernel_rfl) (by kernel_rfl) ?_
    simp only [List.take_succ_cons, List.take_zero, List.drop_succ_cons, List.drop_zero]
    repeat (first | (with_reducible refine wpStill_plain9 rfl (fun K hK => ?_); go_simp; with_reducible refine hK _ ?_; clear hK K) | (with_reducible refine wpStill_plain9 rfl (fun K hK => ?_); go_simp; with_reducible refine ⟨_, H1.out _, hK _ ?_⟩; clear hK K) | (with_reducible refine wpStill_plain9 rfl (fun K hK => ?_); go_simp; with_reducible refine ⟨_, H2.out _, hK _ ?_⟩; clear hK K) | (with_reducible refine wpStill_step (fun K hK => ?_); go_simp; with_reducible refine hK _ ?_; clear hK K))
    with_reducible refine wpStill_nil ?_
    change wpList _ _ _ _ _ (World.drew w6)
    clear x0 x1 x2 x3 n9 y0 y1 y2 y3 H1 H2
    go_wp2_with fail
    refine ret_ex (s := 8) (k := w.heap.size + 2) (by rfl) (by rfl) (by rfl) (HR.out.1.below (Below.refl _ _).drew) ?_
    exact ⟨rfl, HR.out.2.drew⟩
end Go.Proofs.YtokfgoepnfjafaaGreat.N

namespace Go.Proofs.YtokfgoepnfjafaaGreat.N
open Go.RowKit Go.Maps
open Go.Proofs.YtokfgoepnfjafaaGreat.T
/-- A call of a function value, bound or with what it captured, as one step of a region that draws its order. -/
theorem step_callf {F : Nat} (hen : ∀ args w, (callFunc F args).run Tryz.prog w = .ok (.enter F args) w) {ops : Array Oper} {o : Oper} {a : Act} {w : World} {K : Act → World → Prop} {Q : Exit → Act → World → Prop} {E : Prop} (hgd : o.guard = none) (f x y : Nat) (T U : TypeId) (ho : o.op = .call { callee := .value (.tmp f), args := #[.tmp x, .tmp y], argTypes := #[T, U] }) (fs cs : Array Value) (hf : a.eval (.tmp f) = .func (.func F) fs cs) (u v : Value) (hx : a.eval (.tmp x) = u) (hy : a.eval (.tmp y) = v)
    (hc : Calls Tryz.prog F (fs ++ #[u, v] ++ cs) w fun e w' => ∃ r, e = .returned r ∧ K (a.put o.dst r) w') :
    if Region.wanted o (yielded ops a.tmps) = true then Oper.wp Tryz.prog o a w K Q else E := by
  have hw : Region.wanted o (yielded ops a.tmps) = true := by simp [Region.wanted, hgd]
  rw [if_pos hw]
  have he : (execOp a.eval o).run Tryz.prog w = .ok (.enter F (fs ++ #[u, v] ++ cs)) w := by
    have hf2 : a.tmps[f]?.getD undef = .func (.func F) fs cs := by simpa [Act.eval] using hf
    have hx2 : a.tmps[x]?.getD undef = u := by simpa [Act.eval] using hx
    have hy2 : a.tmps[y]?.getD undef = v := by simpa [Act.eval] using hy
    unfold execOp
    simp [ho, go_sem, invoke]
    rw [hf2, hx2, hy2]
    simp [hen]
  unfold Oper.wp
  rw [he, Oper.upon_enter]
  refine hc.mono ?_
  rintro e w' ⟨r, rfl, hk⟩
  exact hk
/-- What is known of the parts that belong to no node yet. -/
def emS (E : Nat → Em) (st : List Pt) : List Em := (st.map fun p => E p.2.1).reverse
theorem emS_len (E : Nat → Em) (st : List Pt) : (emS E st).length = st.length := by unfold emS; rw [List.length_reverse, List.length_map]
theorem emS_cons (E : Nat → Em) (p : Pt) (st : List Pt) : emS E (p :: st) = emS E st ++ [E p.2.1] := by unfold emS; rw [List.map_cons, List.reverse_cons]
theorem emS_split (E : Nat → Em) (st : List Pt) (a : Nat) : emS E st = emS E (st.drop a) ++ emS E (st.take a) := by
  unfold emS
  rw [← List.reverse_append, ← List.map_append, List.take_append_drop]
theorem pt_last (L : List Nd) (k : Nat) : (pt L k).2.1 = k := by
  unfold pt mk
  split
  · rfl
  · split
    · split <;> rfl
    · split <;> rfl
/-- What a function that is handed each node keeps to. -/
structure See9 (L : List Nd) (F : Nat) (fs cs : Array Value) (E : Nat → Em) (Bc B : Nat) (J : Nat → (Nat → Prop) → World → Prop) : Prop where
  kept : ∀ k X w w', J k X w → w.heap.size ≤ w'.heap.size → (∀ b, (b < B ∨ X b) → w'.heap[b]? = w.heap[b]?) → J k X w'
  far : ∀ k X w, J k X w → ∀ b, X b → Bc ≤ b ∧ b < w.heap.size
  call : ∀ k X w A c n, J k X w → B ≤ w.heap.size → L[k]? = some n → RdE w A (emS E ((run L k).take (arN n.op))) → (∀ a, A = some a → ¬ X a.block) →
    Calls Tryz.prog F (fs ++ #[ndG n, .slice A (arN n.op) c] ++ cs) w fun e w' => e = .returned (emG (E k)) ∧ ∃ X', J (k + 1) X' w' ∧ Kp X w w' ∧ ∀ b, X' b → X b ∨ w.heap.size ≤ b
structure AtE (L : List Nd) (E : Nat → Em) (J : Nat → (Nat → Prop) → World → Prop) (Bc : Nat) (w wr : World) (k : Nat) (X : Nat → Prop) (v : Value) (st : List Pt) : Prop where
  o : wr.ownsRow (w.heap.size + 1) 33 4 v st.length (emc (emS E st))
  z : EX wr w.heap.size e0
  j : J k X wr
  d : ∀ g, v.ownBlock = some g → ¬ X g
  dz : ¬ X w.heap.size
  b : Below Bc w wr
theorem kp_of_below {X : Nat → Prop} {w w' : World} (h : Below w.heap.size w w') : Kp X w w' := ⟨h.os, h.tape, h.output, h.size, fun b hb _ => h.block b hb⟩
theorem AtE.below {L : List Nd} {E : Nat → Em} {F : Nat} {fs cs : Array Value} {J : Nat → (Nat → Prop) → World → Prop} {Bc B : Nat} {w wr w2 : World} {k : Nat} {X : Nat → Prop} {v : Value} {st : List Pt} (h : AtE L E J Bc w wr k X v st) (hs : See9 L F fs cs E Bc B J) (hB : Bc ≤ w.heap.size) (hB2 : B ≤ w.heap.size) (hb : Below wr.heap.size wr w2) : AtE L E J Bc w w2 k X v st :=
  ⟨T.own_below h.o hb, h.z.below hb, hs.kept k X wr w2 h.j hb.size (fun b hx => hb.block b (by
    rcases hx with q | q
    · exact Nat.lt_of_lt_of_le (Nat.lt_of_lt_of_le q hB2) h.b.size
    · exact (hs.far _ _ _ h.j b q).2)), h.d, h.dz, h.b.trans (hb.mono (Nat.le_trans hB h.b.size))⟩
/-- Behind the call: another state of X, the rest as it was. -/
theorem AtE.told {L : List Nd} {E : Nat → Em} {F : Nat} {fs cs : Array Value} {J : Nat → (Nat → Prop) → World → Prop} {Bc B : Nat} {w wr wA : World} {k : Nat} {X X' : Nat → Prop} {v : Value} {st : List Pt} (h : AtE L E J Bc w wr k X v st) (hs : See9 L F fs cs E Bc B J) (hB : Bc ≤ w.heap.size) (hj : J (k + 1) X' wA) (hk : Kp X wr wA) (hx : ∀ b, X' b → X b ∨ wr.heap.size ≤ b) : AtE L E J Bc w wA (k + 1) X' v st := by
  refine ⟨own_kp h.o hk h.d, h.z.same (hk.block _ h.z.lt h.dz), hj, fun g hg q => ?_, fun q => ?_, ?_⟩
  · rcases hx g q with q | q
    · exact h.d g hg q
    · have := (h.o.lt g hg).2
      omega
  · rcases hx _ q with q | q
    · exact h.dz q
    · have := h.z.lt
      omega
  · exact ⟨hk.os.trans h.b.os, hk.tape.trans h.b.tape, hk.output.trans h.b.output, Nat.le_trans h.b.size hk.size, fun b hb => (hk.block b (Nat.lt_of_lt_of_le hb (Nat.le_trans hB h.b.size)) (fun q => by have := (hs.far _ _ _ h.j b q).1; omega)).trans (h.b.block b hb)⟩
/-- Four cells of a box of its own are written. -/
theorem AtE.put {L : List Nd} {E : Nat → Em} {F : Nat} {fs cs : Array Value} {J : Nat → (Nat → Prop) → World → Prop} {Bc B : Nat} {w wr : World} {k kk : Nat} {X : Nat → Prop} {v : Value} {st : List Pt} (h : AtE L E J Bc w wr k X v st) (hs : See9 L F fs cs E Bc B J) (hB : Bc ≤ w.heap.size) (hB2 : B ≤ w.heap.size) (h1 : w.heap.size < kk) (hX : ¬ X kk) (hv : ∀ g, v.ownBlock = some g → g ≠ kk) (f : Em) : AtE L E J Bc w (st4 wr kk f) k X v st := by
  have key : ∀ j, j ≠ kk → (st4 wr kk f).heap[j]? = wr.heap[j]? := fun j hj => st4_other hj f
  have sz : (st4 wr kk f).heap.size = wr.heap.size := by unfold st4; rw [World.size_setCell, World.size_setCell, World.size_setCell, World.size_setCell]
  refine ⟨own_same h.o fun g hg => key g (hv g hg), h.z.same (key _ (by omega)), hs.kept k X wr _ h.j (by rw [sz]; exact Nat.le_refl _) (fun b hx => key b (fun e => ?_)), h.d, h.dz, ?_⟩
  · subst e
    rcases hx with q | q
    · omega
    · exact hX q
  · exact (((h.b.setCell (p := ⟨kk, 0, none⟩) (by show Bc ≤ kk; omega) _).setCell (p := ⟨kk, 1, none⟩) (by show Bc ≤ kk; omega) _).setCell (p := ⟨kk, 2, none⟩) (by show Bc ≤ kk; omega) _).setCell (p := ⟨kk, 3, none⟩) (by show Bc ≤ kk; omega) _
end Go.Proofs.YtokfgoepnfjafaaGreat.N

namespace Go.Proofs.YtokfgoepnfjafaaGreat.N
open Go.RowKit Go.Maps
open Go.Proofs.YtokfgoepnfjafaaGreat.T
theorem AtE.push {L : List Nd} {E : Nat → Em} {F : Nat} {fs cs : Array Value} {J : Nat → (Nat → Prop) → World → Prop} {Bc B : Nat} {w w5 w6 : World} {k : Nat} {X : Nat → Prop} {v v' : Value} {st st2 : List Pt} {ob : Obj} {row : Option Nat} (h : AtE L E J Bc w w5 k X v st) (hs : See9 L F fs cs E Bc B J) (hB : Bc ≤ w.heap.size) (hB2 : B ≤ w.heap.size) (hg : (w5.alloc ob).grownBy w6 row) (hrow : ∀ b, row = some b → v.ownBlock = some b) (ho : w6.ownsRow (w.heap.size + 1) 33 4 v' st2.length (emc (emS E st2))) (hat : ∀ g, v'.ownBlock = some g → v.ownBlock = some g ∨ w5.heap.size ≤ g) : AtE L E J Bc w w6 k X v' st2 := by
  have key : ∀ b, b < w5.heap.size → (∀ q, v.ownBlock = some q → q ≠ b) → w6.heap[b]? = w5.heap[b]? := fun b hb hq => (hg.block b (by rw [World.size_alloc]; omega) (fun e => hq b (hrow b e.symm) rfl)).trans ((below_box w5 ob).block b hb)
  have hlow : ∀ q, v.ownBlock = some q → w.heap.size + 1 ≤ q := fun q hq => (h.o.lt q hq).1
  have hsz : w5.heap.size ≤ w6.heap.size := Nat.le_trans (by rw [World.size_alloc]; omega) hg.size
  have hz := h.z.lt
  refine ⟨ho, h.z.same (key _ hz (fun q hq => by have := hlow q hq; omega)), hs.kept k X w5 w6 h.j hsz (fun b hb => ?_), fun g hgg hX => ?_, h.dz, ?_⟩
  · rcases hb with q | q
    · exact key b (by omega) (fun p hp => by have := hlow p hp; omega)
    · exact key b (hs.far _ _ _ h.j b q).2 (fun p hp e => h.d p hp (by rw [e]; exact q))
  · rcases hat g hgg with q | q
    · exact h.d g q hX
    · have := (hs.far _ _ _ h.j g hX).2
      omega
  · have b1 := h.b.alloc (Nat.le_trans hB h.b.size) ob
    refine b1.grown hg (Nat.le_trans hB b1.size) (fun q e => ?_)
    have := hlow q (hrow q e)
    omega
theorem hid_of {p : Prop} (h : p) : Hid p := h
theorem grown_drew {W W' : World} {row : Option Nat} (h : W.drew.grownBy W' row) : W.grownBy W' row := ⟨h.os, h.tape, h.output, h.size, h.block⟩
theorem own_front {W : World} {B m r cA : Nat} {A : Option Addr} {l a b : List Em} (h : W.ownsRow B 33 4 (.slice A m cA) m (emc l)) (hl : l = a ++ b) (ha : a.length = r) (hm : r ≤ m) (hA : A = none ∧ m = 0 ∧ cA = 0 ∨ ∃ g, A = some ⟨g, 0, none⟩) : W.ownsRow B 33 4 (.slice A r cA) r (emc a) := by
  rcases hA with ⟨rfl, h2, h3⟩ | ⟨g, rfl⟩
  · have e : r = 0 := by omega
    subst e
    have ea : a = [] := List.eq_nil_of_length_eq_zero ha
    rw [ea, h3]
    exact World.ownsRow_nil _ _ _ _
  · have h2 := T.own_cut h hm
    have e : (emc l).take (r * 4) = emc a := by
      rw [hl, emc_app, List.take_append_of_le_length (by rw [emc_len, ha]; exact Nat.le_refl _)]
      exact List.take_of_length_le (by rw [emc_len, ha]; exact Nat.le_refl _)
    rw [e] at h2
    exact h2
theorem em_read {W : World} {B g n cap : Nat} {l : List Em} (h : W.ownsRow B 33 4 (.slice (some ⟨g, 0, none⟩) n cap) n (emc l)) (a b : List Em) (hl : l = a ++ b) (_hb : b ≠ []) : RdE W (some ⟨g, a.length * 4, none⟩) b := fun _ => ⟨g, a.length * 4, rfl, (h.lt g rfl).2, fun j e hj => by
  have h2 := own_eb (xs := []) (by rw [List.append_nil]; exact h) (a.length + j) e (by rw [hl, List.getElem?_append_right (by omega), Nat.add_sub_cancel_left]; exact hj)
  rw [Nat.add_mul] at h2
  exact h2⟩
set_option maxRecDepth 100000 in
set_option maxHeartbeats 32000000 in
theorem through9_any (L : List Nd) (F : Nat) (fs cs : Array Value) (E : Nat → Em) (J : Nat → (Nat → Prop) → World → Prop) (Ap : Option Addr) (cp Bc : Nat) (hrt : Rt L) (w : World) (hB : Bc ≤ w.heap.size) (hp : RdN w Ap L) (hpb : ∀ a, Ap = some a → a.block < Bc) (hen : ∀ args w, (callFunc F args).run Tryz.prog w = .ok (.enter F args) w) (hs : See9 L F fs cs E Bc w.heap.size J) (X0 : Nat → Prop) (h0 : J 0 X0 w) (hX0 : ∀ b, X0 b → b < w.heap.size) :
    Calls Tryz.prog 35 #[.slice Ap L.length cp, .func (.func F) fs cs] w fun e w' => e = .returned (emG (E (L.length - 1))) ∧ Below Bc w w' ∧ ∃ X, J L.length X w' := by
  have hlen : L.length ≤ 2048 := by have := hrt.len; omega
  have hne : L ≠ [] := by rintro rfl; have := hrt.one; simp [run] at this
  obtain ⟨gp, op, rfl, lp, cl⟩ := hp hne
  have hgb := hpb _ rfl
  have HS := (show Hid (See9 L F fs cs E Bc w.heap.size J) from hs)
  have HB := (show Hid (Bc ≤ w.heap.size) from hB)
  obtain ⟨w1, hw1⟩ : ∃ w1, w1 = w.alloc (.cells #[.bool false, .bool false, .int .i64 0, .int .i64 0] 33) := ⟨_, rfl⟩
  have HE1 := (show Hid (w.alloc (.cells #[.bool false, .bool false, .int .i64 0, .int .i64 0] 33) = w1) from hw1.symm)
  have HA := (show Hid (AtE L E J Bc w w1 0 X0 (.slice none 0 0) []) from by
    have hb : Below w.heap.size w w1 := by rw [hw1]; exact below_box _ _
    refine ⟨World.ownsRow_nil _ _ _ _, by rw [hw1]; exact EX.new w e0, hs.kept 0 X0 w w1 h0 hb.size (fun b q => hb.block b ?_), (fun g q => by simp [Value.ownBlock] at q), (fun q => by have := hX0 _ q; omega), hb.mono hB⟩
    rcases q with q | q
    · exact q
    · exact hX0 b q)
  have HG := (show Hid (∀ k, k < L.length → ∃ n, L[k]? = some n ∧ alE n = 0 ∧ arN n.op ≤ (run L k).length) from fun k hk => by
    have e : L[k]? = some L[k] := List.getElem?_eq_getElem hk
    have h := er_ok e (hrt.each k hk)
    exact ⟨_, e, h.al, h.ar⟩)
  have HOne := (show Hid ((run L L.length).length = 1) from hrt.one)
  have HCl := (show Hid (NdL w gp op L) from cl)
  have HPos := (show Hid (0 < L.length) from List.length_pos_iff.2 hne)
  clear hs h0 hX0 hp hpb hne cl hrt hw1
  obtain ⟨i0, hinf, hz0, hz1, hz2⟩ := info_parts Tryz.infoE
  go_enter Tryz.func35, Tryz.ntmps35
  go_wp2_with (rw [HE1.out])
  clear HE1
  go_loopw [5, 12] (fun v t wr => ∃ (k : Nat) (X : Nat → Prop), k ≤ L.length ∧ t = .int .i64 (k : Int) ∧ Hid (AtE L E J Bc w wr k X v (run L k))) (fun _ t _ => L.length - (intOf t).toNat)
  case atStart => exact ⟨0, X0, Nat.zero_le _, by go_num, HA⟩
  case round =>
    obtain ⟨k, X, hk, rfl, HW⟩ := hrel
    clear HA
    by_cases hlt : k < L.length
    · obtain ⟨n, hn, hal, har⟩ := HG.out k hlt
      have HNn := (show Hid (L[k]? = some n) from hn)
      have HAr : Hid (∀ w, Calls Tryz.prog 48 #[.int .i64 n.op] w fun e w' => e = .returned (.int .i64 ((arN n.op : Nat) : Int)) ∧ w' = w) := fun w => by rw [arN_of hal]; exact arity_any n.op w
      obtain ⟨c0, c1, c2, c3, c4, c5, c6⟩ := (HCl.out.same (HW.out.b.block gp hgb)) k n hn
      have z0 : (0 : Int) ≤ (k : Int) := by omega
      have z1 : (k : Int) < (L.length : Int) := by omega
      obtain ⟨A, cA, hv, hAo⟩ : ∃ A c, u5 = .slice A (run L k).length c ∧ (A = none ∧ (run L k).length = 0 ∧ c = 0 ∨ ∃ g, A = some ⟨g, 0, none⟩ ∧ g < wr.heap.size ∧ (run L k).length ≤ c) := by
        rcases HW.out.o.2 with ⟨q1, q2⟩ | ⟨g, cap, cur, q1, q2, q3, q4, _⟩
        · exact ⟨none, 0, by rw [q1, q2], .inl ⟨rfl, q2, rfl⟩⟩
        · exact ⟨_, cap, q1, .inr ⟨g, rfl, (Array.getElem?_eq_some_iff.1 q3).1, q4⟩⟩
      subst hv
      obtain ⟨w2, hw2⟩ : ∃ w2, w2 = wr.alloc (ndO n) := ⟨_, rfl⟩
      have HE2 := (show Hid (wr.alloc (.cells #[.int .i64 n.op, .int .i64 n.nn, .string n.tx, .int .u64 n.s0, .int .u64 n.s1, .int .u64 n.s2, .int .u64 n.s3] 62) = w2) from hw2.symm)
      have HN2 := (show Hid (NX w2 wr.heap.size n) from by rw [hw2]; exact ⟨heap_alloc_new wr _⟩)
      have hb2 : Below wr.heap.size wr w2 := by rw [hw2]; exact below_box _ _
      have HW2 := (show Hid (AtE L E J Bc w w2 k X (.slice A (run L k).length cA) (run L k)) from HW.out.below HS.out HB.out (Nat.le_refl _) hb2)
      have HSz := (show Hid (w2.heap.size = wr.heap.size + 1 ∧ w.heap.size < wr.heap.size) from ⟨by rw [hw2, World.size_alloc], HW.out.z.lt⟩)
      have b0 := HN2.out.nb.c0
      have hml : (run L k).length ≤ 2048 := by have := run_len L k; omega
      have HAo := (show Hid _ from hAo)
      obtain ⟨r, hr⟩ : ∃ r, r + arN n.op = (run L k).length := ⟨(run L k).length - arN n.op, by omega⟩
      have HXlt := (show Hid (∀ b, X b → b < wr.heap.size) from fun b hb => (HS.out.far _ _ _ HW.out.j b hb).2)
      clear hn hal har hAo hw2 hb2 HW HG
      obtain ⟨m, hm⟩ : ∃ m, m = (run L k).length := ⟨_, rfl⟩
      have HM := (show Hid (m = (run L k).length) from hm)
      rw [← hm] at hr hml ⊢
      have hsub : (m : Int) - (arN n.op : Int) = (r : Int) := by omega
      have HAa := (show Hid (arN n.op ≤ 2 ∧ r + arN n.op = m) from ⟨arN_le _, hr⟩)
      have hmr : m - r = arN n.op := by omega
      have zr : (r : Int) ≤ (m : Int) := by omega
      have zr0 : (0 : Int) ≤ (r : Int) := by omega
      have zc : (m : Int) ≤ (cA : Int) := by
        rcases HAo.out with ⟨_, q2, q3⟩ | ⟨g, _, _, q3⟩
        · omega
        · omega
      obtain ⟨A2, hA2, hA2r, hA2b⟩ : ∃ A2, (if cA = r then A else Option.map (fun x => x.add (r * 4)) A) = A2 ∧ RdE w2 A2 (emS E ((run L k).take (arN n.op))) ∧ ∀ a, A2 = some a → ¬ X a.block := by
        refine ⟨_, rfl, ?_, ?_⟩
        · intro hx0
          have ha0 : 0 < ((run L k).take (arN n.op)).length := by
            rw [← emS_len E]; exact List.length_pos_iff.2 hx0
          rw [List.length_take] at ha0
          rcases HAo.out with ⟨q1, q2, q3⟩ | ⟨g, q1, q2, q3⟩
          · omega
          · have hc : ¬ cA = r := by omega
            rw [if_neg hc, q1]
            have ho := HW2.out.o
            rw [q1] at ho
            have hra : (emS E ((run L k).drop (arN n.op))).length = r := by rw [emS_len, List.length_drop]; omega
            have h := em_read ho _ _ (emS_split E (run L k) (arN n.op)) hx0
            rw [hra] at h
            rw [Option.map_some, Addr.add_lit, Nat.zero_add]
            exact h hx0
        · intro a ha
          rcases HAo.out with ⟨q1, q2, q3⟩ | ⟨g, q1, q2, q3⟩
          · rw [q1] at ha; split at ha <;> cases ha
          · rw [q1] at ha
            have hX := HW2.out.d g (by rw [q1]; rfl)
            split at ha
            · cases ha; exact hX
            · rw [Option.map_some, Addr.add_lit] at ha; cases ha; exact hX
      have HR2 := (show Hid (RdE w2 A2 (emS E ((run L k).take (arN n.op))) ∧ ∀ a, A2 = some a → ¬ X a.block) from ⟨hA2r, hA2b⟩)
      clear hA2r hA2b hr hm
      go_wp2_with (rw [HE2.out])
      refine (HAr.out _).mono ?_
      rintro e w3 ⟨rfl, rfl⟩
      clear HAr c0 c1 c2 c3 c4 c5 c6 b0 HE2
      have HE := (show Hid (E k = E k) from rfl)
      obtain ⟨ek, hek⟩ : ∃ ek, ek = E k := ⟨_, rfl⟩
      have HEk := (show Hid (ek = E k) from hek)
      have HW3 := (show Hid (AtE L E J Bc w w3 k X (.slice A m cA) (run L k)) from by rw [HM.out]; exact HW2.out)
      have hD : Below w3.heap.size w3 w3.drew := (Below.refl _ _).drew
      obtain ⟨wz, hwz⟩ : ∃ wz, wz = (w3.alloc (.cells #[.bool false, .bool false, .int .i64 0, .int .i64 0] 33)).drew := ⟨_, rfl⟩
      have hZ : Below w3.heap.size w3 wz := by rw [hwz]; exact (below_box w3 _).drew
      have hZs : wz.heap.size = w3.heap.size + 1 := by rw [hwz]; exact World.size_alloc w3 (.cells #[.bool false, .bool false, .int .i64 0, .int .i64 0] 33)
      have HXz := (show Hid (EX wz w3.heap.size e0) from by rw [hwz]; exact (EX.new w3 e0).below (Below.refl _ _).drew)
      have HC1 := (show Hid (∀ _ : Unit, Calls Tryz.prog F (fs ++ #[ndG n, .slice A2 (arN n.op) (cA - r)] ++ cs) w3.drew fun e w' => e = .returned (emG ek) ∧ ∃ X', AtE L E J Bc w w' (k + 1) X' (.slice A m cA) (run L k)) from fun _ => by
        have hat := HW3.out.below HS.out HB.out (Nat.le_refl _) hD
        rw [hek]
        refine (HS.out.call k X w3.drew A2 (cA - r) n hat.j hat.b.size HNn.out (HR2.out.1.later hD) HR2.out.2).mono ?_
        rintro e w' ⟨h1, X', h2, h3, h4⟩
        exact ⟨h1, X', hat.told HS.out HB.out h2 h3 h4⟩)
      have HC2 := (show Hid (∀ _ : Unit, Calls Tryz.prog F (fs ++ #[ndG n, .slice A2 (arN n.op) (cA - r)] ++ cs) wz fun e w' => e = .returned (emG ek) ∧ EX w' w3.heap.size e0 ∧ ∃ X', AtE L E J Bc w w' (k + 1) X' (.slice A m cA) (run L k) ∧ ¬ X' w3.heap.size) from fun _ => by
        have hat := HW3.out.below HS.out HB.out (Nat.le_refl _) hZ
        rw [hek]
        refine (HS.out.call k X wz A2 (cA - r) n hat.j hat.b.size HNn.out (HR2.out.1.later hZ) HR2.out.2).mono ?_
        have hns : ¬ X w3.heap.size := fun q => by
          have := HXlt.out _ q
          have := HSz.out.1
          omega
        rintro e w' ⟨h1, X', h2, h3, h4⟩
        refine ⟨h1, HXz.out.same (h3.block _ HXz.out.lt hns), X', hat.told HS.out HB.out h2 h3 h4, fun q => ?_⟩
        rcases h4 _ q with q | q
        · exact hns q
        · omega)
      have HAl := (show Hid (∀ w4 : World, (∃ X', AtE L E J Bc w w4 (k + 1) X' (.slice A m cA) (run L k)) → Hid (EX (w4.alloc (emO ek)) w4.heap.size ek ∧ ∃ X', AtE L E J Bc w (w4.alloc (emO ek)) (k + 1) X' (.slice A m cA) (run L k))) from fun w4 h => by
        obtain ⟨X', h⟩ := h
        exact ⟨EX.new w4 ek, X', h.below HS.out HB.out (Nat.le_refl _) (below_box _ _)⟩)
      have HSe := (show Hid (∀ w4 : World, EX w4 w3.heap.size e0 → (∃ X', AtE L E J Bc w w4 (k + 1) X' (.slice A m cA) (run L k) ∧ ¬ X' w3.heap.size) → Hid (EX (st4 w4 w3.heap.size ek) w3.heap.size ek ∧ ∃ X', AtE L E J Bc w (st4 w4 w3.heap.size ek) (k + 1) X' (.slice A m cA) (run L k))) from fun w4 hx h => by
        obtain ⟨X', h, hn⟩ := h
        refine ⟨hx.all ek, X', h.put HS.out HB.out (Nat.le_refl _) (by have := HSz.out; omega) hn (fun g hg e => ?_) ek⟩
        have := (HW3.out.o.lt g hg).2
        omega)
      have d0 : w3.drew.cell? ⟨wr.heap.size, 0, none⟩ = some (.int .i64 n.op) := (nx_below HN2.out hD).nb.c0
      have d1 : w3.drew.cell? ⟨wr.heap.size, 1, none⟩ = some (.int .i64 n.nn) := (nx_below HN2.out hD).nb.c1
      have d2 : w3.drew.cell? ⟨wr.heap.size, 2, none⟩ = some (.string n.tx) := (nx_below HN2.out hD).nb.c2
      have d3 : w3.drew.cell? ⟨wr.heap.size, 3, none⟩ = some (.int .u64 n.s0) := (nx_below HN2.out hD).nb.c3
      have d4 : w3.drew.cell? ⟨wr.heap.size, 4, none⟩ = some (.int .u64 n.s1) := (nx_below HN2.out hD).nb.c4
      have d5 : w3.drew.cell? ⟨wr.heap.size, 5, none⟩ = some (.int .u64 n.s2) := (nx_below HN2.out hD).nb.c5
      have d6 : w3.drew.cell? ⟨wr.heap.size, 6, none⟩ = some (.int .u64 n.s3) := (nx_below HN2.out hD).nb.c6
      have e0' : wz.cell? ⟨wr.heap.size, 0, none⟩ = some (.int .i64 n.op) := (nx_below HN2.out hZ).nb.c0
      have e1' : wz.cell? ⟨wr.heap.size, 1, none⟩ = some (.int .i64 n.nn) := (nx_below HN2.out hZ).nb.c1
      have e2' : wz.cell? ⟨wr.heap.size, 2, none⟩ = some (.string n.tx) := (nx_below HN2.out hZ).nb.c2
      have e3' : wz.cell? ⟨wr.heap.size, 3, none⟩ = some (.int .u64 n.s0) := (nx_below HN2.out hZ).nb.c3
      have e4' : wz.cell? ⟨wr.heap.size, 4, none⟩ = some (.int .u64 n.s1) := (nx_below HN2.out hZ).nb.c4
      have e5' : wz.cell? ⟨wr.heap.size, 5, none⟩ = some (.int .u64 n.s2) := (nx_below HN2.out hZ).nb.c5
      have e6' : wz.cell? ⟨wr.heap.size, 6, none⟩ = some (.int .u64 n.s3) := (nx_below HN2.out hZ).nb.c6
      obtain ⟨en, ec, el, em⟩ := ek
      simp only [emG] at HC1 HC2
      simp only [st4, emO] at HAl HSe
      rw [hwz] at e0' e1' e2' e3' e4' e5' e6' HC2
      clear hek hD hZ hZs hwz HXz HW2 HR2 HE
      go_wp2_with fail
      go_region_law (first
        | (refine step_callf hen rfl _ _ _ _ _ (by rfl) fs cs (by rfl) (ndG n) (.slice A2 (arN n.op) (cA - r)) (by rfl) (by rfl) ?_; with_reducible refine (HC1.out ()).mono ?_; rintro e w4 ⟨rfl, h4⟩; refine ⟨_, rfl, ?_⟩; have HF := HAl.out w4 h4)
        | (refine step_callf hen rfl _ _ _ _ _ (by rfl) fs cs (by rfl) (ndG n) (.slice A2 (arN n.op) (cA - r)) (by rfl) (by rfl) ?_; with_reducible refine (HC2.out ()).mono ?_; rintro e w4 ⟨rfl, hx4, h4⟩; refine ⟨_, rfl, ?_⟩; have g0 := hx4.fz 0; have g1 := hx4.fz 1; have g2 := hx4.fz 2; have g3 := hx4.fz 3; have y0 := hx4.eb.c0; have y1 := hx4.eb.c1; have y2 := hx4.eb.c2; have y3 := hx4.eb.c3; have HF := HSe.out w4 hx4 h4))
      all_goals
        first
          | (clear g0 g1 g2 g3 y0 y1 y2 y3; generalize (((w4.setCell ⟨w3.heap.size, 0, none⟩ (.bool en)).setCell ⟨w3.heap.size, 1, none⟩ (.bool ec)).setCell ⟨w3.heap.size, 2, none⟩ (.int .i64 el)).setCell ⟨w3.heap.size, 3, none⟩ (.int .i64 em) = w5 at HF ⊢; generalize w3.heap.size = kk at HF ⊢; clear h4 hx4)
          | (generalize w4.alloc (.cells #[.bool en, .bool ec, .int .i64 el, .int .i64 em] 33) = w5 at HF ⊢; generalize w4.heap.size = kk at HF ⊢; clear h4)
        clear HC1 HC2 HAl HSe d0 d1 d2 d3 d4 d5 d6 e0' e1' e2' e3' e4' e5' e6'
        obtain ⟨hxk, X', hat5⟩ := HF.out
        have HA5 := (show Hid (AtE L E J Bc w w5 (k + 1) X' (.slice A m cA) (run L k)) from hat5)
        have HO5 := (show Hid (w5.ownsRow (w.heap.size + 1) 33 4 (.slice A r cA) r (emc (emS E ((run L k).drop (arN n.op))))) from own_front (m := m) (by have h := hat5.o; rw [← HM.out] at h; exact h) (emS_split E (run L k) (arN n.op)) (by rw [emS_len, List.length_drop, ← HM.out]; have := HAa.out; omega) (by have := HAa.out; omega) (by
          rcases HAo.out with ⟨q1, q2, q3⟩ | ⟨g, q1, _, _⟩
          · exact .inl ⟨q1, by rw [HM.out]; exact q2, q3⟩
          · exact .inr ⟨g, q1⟩))
        have x0 : w5.cell? ⟨kk, 0, none⟩ = some (.bool en) := hxk.eb.c0
        have x1 : w5.cell? ⟨kk, 1, none⟩ = some (.bool ec) := hxk.eb.c1
        have x2 : w5.cell? ⟨kk, 2, none⟩ = some (.int .i64 el) := hxk.eb.c2
        have x3 : w5.cell? ⟨kk, 3, none⟩ = some (.int .i64 em) := hxk.eb.c3
        have zc2 : (r : Int) ≤ (cA : Int) := by omega
        have HSw := (show Hid (w.heap.size + 1 ≤ w5.heap.size) from hat5.z.lt)
        have HPs := (show Hid (∀ (w6 : World) (g3 cap3 : Nat), w6.ownsRow (w.heap.size + 1) 33 4 (.slice (some ⟨g3, 0, none⟩) (r + 1) cap3) (r + 1) (emc (emS E ((run L k).drop (arN n.op))) ++ emV ⟨en, ec, el, em⟩) → ((w5.alloc (.cells #[.bool en, .bool ec, .int .i64 el, .int .i64 em] 33)).drew).grownBy w6 (Value.slice A r cA).ownBlock → ((Value.slice A r cA).ownBlock = some g3 ∨ g3 = w5.heap.size + 1) → AtE L E J Bc w w6 (k + 1) X' (.slice (some ⟨g3, 0, none⟩) (r + 1) cap3) (run L (k + 1))) from fun w6 g3 cap3 h1 h2 h3 => by
          have hl : (run L (k + 1)).length = r + 1 := by
            rw [run_succ, List.length_cons, List.length_drop, op_of HNn.out, ← HM.out]
            have := HAa.out
            omega
          refine HA5.out.push HS.out HB.out (Nat.le_refl _) (grown_drew h2) (fun b hb => ?_) ?_ (fun g hg => ?_)
          · rcases HAo.out with ⟨q1, _, _⟩ | ⟨g, q1, _, _⟩
            · rw [q1] at hb; cases hb
            · rw [q1] at hb ⊢; exact hb
          · rw [hl, run_succ, emS_cons, pt_last, op_of HNn.out, emc_app, emc_one, ← HEk.out]
            exact h1
          · have e : g3 = g := by injection hg
            subst e
            rcases h3 with q | q
            · refine .inl ?_
              rcases HAo.out with ⟨q1, _, _⟩ | ⟨g, q1, _, _⟩
              · rw [q1] at q; cases q
              · rw [q1] at q ⊢; exact q
            · exact .inr (by omega))
        clear HF hxk hat5
        go_wp2_with fail
        go_region_law (refine step_append_lies _ (by rfl) _ _ _ (by rfl) (w.heap.size + 1) 33 i0 zE 4 24 Tryz.underlying26 hinf hz0 hz1 hz2 rfl (by omega) _ _ (emc (emS E ((run L k).drop (arN n.op)))) (by rfl) (T.own_drew (HO5.out.alloc _)) ⟨w5.heap.size, 0, none⟩ 1 1 (emV ⟨en, ec, el, em⟩) (by rfl) (by rfl) (World.news_of_block (cs := #[.bool en, .bool ec, .int .i64 el, .int .i64 em]) (t := 33) (fr := (0, 0)) (heap_alloc_new w5 _)) (em_one _) (by omega) (by unfold maxLen; omega) (by omega) (by show w.heap.size + 1 ≤ (w5.alloc _).heap.size; rw [World.size_alloc]; exact Nat.le_succ_of_le HSw.out) (w5.heap.size + 1) (by simp) ?_; intro g3 cap3 w6 hown hgrow hat hltg; have HP6 := hid_of (HPs.out w6 g3 cap3 hown hgrow hat))
        all_goals
          clear hown hgrow hat hltg HPs HA5 HO5 x0 x1 x2 x3 HSw
          go_wp2_with fail
          go_roundw
          case rel => exact ⟨k + 1, X', by omega, by go_num, HP6⟩
          case measure => simp [intOf]; omega
    · obtain rfl : k = L.length := by omega
      obtain ⟨g, c, e, e0, hE⟩ : ∃ g c e, u5 = .slice (some ⟨g, 0, none⟩) 1 c ∧ EB wr g 0 e ∧ Hid (e = E (L.length - 1)) := by
        have ho := HW.out.o
        have h1 := HOne.out
        have hp := HPos.out
        obtain ⟨j, hj⟩ : ∃ j, L.length = j + 1 := ⟨L.length - 1, by omega⟩
        have hr : run L L.length = [pt L j] := by
          rw [hj, run_succ] at h1 ⊢
          rw [List.length_cons] at h1
          rw [List.eq_nil_of_length_eq_zero (by omega : ((run L j).drop (arN (T.opAt L j))).length = 0)]
        rw [hr] at ho
        obtain ⟨g, c, e, _⟩ := ho.form (by show 0 < 1; omega)
        refine ⟨g, c, E (pt L j).2.1, e, ?_, ?_⟩
        · rw [e] at ho
          have h := own_eb (l := emS E [pt L j]) (xs := []) (by rw [List.append_nil]; exact ho) 0 (E (pt L j).2.1) rfl
          rw [Nat.zero_mul] at h
          exact h
        · show E (pt L j).2.1 = _
          rw [pt_last, hj]
          rfl
      subst e0
      have HEe := (show Hid (EX (st4 wr w.heap.size e) w.heap.size e ∧ Below Bc w (st4 wr w.heap.size e) ∧ ∃ X, J L.length X (st4 wr w.heap.size e)) from by
        have h := HW.out
        have hb := HB.out
        refine ⟨h.z.all e, (((h.b.setCell (p := ⟨w.heap.size, 0, none⟩) hb _).setCell (p := ⟨w.heap.size, 1, none⟩) hb _).setCell (p := ⟨w.heap.size, 2, none⟩) hb _).setCell (p := ⟨w.heap.size, 3, none⟩) hb _, X, HS.out.kept _ X wr _ h.j (by unfold st4; rw [World.size_setCell, World.size_setCell, World.size_setCell, World.size_setCell]; exact Nat.le_refl _) (fun b q => st4_other (fun e => ?_) _)⟩
        subst e
        rcases q with q | q
        · omega
        · exact h.dz q)
      obtain ⟨x0, x1, x2, x3⟩ := hE.1
      have hE2 := hE.2
      have f0 := HW.out.z.fz 0
      have f1 := HW.out.z.fz 1
      have f2 := HW.out.z.fz 2
      have f3 := HW.out.z.fz 3
      have z0 : wr.cell? ⟨w.heap.size, 0, none⟩ = some (.bool false) := HW.out.z.eb.c0
      have z1 : wr.cell? ⟨w.heap.size, 1, none⟩ = some (.bool false) := HW.out.z.eb.c1
      have z2 : wr.cell? ⟨w.heap.size, 2, none⟩ = some (.int .i64 0) := HW.out.z.eb.c2
      have z3 : wr.cell? ⟨w.heap.size, 3, none⟩ = some (.int .i64 0) := HW.out.z.eb.c3
      obtain ⟨en, ec, el, em⟩ := e
      simp only at x0 x1 x2 x3
      clear hE HW HOne HG HCl HS
      go_wp2_with fail
      refine ret_ex (s := 4) (k := w.heap.size) (by rfl) (by rfl) (by rfl) HEe.out.1 ?_
      exact ⟨by rw [← hE2.out], HEe.out.2⟩
end Go.Proofs.YtokfgoepnfjafaaGreat.N
