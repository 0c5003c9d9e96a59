/- DERIVED. Plain mathematics and walks, laid together (5). -/
import Derived.Maps.OwnSet
import Derived.Maps.OwnOps
import Derived.Maps.Range
import Derived.Test.YtbnihflihelimaaGreatHa04
namespace Go.Proofs.YtbnihflihelimaaGreat.N
open Go.RowKit Go.Maps
open Go.Proofs.YtbnihflihelimaaGreat.T
def abE (n : Nd) (x : Em) : Em := if n.op = 9 then atLE 0 x else if n.op = 10 then atLE 1 x else if n.op = 11 then atME 1 x else if n.op = 12 then ⟨true, x.cf, 0, 0⟩ else if n.op = 13 then ⟨true, true, 0, 0⟩ else if n.op = 14 then repE n.nn x else if n.op = 15 then atLE n.nn x else if n.op = 16 then atME n.nn x else x
/-- A node's box, a part's and the answer's. -/
structure E4 (w W : World) (n : Nd) (x : Em) : Prop where
  b : Below w.heap.size w W
  n : NX W w.heap.size n
  x : EX W (w.heap.size + 1) x
  z : EX W (w.heap.size + 2) e0
theorem nx_below {W W' : World} {b : Nat} {n : Nd} (h : NX W b n) (hb : Below W.heap.size W W') : NX W' b n := h.same (hb.block b h.lt)
theorem E4.start (w : World) (n : Nd) (x : Em) : E4 w (((w.alloc (ndO n)).alloc (emO x)).alloc (emO e0)) n x := by
  have s1 := World.size_alloc w (ndO n)
  have s2 := World.size_alloc (w.alloc (ndO n)) (emO x)
  refine ⟨(((Below.refl _ _).alloc (Nat.le_refl _) _).alloc (by omega) _).alloc (by omega) _, nx_below (nx_below ⟨heap_alloc_new w _⟩ (below_box _ _)) (below_box _ _), EX.below ?_ (below_box _ _), ?_⟩
  · have h := EX.new (w.alloc (ndO n)) x; rw [s1] at h; exact h
  · have h := EX.new ((w.alloc (ndO n)).alloc (emO x)) e0; rw [s2, s1] at h; exact h
theorem E4.later {w W W' : World} {n : Nd} {x : Em} (h : E4 w W n x) (hb : Below W.heap.size W W') : E4 w W' n x := ⟨h.b.trans (hb.mono h.b.size), nx_below h.n hb, h.x.below hb, h.z.below hb⟩
theorem E4.ret {w W : World} {n : Nd} {x : Em} (h : E4 w W n x) (f : Em) : EX (st4 W (w.heap.size + 2) f) (w.heap.size + 2) f ∧ Below w.heap.size w (st4 W (w.heap.size + 2) f) := ⟨h.z.all f, st4_below h.b (by omega) f⟩
set_option maxRecDepth 100000 in
set_option maxHeartbeats 8000000 in
theorem above_9 (nd : Nd) (x : Em) (ho : nd.op = 9) (hx : OkE x) (w : World) : Calls Tryz.prog 116 #[ndG nd, emG x] w fun e w' => e = .returned (emG ((atLE 0 x) : Em)) ∧ Below w.heap.size w w' := by
  have HR := (show Hid (∀ w, Calls Tryz.prog 126 #[.int .i64 0, emG x] w fun e w' => e = .returned (emG (atLE 0 x)) ∧ Below w.heap.size w w') from fun w => atLeast_any 0 x (by decide) (by decide) hx w)
  generalize atLE 0 x = rr at *
  obtain ⟨rn, rc, rl, rm⟩ := rr
  obtain ⟨xn, xc, xl, xm⟩ := x
  simp only [emG] at HR
  have t9 : (nd.op == 9) = true := by rw [ho]; rfl
  have HA := (show Hid (E4 w (((w.alloc (.cells #[.int .i64 nd.op, .int .i64 nd.nn, .string nd.tx, .int .u64 nd.s0, .int .u64 nd.s1, .int .u64 nd.s2, .int .u64 nd.s3] 70)).alloc (.cells #[.bool xn, .bool xc, .int .i64 xl, .int .i64 xm] 74)).alloc (.cells #[.bool false, .bool false, .int .i64 0, .int .i64 0] 74)) nd ⟨xn, xc, xl, xm⟩) from E4.start w nd ⟨xn, xc, xl, xm⟩)
  clear hx ho
  obtain ⟨w1, hw1⟩ : ∃ w1, w1 = ((w.alloc (.cells #[.int .i64 nd.op, .int .i64 nd.nn, .string nd.tx, .int .u64 nd.s0, .int .u64 nd.s1, .int .u64 nd.s2, .int .u64 nd.s3] 70)).alloc (.cells #[.bool xn, .bool xc, .int .i64 xl, .int .i64 xm] 74)).alloc (.cells #[.bool false, .bool false, .int .i64 0, .int .i64 0] 74) := ⟨_, rfl⟩
  have HE1 := (show Hid (((w.alloc (.cells #[.int .i64 nd.op, .int .i64 nd.nn, .string nd.tx, .int .u64 nd.s0, .int .u64 nd.s1, .int .u64 nd.s2, .int .u64 nd.s3] 70)).alloc (.cells #[.bool xn, .bool xc, .int .i64 xl, .int .i64 xm] 74)).alloc (.cells #[.bool false, .bool false, .int .i64 0, .int .i64 0] 74) = w1) from hw1.symm)
  rw [← hw1] at HA
  clear hw1
  have q0 : w1.cell? ⟨w.heap.size, 0, none⟩ = some (.int .i64 nd.op) := HA.out.n.nb.c0
  have q1 : w1.cell? ⟨w.heap.size, 1, none⟩ = some (.int .i64 nd.nn) := HA.out.n.nb.c1
  have x0 : w1.cell? ⟨w.heap.size + 1, 0, none⟩ = some (.bool xn) := HA.out.x.eb.c0
  have x1 : w1.cell? ⟨w.heap.size + 1, 1, none⟩ = some (.bool xc) := HA.out.x.eb.c1
  have x2 : w1.cell? ⟨w.heap.size + 1, 2, none⟩ = some (.int .i64 xl) := HA.out.x.eb.c2
  have x3 : w1.cell? ⟨w.heap.size + 1, 3, none⟩ = some (.int .i64 xm) := HA.out.x.eb.c3
  go_enter Tryz.func116, Tryz.ntmps116
  go_wp2_with (rw [HE1.out])
  refine (HR.out _).mono ?_
  rintro e w2 ⟨rfl, b2⟩
  have HA2 := (show Hid (E4 w w2 nd ⟨xn, xc, xl, xm⟩) from HA.out.later b2)
  have f0 := HA2.out.z.fz 0
  have f1 := HA2.out.z.fz 1
  have f2 := HA2.out.z.fz 2
  have f3 := HA2.out.z.fz 3
  have z0 : w2.cell? ⟨w.heap.size + 2, 0, none⟩ = some (.bool false) := HA2.out.z.eb.c0
  have z1 : w2.cell? ⟨w.heap.size + 2, 1, none⟩ = some (.bool false) := HA2.out.z.eb.c1
  have z2 : w2.cell? ⟨w.heap.size + 2, 2, none⟩ = some (.int .i64 0) := HA2.out.z.eb.c2
  have z3 : w2.cell? ⟨w.heap.size + 2, 3, none⟩ = some (.int .i64 0) := HA2.out.z.eb.c3
  have HZ := (show Hid _ from HA2.out.ret ⟨rn, rc, rl, rm⟩)
  clear HA HA2 b2 HR x0 x1 x2 x3 q0 q1
  go_wp2_with fail
  refine ret_ex (s := 4) (k := w.heap.size + 2) (by rfl) (by rfl) (by rfl) HZ.out.1 ?_
  exact ⟨rfl, HZ.out.2⟩
set_option maxRecDepth 100000 in
set_option maxHeartbeats 8000000 in
theorem above_10 (nd : Nd) (x : Em) (ho : nd.op = 10) (hx : OkE x) (w : World) : Calls Tryz.prog 116 #[ndG nd, emG x] w fun e w' => e = .returned (emG ((atLE 1 x) : Em)) ∧ Below w.heap.size w w' := by
  have HR := (show Hid (∀ w, Calls Tryz.prog 126 #[.int .i64 1, emG x] w fun e w' => e = .returned (emG (atLE 1 x)) ∧ Below w.heap.size w w') from fun w => atLeast_any 1 x (by decide) (by decide) hx w)
  generalize atLE 1 x = rr at *
  obtain ⟨rn, rc, rl, rm⟩ := rr
  obtain ⟨xn, xc, xl, xm⟩ := x
  simp only [emG] at HR
  have t9 : (nd.op == 9) = false := by rw [beq_eq_false_iff_ne]; omega
  have t10 : (nd.op == 10) = true := by rw [ho]; rfl
  have HA := (show Hid (E4 w (((w.alloc (.cells #[.int .i64 nd.op, .int .i64 nd.nn, .string nd.tx, .int .u64 nd.s0, .int .u64 nd.s1, .int .u64 nd.s2, .int .u64 nd.s3] 70)).alloc (.cells #[.bool xn, .bool xc, .int .i64 xl, .int .i64 xm] 74)).alloc (.cells #[.bool false, .bool false, .int .i64 0, .int .i64 0] 74)) nd ⟨xn, xc, xl, xm⟩) from E4.start w nd ⟨xn, xc, xl, xm⟩)
  clear hx ho
  obtain ⟨w1, hw1⟩ : ∃ w1, w1 = ((w.alloc (.cells #[.int .i64 nd.op, .int .i64 nd.nn, .string nd.tx, .int .u64 nd.s0, .int .u64 nd.s1, .int .u64 nd.s2, .int .u64 nd.s3] 70)).alloc (.cells #[.bool xn, .bool xc, .int .i64 xl, .int .i64 xm] 74)).alloc (.cells #[.bool false, .bool false, .int .i64 0, .int .i64 0] 74) := ⟨_, rfl⟩
  have HE1 := (show Hid (((w.alloc (.cells #[.int .i64 nd.op, .int .i64 nd.nn, .string nd.tx, .int .u64 nd.s0, .int .u64 nd.s1, .int .u64 nd.s2, .int .u64 nd.s3] 70)).alloc (.cells #[.bool xn, .bool xc, .int .i64 xl, .int .i64 xm] 74)).alloc (.cells #[.bool false, .bool false, .int .i64 0, .int .i64 0] 74) = w1) from hw1.symm)
  rw [← hw1] at HA
  clear hw1
  have q0 : w1.cell? ⟨w.heap.size, 0, none⟩ = some (.int .i64 nd.op) := HA.out.n.nb.c0
  have q1 : w1.cell? ⟨w.heap.size, 1, none⟩ = some (.int .i64 nd.nn) := HA.out.n.nb.c1
  have x0 : w1.cell? ⟨w.heap.size + 1, 0, none⟩ = some (.bool xn) := HA.out.x.eb.c0
  have x1 : w1.cell? ⟨w.heap.size + 1, 1, none⟩ = some (.bool xc) := HA.out.x.eb.c1
  have x2 : w1.cell? ⟨w.heap.size + 1, 2, none⟩ = some (.int .i64 xl) := HA.out.x.eb.c2
  have x3 : w1.cell? ⟨w.heap.size + 1, 3, none⟩ = some (.int .i64 xm) := HA.out.x.eb.c3
  go_enter Tryz.func116, Tryz.ntmps116
  go_wp2_with (rw [HE1.out])
  refine (HR.out _).mono ?_
  rintro e w2 ⟨rfl, b2⟩
  have HA2 := (show Hid (E4 w w2 nd ⟨xn, xc, xl, xm⟩) from HA.out.later b2)
  have f0 := HA2.out.z.fz 0
  have f1 := HA2.out.z.fz 1
  have f2 := HA2.out.z.fz 2
  have f3 := HA2.out.z.fz 3
  have z0 : w2.cell? ⟨w.heap.size + 2, 0, none⟩ = some (.bool false) := HA2.out.z.eb.c0
  have z1 : w2.cell? ⟨w.heap.size + 2, 1, none⟩ = some (.bool false) := HA2.out.z.eb.c1
  have z2 : w2.cell? ⟨w.heap.size + 2, 2, none⟩ = some (.int .i64 0) := HA2.out.z.eb.c2
  have z3 : w2.cell? ⟨w.heap.size + 2, 3, none⟩ = some (.int .i64 0) := HA2.out.z.eb.c3
  have HZ := (show Hid _ from HA2.out.ret ⟨rn, rc, rl, rm⟩)
  clear HA HA2 b2 HR x0 x1 x2 x3 q0 q1
  go_wp2_with fail
  refine ret_ex (s := 4) (k := w.heap.size + 2) (by rfl) (by rfl) (by rfl) HZ.out.1 ?_
  exact ⟨rfl, HZ.out.2⟩
set_option maxRecDepth 100000 in
set_option maxHeartbeats 8000000 in
theorem above_11 (nd : Nd) (x : Em) (ho : nd.op = 11) (hx : OkE x) (w : World) : Calls Tryz.prog 116 #[ndG nd, emG x] w fun e w' => e = .returned (emG ((atME 1 x) : Em)) ∧ Below w.heap.size w w' := by
  have HR := (show Hid (∀ w, Calls Tryz.prog 127 #[.int .i64 1, emG x] w fun e w' => e = .returned (emG (atME 1 x)) ∧ Below w.heap.size w w') from fun w => atMost_any 1 x (by decide) (by decide) hx w)
  generalize atME 1 x = rr at *
  obtain ⟨rn, rc, rl, rm⟩ := rr
  obtain ⟨xn, xc, xl, xm⟩ := x
  simp only [emG] at HR
  have t9 : (nd.op == 9) = false := by rw [beq_eq_false_iff_ne]; omega
  have t10 : (nd.op == 10) = false := by rw [beq_eq_false_iff_ne]; omega
  have t11 : (nd.op == 11) = true := by rw [ho]; rfl
  have HA := (show Hid (E4 w (((w.alloc (.cells #[.int .i64 nd.op, .int .i64 nd.nn, .string nd.tx, .int .u64 nd.s0, .int .u64 nd.s1, .int .u64 nd.s2, .int .u64 nd.s3] 70)).alloc (.cells #[.bool xn, .bool xc, .int .i64 xl, .int .i64 xm] 74)).alloc (.cells #[.bool false, .bool false, .int .i64 0, .int .i64 0] 74)) nd ⟨xn, xc, xl, xm⟩) from E4.start w nd ⟨xn, xc, xl, xm⟩)
  clear hx ho
  obtain ⟨w1, hw1⟩ : ∃ w1, w1 = ((w.alloc (.cells #[.int .i64 nd.op, .int .i64 nd.nn, .string nd.tx, .int .u64 nd.s0, .int .u64 nd.s1, .int .u64 nd.s2, .int .u64 nd.s3] 70)).alloc (.cells #[.bool xn, .bool xc, .int .i64 xl, .int .i64 xm] 74)).alloc (.cells #[.bool false, .bool false, .int .i64 0, .int .i64 0] 74) := ⟨_, rfl⟩
  have HE1 := (show Hid (((w.alloc (.cells #[.int .i64 nd.op, .int .i64 nd.nn, .string nd.tx, .int .u64 nd.s0, .int .u64 nd.s1, .int .u64 nd.s2, .int .u64 nd.s3] 70)).alloc (.cells #[.bool xn, .bool xc, .int .i64 xl, .int .i64 xm] 74)).alloc (.cells #[.bool false, .bool false, .int .i64 0, .int .i64 0] 74) = w1) from hw1.symm)
  rw [← hw1] at HA
  clear hw1
  have q0 : w1.cell? ⟨w.heap.size, 0, none⟩ = some (.int .i64 nd.op) := HA.out.n.nb.c0
  have q1 : w1.cell? ⟨w.heap.size, 1, none⟩ = some (.int .i64 nd.nn) := HA.out.n.nb.c1
  have x0 : w1.cell? ⟨w.heap.size + 1, 0, none⟩ = some (.bool xn) := HA.out.x.eb.c0
  have x1 : w1.cell? ⟨w.heap.size + 1, 1, none⟩ = some (.bool xc) := HA.out.x.eb.c1
  have x2 : w1.cell? ⟨w.heap.size + 1, 2, none⟩ = some (.int .i64 xl) := HA.out.x.eb.c2
  have x3 : w1.cell? ⟨w.heap.size + 1, 3, none⟩ = some (.int .i64 xm) := HA.out.x.eb.c3
  go_enter Tryz.func116, Tryz.ntmps116
  go_wp2_with (rw [HE1.out])
  refine (HR.out _).mono ?_
  rintro e w2 ⟨rfl, b2⟩
  have HA2 := (show Hid (E4 w w2 nd ⟨xn, xc, xl, xm⟩) from HA.out.later b2)
  have f0 := HA2.out.z.fz 0
  have f1 := HA2.out.z.fz 1
  have f2 := HA2.out.z.fz 2
  have f3 := HA2.out.z.fz 3
  have z0 : w2.cell? ⟨w.heap.size + 2, 0, none⟩ = some (.bool false) := HA2.out.z.eb.c0
  have z1 : w2.cell? ⟨w.heap.size + 2, 1, none⟩ = some (.bool false) := HA2.out.z.eb.c1
  have z2 : w2.cell? ⟨w.heap.size + 2, 2, none⟩ = some (.int .i64 0) := HA2.out.z.eb.c2
  have z3 : w2.cell? ⟨w.heap.size + 2, 3, none⟩ = some (.int .i64 0) := HA2.out.z.eb.c3
  have HZ := (show Hid _ from HA2.out.ret ⟨rn, rc, rl, rm⟩)
  clear HA HA2 b2 HR x0 x1 x2 x3 q0 q1
  go_wp2_with fail
  refine ret_ex (s := 4) (k := w.heap.size + 2) (by rfl) (by rfl) (by rfl) HZ.out.1 ?_
  exact ⟨rfl, HZ.out.2⟩
set_option maxRecDepth 100000 in
set_option maxHeartbeats 8000000 in
theorem above_12 (nd : Nd) (x : Em) (ho : nd.op = 12) (hx : OkE x) (w : World) : Calls Tryz.prog 116 #[ndG nd, emG x] w fun e w' => e = .returned (emG (⟨true, x.cf, 0, 0⟩ : Em)) ∧ Below w.heap.size w w' := by
  obtain ⟨xn, xc, xl, xm⟩ := x
  have t9 : (nd.op == 9) = false := by rw [beq_eq_false_iff_ne]; omega
  have t10 : (nd.op == 10) = false := by rw [beq_eq_false_iff_ne]; omega
  have t11 : (nd.op == 11) = false := by rw [beq_eq_false_iff_ne]; omega
  have t12 : (nd.op == 12) = true := by rw [ho]; rfl
  have HA := (show Hid (E4 w (((w.alloc (.cells #[.int .i64 nd.op, .int .i64 nd.nn, .string nd.tx, .int .u64 nd.s0, .int .u64 nd.s1, .int .u64 nd.s2, .int .u64 nd.s3] 70)).alloc (.cells #[.bool xn, .bool xc, .int .i64 xl, .int .i64 xm] 74)).alloc (.cells #[.bool false, .bool false, .int .i64 0, .int .i64 0] 74)) nd ⟨xn, xc, xl, xm⟩) from E4.start w nd ⟨xn, xc, xl, xm⟩)
  clear hx ho
  obtain ⟨w1, hw1⟩ : ∃ w1, w1 = ((w.alloc (.cells #[.int .i64 nd.op, .int .i64 nd.nn, .string nd.tx, .int .u64 nd.s0, .int .u64 nd.s1, .int .u64 nd.s2, .int .u64 nd.s3] 70)).alloc (.cells #[.bool xn, .bool xc, .int .i64 xl, .int .i64 xm] 74)).alloc (.cells #[.bool false, .bool false, .int .i64 0, .int .i64 0] 74) := ⟨_, rfl⟩
  have HE1 := (show Hid (((w.alloc (.cells #[.int .i64 nd.op, .int .i64 nd.nn, .string nd.tx, .int .u64 nd.s0, .int .u64 nd.s1, .int .u64 nd.s2, .int .u64 nd.s3] 70)).alloc (.cells #[.bool xn, .bool xc, .int .i64 xl, .int .i64 xm] 74)).alloc (.cells #[.bool false, .bool false, .int .i64 0, .int .i64 0] 74) = w1) from hw1.symm)
  rw [← hw1] at HA
  clear hw1
  have q0 : w1.cell? ⟨w.heap.size, 0, none⟩ = some (.int .i64 nd.op) := HA.out.n.nb.c0
  have q1 : w1.cell? ⟨w.heap.size, 1, none⟩ = some (.int .i64 nd.nn) := HA.out.n.nb.c1
  have x0 : w1.cell? ⟨w.heap.size + 1, 0, none⟩ = some (.bool xn) := HA.out.x.eb.c0
  have x1 : w1.cell? ⟨w.heap.size + 1, 1, none⟩ = some (.bool xc) := HA.out.x.eb.c1
  have x2 : w1.cell? ⟨w.heap.size + 1, 2, none⟩ = some (.int .i64 xl) := HA.out.x.eb.c2
  have x3 : w1.cell? ⟨w.heap.size + 1, 3, none⟩ = some (.int .i64 xm) := HA.out.x.eb.c3
  have f0 := HA.out.z.fz 0
  have f1 := HA.out.z.fz 1
  have f2 := HA.out.z.fz 2
  have f3 := HA.out.z.fz 3
  have z0 : w1.cell? ⟨w.heap.size + 2, 0, none⟩ = some (.bool false) := HA.out.z.eb.c0
  have z1 : w1.cell? ⟨w.heap.size + 2, 1, none⟩ = some (.bool false) := HA.out.z.eb.c1
  have z2 : w1.cell? ⟨w.heap.size + 2, 2, none⟩ = some (.int .i64 0) := HA.out.z.eb.c2
  have z3 : w1.cell? ⟨w.heap.size + 2, 3, none⟩ = some (.int .i64 0) := HA.out.z.eb.c3
  have HZ := (show Hid _ from HA.out.ret ⟨true, xc, 0, 0⟩)
  clear HA
  go_enter Tryz.func116, Tryz.ntmps116
  go_wp2_with (rw [HE1.out])
  refine ret_ex (s := 4) (k := w.heap.size + 2) (by rfl) (by rfl) (by rfl) HZ.out.1 ?_
  exact ⟨rfl, HZ.out.2⟩
set_option maxRecDepth 100000 in
set_option maxHeartbeats 8000000 in
theorem above_13 (nd : Nd) (x : Em) (ho : nd.op = 13) (hx : OkE x) (w : World) : Calls Tryz.prog 116 #[ndG nd, emG x] w fun e w' => e = .returned (emG (⟨true, true, 0, 0⟩ : Em)) ∧ Below w.heap.size w w' := by
  obtain ⟨xn, xc, xl, xm⟩ := x
  have t9 : (nd.op == 9) = false := by rw [beq_eq_false_iff_ne]; omega
  have t10 : (nd.op == 10) = false := by rw [beq_eq_false_iff_ne]; omega
  have t11 : (nd.op == 11) = false := by rw [beq_eq_false_iff_ne]; omega
  have t12 : (nd.op == 12) = false := by rw [beq_eq_false_iff_ne]; omega
  have t13 : (nd.op == 13) = true := by rw [ho]; rfl
  have HA := (show Hid (E4 w (((w.alloc (.cells #[.int .i64 nd.op, .int .i64 nd.nn, .string nd.tx, .int .u64 nd.s0, .int .u64 nd.s1, .int .u64 nd.s2, .int .u64 nd.s3] 70)).alloc (.cells #[.bool xn, .bool xc, .int .i64 xl, .int .i64 xm] 74)).alloc (.cells #[.bool false, .bool false, .int .i64 0, .int .i64 0] 74)) nd ⟨xn, xc, xl, xm⟩) from E4.start w nd ⟨xn, xc, xl, xm⟩)
  clear hx ho
  obtain ⟨w1, hw1⟩ : ∃ w1, w1 = ((w.alloc (.cells #[.int .i64 nd.op, .int .i64 nd.nn, .string nd.tx, .int .u64 nd.s0, .int .u64 nd.s1, .int .u64 nd.s2, .int .u64 nd.s3] 70)).alloc (.cells #[.bool xn, .bool xc, .int .i64 xl, .int .i64 xm] 74)).alloc (.cells #[.bool false, .bool false, .int .i64 0, .int .i64 0] 74) := ⟨_, rfl⟩
  have HE1 := (show Hid (((w.alloc (.cells #[.int .i64 nd.op, .int .i64 nd.nn, .string nd.tx, .int .u64 nd.s0, .int .u64 nd.s1, .int .u64 nd.s2, .int .u64 nd.s3] 70)).alloc (.cells #[.bool xn, .bool xc, .int .i64 xl, .int .i64 xm] 74)).alloc (.cells #[.bool false, .bool false, .int .i64 0, .int .i64 0] 74) = w1) from hw1.symm)
  rw [← hw1] at HA
  clear hw1
  have q0 : w1.cell? ⟨w.heap.size, 0, none⟩ = some (.int .i64 nd.op) := HA.out.n.nb.c0
  have q1 : w1.cell? ⟨w.heap.size, 1, none⟩ = some (.int .i64 nd.nn) := HA.out.n.nb.c1
  have x0 : w1.cell? ⟨w.heap.size + 1, 0, none⟩ = some (.bool xn) := HA.out.x.eb.c0
  have x1 : w1.cell? ⟨w.heap.size + 1, 1, none⟩ = some (.bool xc) := HA.out.x.eb.c1
  have x2 : w1.cell? ⟨w.heap.size + 1, 2, none⟩ = some (.int .i64 xl) := HA.out.x.eb.c2
  have x3 : w1.cell? ⟨w.heap.size + 1, 3, none⟩ = some (.int .i64 xm) := HA.out.x.eb.c3
  have f0 := HA.out.z.fz 0
  have f1 := HA.out.z.fz 1
  have f2 := HA.out.z.fz 2
  have f3 := HA.out.z.fz 3
  have z0 : w1.cell? ⟨w.heap.size + 2, 0, none⟩ = some (.bool false) := HA.out.z.eb.c0
  have z1 : w1.cell? ⟨w.heap.size + 2, 1, none⟩ = some (.bool false) := HA.out.z.eb.c1
  have z2 : w1.cell? ⟨w.heap.size + 2, 2, none⟩ = some (.int .i64 0) := HA.out.z.eb.c2
  have z3 : w1.cell? ⟨w.heap.size + 2, 3, none⟩ = some (.int .i64 0) := HA.out.z.eb.c3
  have HZ := (show Hid _ from HA.out.ret ⟨true, true, 0, 0⟩)
  clear HA
  go_enter Tryz.func116, Tryz.ntmps116
  go_wp2_with (rw [HE1.out])
  refine ret_ex (s := 4) (k := w.heap.size + 2) (by rfl) (by rfl) (by rfl) HZ.out.1 ?_
  exact ⟨rfl, HZ.out.2⟩
set_option maxRecDepth 100000 in
set_option maxHeartbeats 8000000 in
theorem above_14 (nd : Nd) (x : Em) (ho : nd.op = 14) (h0 : 0 ≤ nd.nn) (h1 : nd.nn ≤ 50) (hx : OkE x) (w : World) : Calls Tryz.prog 116 #[ndG nd, emG x] w fun e w' => e = .returned (emG ((repE nd.nn x) : Em)) ∧ Below w.heap.size w w' := by
  have HR := (show Hid (∀ w, Calls Tryz.prog 128 #[.int .i64 nd.nn, emG x] w fun e w' => e = .returned (emG (repE nd.nn x)) ∧ Below w.heap.size w w') from fun w => repeated_any nd.nn x h0 h1 hx w)
  generalize repE nd.nn x = rr at *
  obtain ⟨rn, rc, rl, rm⟩ := rr
  obtain ⟨xn, xc, xl, xm⟩ := x
  simp only [emG] at HR
  have t9 : (nd.op == 9) = false := by rw [beq_eq_false_iff_ne]; omega
  have t10 : (nd.op == 10) = false := by rw [beq_eq_false_iff_ne]; omega
  have t11 : (nd.op == 11) = false := by rw [beq_eq_false_iff_ne]; omega
  have t12 : (nd.op == 12) = false := by rw [beq_eq_false_iff_ne]; omega
  have t13 : (nd.op == 13) = false := by rw [beq_eq_false_iff_ne]; omega
  have t14 : (nd.op == 14) = true := by rw [ho]; rfl
  have HA := (show Hid (E4 w (((w.alloc (.cells #[.int .i64 nd.op, .int .i64 nd.nn, .string nd.tx, .int .u64 nd.s0, .int .u64 nd.s1, .int .u64 nd.s2, .int .u64 nd.s3] 70)).alloc (.cells #[.bool xn, .bool xc, .int .i64 xl, .int .i64 xm] 74)).alloc (.cells #[.bool false, .bool false, .int .i64 0, .int .i64 0] 74)) nd ⟨xn, xc, xl, xm⟩) from E4.start w nd ⟨xn, xc, xl, xm⟩)
  clear hx ho h0 h1
  obtain ⟨w1, hw1⟩ : ∃ w1, w1 = ((w.alloc (.cells #[.int .i64 nd.op, .int .i64 nd.nn, .string nd.tx, .int .u64 nd.s0, .int .u64 nd.s1, .int .u64 nd.s2, .int .u64 nd.s3] 70)).alloc (.cells #[.bool xn, .bool xc, .int .i64 xl, .int .i64 xm] 74)).alloc (.cells #[.bool false, .bool false, .int .i64 0, .int .i64 0] 74) := ⟨_, rfl⟩
  have HE1 := (show Hid (((w.alloc (.cells #[.int .i64 nd.op, .int .i64 nd.nn, .string nd.tx, .int .u64 nd.s0, .int .u64 nd.s1, .int .u64 nd.s2, .int .u64 nd.s3] 70)).alloc (.cells #[.bool xn, .bool xc, .int .i64 xl, .int .i64 xm] 74)).alloc (.cells #[.bool false, .bool false, .int .i64 0, .int .i64 0] 74) = w1) from hw1.symm)
  rw [← hw1] at HA
  clear hw1
  have q0 : w1.cell? ⟨w.heap.size, 0, none⟩ = some (.int .i64 nd.op) := HA.out.n.nb.c0
  have q1 : w1.cell? ⟨w.heap.size, 1, none⟩ = some (.int .i64 nd.nn) := HA.out.n.nb.c1
  have x0 : w1.cell? ⟨w.heap.size + 1, 0, none⟩ = some (.bool xn) := HA.out.x.eb.c0
  have x1 : w1.cell? ⟨w.heap.size + 1, 1, none⟩ = some (.bool xc) := HA.out.x.eb.c1
  have x2 : w1.cell? ⟨w.heap.size + 1, 2, none⟩ = some (.int .i64 xl) := HA.out.x.eb.c2
  have x3 : w1.cell? ⟨w.heap.size + 1, 3, none⟩ = some (.int .i64 xm) := HA.out.x.eb.c3
  go_enter Tryz.func116, Tryz.ntmps116
  go_wp2_with (rw [HE1.out])
  refine (HR.out _).mono ?_
  rintro e w2 ⟨rfl, b2⟩
  have HA2 := (show Hid (E4 w w2 nd ⟨xn, xc, xl, xm⟩) from HA.out.later b2)
  have f0 := HA2.out.z.fz 0
  have f1 := HA2.out.z.fz 1
  have f2 := HA2.out.z.fz 2
  have f3 := HA2.out.z.fz 3
  have z0 : w2.cell? ⟨w.heap.size + 2, 0, none⟩ = some (.bool false) := HA2.out.z.eb.c0
  have z1 : w2.cell? ⟨w.heap.size + 2, 1, none⟩ = some (.bool false) := HA2.out.z.eb.c1
  have z2 : w2.cell? ⟨w.heap.size + 2, 2, none⟩ = some (.int .i64 0) := HA2.out.z.eb.c2
  have z3 : w2.cell? ⟨w.heap.size + 2, 3, none⟩ = some (.int .i64 0) := HA2.out.z.eb.c3
  have HZ := (show Hid _ from HA2.out.ret ⟨rn, rc, rl, rm⟩)
  clear HA HA2 b2 HR x0 x1 x2 x3 q0 q1
  go_wp2_with fail
  refine ret_ex (s := 4) (k := w.heap.size + 2) (by rfl) (by rfl) (by rfl) HZ.out.1 ?_
  exact ⟨rfl, HZ.out.2⟩
set_option maxRecDepth 100000 in
set_option maxHeartbeats 8000000 in
theorem above_15 (nd : Nd) (x : Em) (ho : nd.op = 15) (h0 : 0 ≤ nd.nn) (h1 : nd.nn ≤ 50) (hx : OkE x) (w : World) : Calls Tryz.prog 116 #[ndG nd, emG x] w fun e w' => e = .returned (emG ((atLE nd.nn x) : Em)) ∧ Below w.heap.size w w' := by
  have HR := (show Hid (∀ w, Calls Tryz.prog 126 #[.int .i64 nd.nn, emG x] w fun e w' => e = .returned (emG (atLE nd.nn x)) ∧ Below w.heap.size w w') from fun w => atLeast_any nd.nn x h0 h1 hx w)
  generalize atLE nd.nn x = rr at *
  obtain ⟨rn, rc, rl, rm⟩ := rr
  obtain ⟨xn, xc, xl, xm⟩ := x
  simp only [emG] at HR
  have t9 : (nd.op == 9) = false := by rw [beq_eq_false_iff_ne]; omega
  have t10 : (nd.op == 10) = false := by rw [beq_eq_false_iff_ne]; omega
  have t11 : (nd.op == 11) = false := by rw [beq_eq_false_iff_ne]; omega
  have t12 : (nd.op == 12) = false := by rw [beq_eq_false_iff_ne]; omega
  have t13 : (nd.op == 13) = false := by rw [beq_eq_false_iff_ne]; omega
  have t14 : (nd.op == 14) = false := by rw [beq_eq_false_iff_ne]; omega
  have t15 : (nd.op == 15) = true := by rw [ho]; rfl
  have HA := (show Hid (E4 w (((w.alloc (.cells #[.int .i64 nd.op, .int .i64 nd.nn, .string nd.tx, .int .u64 nd.s0, .int .u64 nd.s1, .int .u64 nd.s2, .int .u64 nd.s3] 70)).alloc (.cells #[.bool xn, .bool xc, .int .i64 xl, .int .i64 xm] 74)).alloc (.cells #[.bool false, .bool false, .int .i64 0, .int .i64 0] 74)) nd ⟨xn, xc, xl, xm⟩) from E4.start w nd ⟨xn, xc, xl, xm⟩)
  clear hx ho h0 h1
  obtain ⟨w1, hw1⟩ : ∃ w1, w1 = ((w.alloc (.cells #[.int .i64 nd.op, .int .i64 nd.nn, .string nd.tx, .int .u64 nd.s0, .int .u64 nd.s1, .int .u64 nd.s2, .int .u64 nd.s3] 70)).alloc (.cells #[.bool xn, .bool xc, .int .i64 xl, .int .i64 xm] 74)).alloc (.cells #[.bool false, .bool false, .int .i64 0, .int .i64 0] 74) := ⟨_, rfl⟩
  have HE1 := (show Hid (((w.alloc (.cells #[.int .i64 nd.op, .int .i64 nd.nn, .string nd.tx, .int .u64 nd.s0, .int .u64 nd.s1, .int .u64 nd.s2, .int .u64 nd.s3] 70)).alloc (.cells #[.bool xn, .bool xc, .int .i64 xl, .int .i64 xm] 74)).alloc (.cells #[.bool false, .bool false, .int .i64 0, .int .i64 0] 74) = w1) from hw1.symm)
  rw [← hw1] at HA
  clear hw1
  have q0 : w1.cell? ⟨w.heap.size, 0, none⟩ = some (.int .i64 nd.op) := HA.out.n.nb.c0
  have q1 : w1.cell? ⟨w.heap.size, 1, none⟩ = some (.int .i64 nd.nn) := HA.out.n.nb.c1
  have x0 : w1.cell? ⟨w.heap.size + 1, 0, none⟩ = some (.bool xn) := HA.out.x.eb.c0
  have x1 : w1.cell? ⟨w.heap.size + 1, 1, none⟩ = some (.bool xc) := HA.out.x.eb.c1
  have x2 : w1.cell? ⟨w.heap.size + 1, 2, none⟩ = some (.int .i64 xl) := HA.out.x.eb.c2
  have x3 : w1.cell? ⟨w.heap.size + 1, 3, none⟩ = some (.int .i64 xm) := HA.out.x.eb.c3
  go_enter Tryz.func116, Tryz.ntmps116
  go_wp2_with (rw [HE1.out])
  refine (HR.out _).mono ?_
  rintro e w2 ⟨rfl, b2⟩
  have HA2 := (show Hid (E4 w w2 nd ⟨xn, xc, xl, xm⟩) from HA.out.later b2)
  have f0 := HA2.out.z.fz 0
  have f1 := HA2.out.z.fz 1
  have f2 := HA2.out.z.fz 2
  have f3 := HA2.out.z.fz 3
  have z0 : w2.cell? ⟨w.heap.size + 2, 0, none⟩ = some (.bool false) := HA2.out.z.eb.c0
  have z1 : w2.cell? ⟨w.heap.size + 2, 1, none⟩ = some (.bool false) := HA2.out.z.eb.c1
  have z2 : w2.cell? ⟨w.heap.size + 2, 2, none⟩ = some (.int .i64 0) := HA2.out.z.eb.c2
  have z3 : w2.cell? ⟨w.heap.size + 2, 3, none⟩ = some (.int .i64 0) := HA2.out.z.eb.c3
  have HZ := (show Hid _ from HA2.out.ret ⟨rn, rc, rl, rm⟩)
  clear HA HA2 b2 HR x0 x1 x2 x3 q0 q1
  go_wp2_with fail
  refine ret_ex (s := 4) (k := w.heap.size + 2) (by rfl) (by rfl) (by rfl) HZ.out.1 ?_
  exact ⟨rfl, HZ.out.2⟩
set_option maxRecDepth 100000 in
set_option maxHeartbeats 8000000 in
theorem above_16 (nd : Nd) (x : Em) (ho : nd.op = 16) (h0 : 0 ≤ nd.nn) (h1 : nd.nn ≤ 50) (hx : OkE x) (w : World) : Calls Tryz.prog 116 #[ndG nd, emG x] w fun e w' => e = .returned (emG ((atME nd.nn x) : Em)) ∧ Below w.heap.size w w' := by
  have HR := (show Hid (∀ w, Calls Tryz.prog 127 #[.int .i64 nd.nn, emG x] w fun e w' => e = .returned (emG (atME nd.nn x)) ∧ Below w.heap.size w w') from fun w => atMost_any nd.nn x h0 h1 hx w)
  generalize atME nd.nn x = rr at *
  obtain ⟨rn, rc, rl, rm⟩ := rr
  obtain ⟨xn, xc, xl, xm⟩ := x
  simp only [emG] at HR
  have t9 : (nd.op == 9) = false := by rw [beq_eq_false_iff_ne]; omega
  have t10 : (nd.op == 10) = false := by rw [beq_eq_false_iff_ne]; omega
  have t11 : (nd.op == 11) = false := by rw [beq_eq_false_iff_ne]; omega
  have t12 : (nd.op == 12) = false := by rw [beq_eq_false_iff_ne]; omega
  have t13 : (nd.op == 13) = false := by rw [beq_eq_false_iff_ne]; omega
  have t14 : (nd.op == 14) = false := by rw [beq_eq_false_iff_ne]; omega
  have t15 : (nd.op == 15) = false := by rw [beq_eq_false_iff_ne]; omega
  have t16 : (nd.op == 16) = true := by rw [ho]; rfl
  have HA := (show Hid (E4 w (((w.alloc (.cells #[.int .i64 nd.op, .int .i64 nd.nn, .string nd.tx, .int .u64 nd.s0, .int .u64 nd.s1, .int .u64 nd.s2, .int .u64 nd.s3] 70)).alloc (.cells #[.bool xn, .bool xc, .int .i64 xl, .int .i64 xm] 74)).alloc (.cells #[.bool false, .bool false, .int .i64 0, .int .i64 0] 74)) nd ⟨xn, xc, xl, xm⟩) from E4.start w nd ⟨xn, xc, xl, xm⟩)
  clear hx ho h0 h1
  obtain ⟨w1, hw1⟩ : ∃ w1, w1 = ((w.alloc (.cells #[.int .i64 nd.op, .int .i64 nd.nn, .string nd.tx, .int .u64 nd.s0, .int .u64 nd.s1, .int .u64 nd.s2, .int .u64 nd.s3] 70)).alloc (.cells #[.bool xn, .bool xc, .int .i64 xl, .int .i64 xm] 74)).alloc (.cells #[.bool false, .bool false, .int .i64 0, .int .i64 0] 74) := ⟨_, rfl⟩
  have HE1 := (show Hid (((w.alloc (.cells #[.int .i64 nd.op, .int .i64 nd.nn, .string nd.tx, .int .u64 nd.s0, .int .u64 nd.s1, .int .u64 nd.s2, .int .u64 nd.s3] 70)).alloc (.cells #[.bool xn, .bool xc, .int .i64 xl, .int .i64 xm] 74)).alloc (.cells #[.bool false, .bool false, .int .i64 0, .int .i64 0] 74) = w1) from hw1.symm)
  rw [← hw1] at HA
  clear hw1
  have q0 : w1.cell? ⟨w.heap.size, 0, none⟩ = some (.int .i64 nd.op) := HA.out.n.nb.c0
  have q1 : w1.cell? ⟨w.heap.size, 1, none⟩ = some (.int .i64 nd.nn) := HA.out.n.nb.c1
  have x0 : w1.cell? ⟨w.heap.size + 1, 0, none⟩ = some (.bool xn) := HA.out.x.eb.c0
  have x1 : w1.cell? ⟨w.heap.size + 1, 1, none⟩ = some (.bool xc) := HA.out.x.eb.c1
  have x2 : w1.cell? ⟨w.heap.size + 1, 2, none⟩ = some (.int .i64 xl) := HA.out.x.eb.c2
  have x3 : w1.cell? ⟨w.heap.size + 1, 3, none⟩ = some (.int .i64 xm) := HA.out.x.eb.c3
  go_enter Tryz.func116, Tryz.ntmps116
  go_wp2_with (rw [HE1.out])
  refine (HR.out _).mono ?_
  rintro e w2 ⟨rfl, b2⟩
  have HA2 := (show Hid (E4 w w2 nd ⟨xn, xc, xl, xm⟩) from HA.out.later b2)
  have f0 := HA2.out.z.fz 0
  have f1 := HA2.out.z.fz 1
  have f2 := HA2.out.z.fz 2
  have f3 := HA2.out.z.fz 3
  have z0 : w2.cell? ⟨w.heap.size + 2, 0, none⟩ = some (.bool false) := HA2.out.z.eb.c0
  have z1 : w2.cell? ⟨w.heap.size + 2, 1, none⟩ = some (.bool false) := HA2.out.z.eb.c1
  have z2 : w2.cell? ⟨w.heap.size + 2, 2, none⟩ = some (.int .i64 0) := HA2.out.z.eb.c2
  have z3 : w2.cell? ⟨w.heap.size + 2, 3, none⟩ = some (.int .i64 0) := HA2.out.z.eb.c3
  have HZ := (show Hid _ from HA2.out.ret ⟨rn, rc, rl, rm⟩)
  clear HA HA2 b2 HR x0 x1 x2 x3 q0 q1
  go_wp2_with fail
  refine ret_ex (s := 4) (k := w.heap.size + 2) (by rfl) (by rfl) (by rfl) HZ.out.1 ?_
  exact ⟨rfl, HZ.out.2⟩
set_option maxRecDepth 100000 in
set_option maxHeartbeats 8000000 in
theorem above_else (nd : Nd) (x : Em) (ho : ∀ c : Int, (c = 9 ∨ c = 10 ∨ c = 11 ∨ c = 12 ∨ c = 13 ∨ c = 14 ∨ c = 15 ∨ c = 16) → nd.op ≠ c) (hx : OkE x) (w : World) : Calls Tryz.prog 116 #[ndG nd, emG x] w fun e w' => e = .returned (emG (x : Em)) ∧ Below w.heap.size w w' := by
  obtain ⟨xn, xc, xl, xm⟩ := x
  have t9 : (nd.op == 9) = false := by rw [beq_eq_false_iff_ne]; exact ho 9 (by omega)
  have t10 : (nd.op == 10) = false := by rw [beq_eq_false_iff_ne]; exact ho 10 (by omega)
  have t11 : (nd.op == 11) = false := by rw [beq_eq_false_iff_ne]; exact ho 11 (by omega)
  have t12 : (nd.op == 12) = false := by rw [beq_eq_false_iff_ne]; exact ho 12 (by omega)
  have t13 : (nd.op == 13) = false := by rw [beq_eq_false_iff_ne]; exact ho 13 (by omega)
  have t14 : (nd.op == 14) = false := by rw [beq_eq_false_iff_ne]; exact ho 14 (by omega)
  have t15 : (nd.op == 15) = false := by rw [beq_eq_false_iff_ne]; exact ho 15 (by omega)
  have t16 : (nd.op == 16) = false := by rw [beq_eq_false_iff_ne]; exact ho 16 (by omega)
  have HA := (show Hid (E4 w (((w.alloc (.cells #[.int .i64 nd.op, .int .i64 nd.nn, .string nd.tx, .int .u64 nd.s0, .int .u64 nd.s1, .int .u64 nd.s2, .int .u64 nd.s3] 70)).alloc (.cells #[.bool xn, .bool xc, .int .i64 xl, .int .i64 xm] 74)).alloc (.cells #[.bool false, .bool false, .int .i64 0, .int .i64 0] 74)) nd ⟨xn, xc, xl, xm⟩) from E4.start w nd ⟨xn, xc, xl, xm⟩)
  clear hx ho
  obtain ⟨w1, hw1⟩ : ∃ w1, w1 = ((w.alloc (.cells #[.int .i64 nd.op, .int .i64 nd.nn, .string nd.tx, .int .u64 nd.s0, .int .u64 nd.s1, .int .u64 nd.s2, .int .u64 nd.s3] 70)).alloc (.cells #[.bool xn, .bool xc, .int .i64 xl, .int .i64 xm] 74)).alloc (.cells #[.bool false, .bool false, .int .i64 0, .int .i64 0] 74) := ⟨_, rfl⟩
  have HE1 := (show Hid (((w.alloc (.cells #[.int .i64 nd.op, .int .i64 nd.nn, .string nd.tx, .int .u64 nd.s0, .int .u64 nd.s1, .int .u64 nd.s2, .int .u64 nd.s3] 70)).alloc (.cells #[.bool xn, .bool xc, .int .i64 xl, .int .i64 xm] 74)).alloc (.cells #[.bool false, .bool false, .int .i64 0, .int .i64 0] 74) = w1) from hw1.symm)
  rw [← hw1] at HA
  clear hw1
  have q0 : w1.cell? ⟨w.heap.size, 0, none⟩ = some (.int .i64 nd.op) := HA.out.n.nb.c0
  have q1 : w1.cell? ⟨w.heap.size, 1, none⟩ = some (.int .i64 nd.nn) := HA.out.n.nb.c1
  have x0 : w1.cell? ⟨w.heap.size + 1, 0, none⟩ = some (.bool xn) := HA.out.x.eb.c0
  have x1 : w1.cell? ⟨w.heap.size + 1, 1, none⟩ = some (.bool xc) := HA.out.x.eb.c1
  have x2 : w1.cell? ⟨w.heap.size + 1, 2, none⟩ = some (.int .i64 xl) := HA.out.x.eb.c2
  have x3 : w1.cell? ⟨w.heap.size + 1, 3, none⟩ = some (.int .i64 xm) := HA.out.x.eb.c3
  have f0 := HA.out.z.fz 0
  have f1 := HA.out.z.fz 1
  have f2 := HA.out.z.fz 2
  have f3 := HA.out.z.fz 3
  have z0 : w1.cell? ⟨w.heap.size + 2, 0, none⟩ = some (.bool false) := HA.out.z.eb.c0
  have z1 : w1.cell? ⟨w.heap.size + 2, 1, none⟩ = some (.bool false) := HA.out.z.eb.c1
  have z2 : w1.cell? ⟨w.heap.size + 2, 2, none⟩ = some (.int .i64 0) := HA.out.z.eb.c2
  have z3 : w1.cell? ⟨w.heap.size + 2, 3, none⟩ = some (.int .i64 0) := HA.out.z.eb.c3
  have HZ := (show Hid _ from HA.out.ret ⟨xn, xc, xl, xm⟩)
  clear HA
  go_enter Tryz.func116, Tryz.ntmps116
  go_wp2_with (rw [HE1.out])
  refine ret_ex (s := 4) (k := w.heap.size + 2) (by rfl) (by rfl) (by rfl) HZ.out.1 ?_
  exact ⟨rfl, HZ.out.2⟩
theorem above_any (nd : Nd) (x : Em) (hN : nd.op = 14 ∨ nd.op = 15 ∨ nd.op = 16 → 0 ≤ nd.nn ∧ nd.nn ≤ 50) (hx : OkE x) (w : World) : Calls Tryz.prog 116 #[ndG nd, emG x] w fun e w' => e = .returned (emG (abE nd x)) ∧ Below w.heap.size w w' := by
  unfold abE
  by_cases c9 : nd.op = 9
  · rw [if_pos c9]; exact above_9 nd x c9 hx w
  rw [if_neg c9]
  by_cases c10 : nd.op = 10
  · rw [if_pos c10]; exact above_10 nd x c10 hx w
  rw [if_neg c10]
  by_cases c11 : nd.op = 11
  · rw [if_pos c11]; exact above_11 nd x c11 hx w
  rw [if_neg c11]
  by_cases c12 : nd.op = 12
  · rw [if_pos c12]; exact above_12 nd x c12 hx w
  rw [if_neg c12]
  by_cases c13 : nd.op = 13
  · rw [if_pos c13]; exact above_13 nd x c13 hx w
  rw [if_neg c13]
  by_cases c14 : nd.op = 14
  · rw [if_pos c14]; exact above_14 nd x c14 (hN (by omega)).1 (hN (by omega)).2 hx w
  rw [if_neg c14]
  by_cases c15 : nd.op = 15
  · rw [if_pos c15]; exact above_15 nd x c15 (hN (by omega)).1 (hN (by omega)).2 hx w
  rw [if_neg c15]
  by_cases c16 : nd.op = 16
  · rw [if_pos c16]; exact above_16 nd x c16 (hN (by omega)).1 (hN (by omega)).2 hx w
  rw [if_neg c16]
  exact above_else nd x (fun c hc => by omega) hx w

theorem tim1 {a : Int} : timE 1 a = a := by unfold timE; split <;> omega
theorem leC_id {a : Int} (h : a ≤ 1048576) : leC a = a := by unfold leC; omega
theorem moC_id {a : Int} (h : a ≤ 1048576) : moC a = a := by unfold moC; rw [if_neg (by omega)]
theorem rep0 (x : Em) : repE 0 x = nothE := by unfold repE; rw [if_pos rfl]
theorem atL_star (x : Em) : atLE 0 x = ⟨true, false, 0, agE x.mo⟩ := by
  unfold atLE agE
  rw [rep0]
  by_cases h : x.mo = 0
  · rw [if_pos h, if_pos h]; rfl
  · rw [if_neg h, if_neg h]; rfl
theorem rep1 {x : Em} (hx : OkE x) : repE 1 x = x := by
  unfold repE
  rw [if_neg (by decide), tim1, tim1, leC_id hx.l2, moC_id hx.m2]
theorem atL_plus {x : Em} (hx : OkE x) : atLE 1 x = ⟨x.nu, x.cf, x.le, agE x.mo⟩ := by
  unfold atLE agE
  rw [rep1 hx]
  by_cases h : x.mo = 0
  · rw [if_pos h, if_pos h, ← h]
  · rw [if_neg h, if_neg h]
theorem atM_opt {x : Em} (hx : OkE x) : atME 1 x = ⟨true, false, 0, x.mo⟩ := by unfold atME; rw [rep1 hx]
theorem atL_n {n : Int} {x : Em} (hn : ¬ n = 0) : atLE n x = ⟨x.nu, x.cf, leC (timE n x.le), agE x.mo⟩ := by
  unfold atLE agE repE
  rw [if_neg hn]
  by_cases h : x.mo = 0
  · rw [if_pos h, if_pos h, h]
    have e : timE n 0 = 0 := by unfold timE; rw [if_neg (by decide), Int.mul_zero]
    rw [e]
    rfl
  · rw [if_neg h, if_neg h]
/-- The program's rows of nodes with one part are the document's. -/
theorem ab_em {n : Nd} {x y : Em} {r : ByteArray → Em} (hx : OkE x) (ha : ¬ (n.op ≤ 8 ∨ n.op = 17)) : abE n x = emN n x y r := by
  unfold emN
  by_cases c1 : n.op = 1 ∨ n.op = 17 ∨ ((n.op = 14 ∨ n.op = 16) ∧ n.nn = 0)
  · rw [if_pos c1]
    have c2 : (n.op = 14 ∨ n.op = 16) ∧ n.nn = 0 := by omega
    unfold abE
    rw [if_neg (by omega), if_neg (by omega), if_neg (by omega), if_neg (by omega), if_neg (by omega)]
    rcases c2 with ⟨q | q, qn⟩
    · rw [if_pos q, qn, rep0]; rfl
    · rw [if_neg (by omega), if_neg (by omega), if_pos q, qn]; unfold atME; rw [rep0]; rfl
  rw [if_neg c1]
  by_cases c2 : n.op = 9 ∨ (n.op = 15 ∧ n.nn = 0)
  · rw [if_pos c2]
    unfold abE
    rcases c2 with q | ⟨q, qn⟩
    · rw [if_pos q, atL_star]
    · rw [if_neg (by omega), if_neg (by omega), if_neg (by omega), if_neg (by omega), if_neg (by omega), if_neg (by omega), if_pos q, qn, atL_star]
  rw [if_neg c2, if_neg (by omega), if_neg (by omega), if_neg (by omega), if_neg (by omega), if_neg (by omega), if_neg (by omega)]
  unfold abE
  rw [if_neg (show ¬ n.op = 9 by omega)]
  by_cases c10 : n.op = 10
  · rw [if_pos c10, if_pos c10, atL_plus hx]
  rw [if_neg c10, if_neg c10]
  by_cases c11 : n.op = 11
  · rw [if_pos c11, if_pos c11, atM_opt hx]
  rw [if_neg c11, if_neg c11]
  by_cases c12 : n.op = 12
  · rw [if_pos c12, if_pos c12]
  rw [if_neg c12, if_neg c12]
  by_cases c13 : n.op = 13
  · rw [if_pos c13, if_pos c13]
  rw [if_neg c13, if_neg c13]
  by_cases c14 : n.op = 14
  · rw [if_pos c14, if_pos c14]; unfold repE; rw [if_neg (by omega)]
  rw [if_neg c14, if_neg c14]
  by_cases c15 : n.op = 15
  · rw [if_pos c15, if_pos c15, atL_n (by omega)]
  rw [if_neg c15, if_neg c15]
  by_cases c16 : n.op = 16
  · rw [if_pos c16, if_pos c16]; unfold atME repE; rw [if_neg (by omega)]
  rw [if_neg c16, if_neg c16]
end Go.Proofs.YtbnihflihelimaaGreat.N

namespace Go.Proofs.YtbnihflihelimaaGreat.N
open Go.RowKit
/-- Some are marked; some are still to be gone over. x: the one that is gone over just now. -/
structure WlI (n : Nat) (c : Mx) (r : Nat) (l : List Bool) (ah : List Nat) (x : Option Nat) : Prop where
  ln : l.length = n
  hi : ∀ j, l[j]? = some true → Rc n c r j
  am : ∀ y ∈ ah, y < n ∧ (y = r ∨ l[y]? = some true)
  pr : ∀ y, (y = r ∨ l[y]? = some true) → y ∈ ah ∨ x = some y ∨ ∀ j, c y j = true → l[j]? = some true
theorem WlI.start {n : Nat} {c : Mx} {r : Nat} (hr : r < n) : WlI n c r (List.replicate n false) [r] none := by
  have no : ∀ j, (List.replicate n false)[j]? ≠ some true := fun j h => by
    rw [List.getElem?_replicate] at h
    split at h <;> cases h
  refine ⟨List.length_replicate, fun j h => absurd h (no j), fun y h => ?_, fun y h => ?_⟩
  · rw [List.mem_singleton] at h
    exact ⟨by omega, .inl h⟩
  · rcases h with rfl | h
    · exact .inl (List.mem_singleton.2 rfl)
    · exact absurd h (no y)
theorem WlI.pop {n : Nat} {c : Mx} {r : Nat} {l : List Bool} {ah : List Nat} {x : Nat} (h : WlI n c r l (ah ++ [x]) none) : WlI n c r l ah (some x) ∧ x < n ∧ (x = r ∨ l[x]? = some true) := by
  have hx := h.am x (List.mem_append_right _ (List.mem_singleton.2 rfl))
  refine ⟨⟨h.ln, h.hi, fun y hy => h.am y (List.mem_append_left _ hy), fun y hy => ?_⟩, hx.1, hx.2⟩
  rcases h.pr y hy with q | q | q
  · rcases List.mem_append.1 q with q | q
    · exact .inl q
    · rw [List.mem_singleton] at q
      exact .inr (.inl (by rw [q]))
  · cases q
  · exact .inr (.inr q)
theorem get_set {l : List Bool} {j k : Nat} : (l.set j true)[k]? = some true ↔ (k = j ∧ j < l.length) ∨ l[k]? = some true := by
  by_cases h : k = j
  · subst h
    by_cases q : k < l.length
    · rw [List.getElem?_set_self q]; simp [q]
    · rw [List.getElem?_eq_none (by rw [List.length_set]; omega), List.getElem?_eq_none (by omega)]; simp [q]
  · rw [List.getElem?_set_ne (Ne.symm h)]; simp [h]
theorem WlI.mark {n : Nat} {c : Mx} {r : Nat} {l : List Bool} {ah : List Nat} {x j : Nat} (h : WlI n c r l ah (some x)) (hx : x < n ∧ (x = r ∨ l[x]? = some true)) (hc : c x j = true) (hj : j < n) : WlI n c r (l.set j true) (ah ++ [j]) (some x) := by
  have hl := h.ln
  refine ⟨by rw [List.length_set]; exact h.ln, fun k q => ?_, fun y hy => ?_, fun y hy => ?_⟩
  · rcases get_set.1 q with ⟨rfl, _⟩ | q
    · rcases hx.2 with e | e
      · rw [← e]; exact Rc.of hc
      · exact Rc.trans hx.1 (h.hi x e) (Rc.of hc)
    · exact h.hi k q
  · rcases List.mem_append.1 hy with hy | hy
    · obtain ⟨h1, h2⟩ := h.am y hy
      exact ⟨h1, h2.imp id fun q => get_set.2 (.inr q)⟩
    · rw [List.mem_singleton] at hy
      subst hy
      exact ⟨hj, .inr (get_set.2 (.inl ⟨rfl, by omega⟩))⟩
  · have hy2 : y = j ∨ (y = r ∨ l[y]? = some true) := by
      rcases hy with q | q
      · exact .inr (.inl q)
      · rcases get_set.1 q with ⟨q, _⟩ | q
        · exact .inl q
        · exact .inr (.inr q)
    rcases hy2 with rfl | q
    · exact .inl (List.mem_append_right _ (List.mem_singleton.2 rfl))
    · rcases h.pr y q with q | q | q
      · exact .inl (List.mem_append_left _ q)
      · exact .inr (.inl q)
      · exact .inr (.inr fun k hk => get_set.2 (.inr (q k hk)))
/-- All that the one calls is marked. -/
theorem WlI.shut {n : Nat} {c : Mx} {r : Nat} {l : List Bool} {ah : List Nat} {x : Nat} (h : WlI n c r l ah (some x)) (hx : ∀ j, c x j = true → l[j]? = some true) : WlI n c r l ah none := by
  refine ⟨h.ln, h.hi, h.am, fun y hy => ?_⟩
  rcases h.pr y hy with q | q | q
  · exact .inl q
  · cases q; exact .inr (.inr hx)
  · exact .inr (.inr q)
theorem WlI.done {n : Nat} {c : Mx} {r : Nat} {l : List Bool} (h : WlI n c r l [] none) (j : Nat) : l[j]? = some true ↔ Rc n c r j := by
  refine ⟨h.hi j, fun q => ?_⟩
  have key : ∀ {i j : Nat}, Rc n c i j → (i = r ∨ l[i]? = some true) → l[j]? = some true := by
    intro i j q
    refine Rc.least (d := fun i j => (i = r ∨ l[i]? = some true) → l[j]? = some true) ?_ ?_ q
    · intro i j hc hi
      rcases h.pr i hi with q | q | q
      · cases q
      · cases q
      · exact q j hc
    · intro i k j _ h1 h2 hi
      exact h2 (.inr (h1 hi))
  exact key q (.inl rfl)
/-- How much is left. -/
def wlM (l : List Bool) (ah : List Nat) : Nat := 2 * l.count false + ah.length
theorem wlM_mark {l : List Bool} {ah : List Nat} {j : Nat} (h : l[j]? = some false) : wlM (l.set j true) (ah ++ [j]) + 1 = wlM l ah := by
  have := cn_set l j h
  unfold wlM
  rw [List.length_append, List.length_singleton]
  omega
end Go.Proofs.YtbnihflihelimaaGreat.N

namespace Go.Proofs.YtbnihflihelimaaGreat.T
open Go.RowKit
def stc (l : List ByteArray) : List Value := l.map Value.string
def inB (s : ByteArray) (l : List ByteArray) : Bool := l.any fun x => s.toList == x.toList
theorem inB_t {s : ByteArray} {l : List ByteArray} {k : Nat} {x : ByteArray} (h : l[k]? = some x) (e : (s.toList == x.toList) = true) : inB s l = true := by
  unfold inB
  exact List.any_eq_true.2 ⟨x, List.mem_of_getElem? h, e⟩
theorem inB_f {s : ByteArray} {l : List ByteArray} (h : ∀ (k : Nat) x, l[k]? = some x → (s.toList == x.toList) = false) : inB s l = false := by
  unfold inB
  rw [List.any_eq_false]
  intro x hx
  obtain ⟨k, hk⟩ := List.getElem?_of_mem hx
  rw [h k x hk]
  exact Bool.false_ne_true
/-- A list of texts that can be read. -/
def RdT (W : World) (v : Value) (l : List ByteArray) : Prop := ∃ A c, v = .slice A l.length c ∧ (l ≠ [] → ∃ g, A = some ⟨g, 0, none⟩ ∧ g < W.heap.size ∧ ∀ (k : Nat) x, l[k]? = some x → W.cell? ⟨g, k, none⟩ = some (.string x))
theorem own_rdt {W : World} {B n : Nat} {v : Value} {l : List ByteArray} (h : W.ownsRow B 9 1 v n (stc l)) (hn : n = l.length) : RdT W v l := by
  subst hn
  have hc := h
  rcases h.2 with ⟨rfl, h0⟩ | ⟨g, cap, cur, rfl, _⟩
  · exact ⟨none, 0, by rw [h0], fun hl => absurd (List.eq_nil_of_length_eq_zero h0) hl⟩
  · refine ⟨_, cap, rfl, fun _ => ⟨g, rfl, (hc.lt g rfl).2, fun k x hk => ?_⟩⟩
    have := hc.cells (g := g) rfl k (.string x) (by unfold stc; rw [List.getElem?_map, hk]; rfl)
    rwa [Addr.add_lit, Nat.zero_add] at this

set_option maxRecDepth 100000 in
set_option maxHeartbeats 4000000 in
theorem index_any (v : Value) (s : ByteArray) (l : List ByteArray) (hl : l.length ≤ 4096) (w : World) (h : RdT w v l) :
    Calls Tryz.prog 84 #[v, .string s] w fun e w' => (∃ r : Int, e = .returned (.int .i64 r) ∧ decide (0 ≤ r) = inB s l) ∧ w' = w := by
  obtain ⟨A, c, rfl, h⟩ := h
  have H := (show Hid _ from h)
  have HG := (show Hid (∀ k, k < l.length → ∃ x, l[k]? = some x ∧ l ≠ []) from fun k hk => ⟨_, List.getElem?_eq_getElem hk, by rintro rfl; simp at hk⟩)
  have HT := (show Hid (∀ (k : Nat) x, l[k]? = some x → (s.toList == x.toList) = true → inB s l = true) from fun k x hk e => inB_t hk e)
  have HF := (show Hid ((∀ (k : Nat) x, k < l.length → l[k]? = some x → (s.toList == x.toList) = false) → inB s l = false) from fun h => inB_f (fun k x hk => by
    refine h k x ?_ hk
    by_cases q : k < l.length
    · exact q
    · rw [List.getElem?_eq_none (by omega)] at hk; cases hk))
  clear h
  go_enter Tryz.func84, Tryz.ntmps84
  go_wp2_with fail
  go_loopw [8] (fun t wr => ∃ k : Nat, k ≤ l.length ∧ t = .int .i64 k ∧ wr = w ∧ Hid (∀ (j : Nat) x, j < k → l[j]? = some x → (s.toList == x.toList) = false)) (fun t _ => l.length - (intOf t).toNat)
  case atStart => exact ⟨0, by omega, by go_num, rfl, fun j x q => by omega⟩
  case round =>
    obtain ⟨k, hk, rfl, rfl, HI⟩ := hrel
    by_cases hlt : k < l.length
    · obtain ⟨x, hx, hne⟩ := HG.out k hlt
      obtain ⟨g, rfl, lg, q⟩ := H.out hne
      have e1 := q k x hx
      have z0 : (0 : Int) ≤ (k : Int) := by omega
      have z1 : (k : Int) < (l.length : Int) := by omega
      cases he : (s.toList == x.toList) with
      | true =>
        have HE := (show Hid (inB s l = true) from HT.out k x hx he)
        clear HG H q hx hne HT HF HI
        go_wp2_with fail
        go_ret
        exact ⟨⟨_, rfl, by rw [HE.out]; exact decide_eq_true z0⟩, rfl⟩
      | false =>
        have HI2 := (show Hid (∀ (j : Nat) y, j < k + 1 → l[j]? = some y → (s.toList == y.toList) = false) from fun j y hj hy => by
          by_cases q : j < k
          · exact HI.out j y q hy
          · obtain rfl : j = k := by omega
            rw [hx] at hy
            cases hy
            exact he)
        clear HG H q hx hne HT HF HI
        go_wp2_with fail
        go_roundw
        case rel => exact ⟨k + 1, by omega, by go_num, trivial, HI2⟩
        case measure => simp [intOf]; omega
    · obtain rfl : k = l.length := by omega
      have HE := (show Hid (inB s l = false) from HF.out (fun j x hj hx => HI.out j x hj hx))
      clear HG H HT HF HI
      go_wp2_with fail
      go_ret
      exact ⟨⟨_, rfl, by rw [HE.out]; rfl⟩, rfl⟩
set_option maxRecDepth 100000 in
set_option maxHeartbeats 1000000 in
theorem contains_any (v : Value) (s : ByteArray) (l : List ByteArray) (hl : l.length ≤ 4096) (w : World) (h : RdT w v l) :
    Calls Tryz.prog 67 #[v, .string s] w fun e w' => e = .returned (.bool (inB s l)) ∧ w' = w := by
  have H : Hid (∀ _ : Unit, Calls Tryz.prog 84 #[v, .string s] w fun e w' => (∃ r : Int, e = .returned (.int .i64 r) ∧ decide (0 ≤ r) = inB s l) ∧ w' = w) := fun _ => index_any v s l hl w h
  clear h
  go_enter Tryz.func67, Tryz.ntmps67
  go_wp2_with fail
  refine (H.out ()).mono ?_
  rintro e w2 ⟨⟨r, rfl, hr⟩, rfl⟩
  have HR := (show Hid (decide (0 ≤ r) = inB s l) from hr)
  clear H hr
  go_wp2_with fail
  go_ret
  exact ⟨by rw [← HR.out]; rfl, rfl⟩
end Go.Proofs.YtbnihflihelimaaGreat.T

namespace Go.Proofs.YtbnihflihelimaaGreat.T
open Go.RowKit
theorem Tryz.info9 : (Tryz.prog.info? 9).map (fun i => (i.zero, i.size, i.bytes)) = some (some (.string ⟨#[]⟩), 1, 16) := by kernel_rfl
def nmL (L : List Nd) : Nat → List ByteArray
  | 0 => []
  | k + 1 => match L[k]? with
    | some n => if n.op = 6 ∧ inB n.tx (nmL L k) = false then nmL L k ++ [n.tx] else nmL L k
    | none => nmL L k
theorem nmL_succ {L : List Nd} {k : Nat} {n : Nd} (h : L[k]? = some n) : nmL L (k + 1) = if n.op = 6 ∧ inB n.tx (nmL L k) = false then nmL L k ++ [n.tx] else nmL L k := by rw [nmL, h]
theorem nmL_len (L : List Nd) (k : Nat) : (nmL L k).length ≤ k := by
  induction k with
  | zero => exact Nat.le_refl _
  | succ k ih =>
    rw [nmL]
    split
    · split
      · rw [List.length_append]; show _ + 1 ≤ _; omega
      · omega
    · omega
def nmE (L : List Nd) : List ByteArray := if (ck L).2 = 0 then nmL L L.length else []
/-- A list of texts that is an answer. -/
def NmV (w w' : World) (L : List Nd) (e : Ending) : Prop := ∃ v, e = .returned (.tuple #[v, .int .i64 (ck L).2]) ∧ w'.ownsRow w.heap.size 9 1 v (nmE L).length (stc (nmE L))
end Go.Proofs.YtbnihflihelimaaGreat.T

namespace Go.Proofs.YtbnihflihelimaaGreat.T
open Go.RowKit
/-- The rules that a rule calls, rising. -/
def cL (gs : GL) (i : Nat) : List Nat := (List.range gs.length).filter fun j => cG gs i j
theorem cL_mem {gs : GL} {i j : Nat} : j ∈ cL gs i ↔ j < gs.length ∧ cG gs i j = true := by unfold cL; rw [List.mem_filter, List.mem_range]
theorem cL_rise (gs : GL) (i : Nat) : (cL gs i).Pairwise (· < ·) := List.Pairwise.filter _ List.pairwise_lt_range
theorem cL_len (gs : GL) (i : Nat) : (cL gs i).length ≤ gs.length := by
  have := List.length_filter_le (fun j => cG gs i j) (List.range gs.length)
  rw [List.length_range] at this
  exact this
/-- Lists that rise and have the same numbers are one. -/
theorem rise_ext : ∀ {a b : List Nat}, a.Pairwise (· < ·) → b.Pairwise (· < ·) → (∀ x, x ∈ a ↔ x ∈ b) → a = b := by
  intro a
  induction a with
  | nil =>
    intro b _ _ h
    cases b with
    | nil => rfl
    | cons y b => exact absurd ((h y).2 (List.mem_cons_self ..)) (by simp)
  | cons x a ih =>
    intro b ha hb h
    cases b with
    | nil => exact absurd ((h x).1 (List.mem_cons_self ..)) (by simp)
    | cons y b =>
      rw [List.pairwise_cons] at ha hb
      have hxy : x = y := by
        rcases List.mem_cons.1 ((h x).1 (List.mem_cons_self ..)) with e | e
        · exact e
        · rcases List.mem_cons.1 ((h y).2 (List.mem_cons_self ..)) with f | f
          · exact f.symm
          · have := hb.1 x e; have := ha.1 y f; omega
      subst hxy
      congr 1
      refine ih ha.2 hb.2 fun z => ?_
      constructor
      · intro hz
        rcases List.mem_cons.1 ((h z).1 (List.mem_cons_of_mem _ hz)) with e | e
        · have := ha.1 z hz; omega
        · exact e
      · intro hz
        rcases List.mem_cons.1 ((h z).2 (List.mem_cons_of_mem _ hz)) with e | e
        · have := hb.1 z hz; omega
        · exact e
/-- Numbers, each once, sorted: the list that rises. -/
theorem sort_is {l r : List Nat} (hl : l.Nodup) (hr : r.Pairwise (· < ·)) (h : ∀ x, x ∈ l ↔ x ∈ r) : (l.map fun (x : Nat) => (x : Int)).mergeSort (fun x y => decide (x ≤ y)) = r.map fun (x : Nat) => (x : Int) := by
  have e1 : (l.map fun (x : Nat) => (x : Int)).mergeSort (fun x y => decide (x ≤ y)) = (l.mergeSort (fun x y => decide (x ≤ y))).map fun (x : Nat) => (x : Int) := by
    rw [List.map_mergeSort]
    intro a _ b _
    simp
  rw [e1]
  congr 1
  have tr : ∀ a b c : Nat, decide (a ≤ b) = true → decide (b ≤ c) = true → decide (a ≤ c) = true := fun a b c h1 h2 => by
    rw [decide_eq_true_eq] at *; omega
  have to : ∀ a b : Nat, (decide (a ≤ b) || decide (b ≤ a)) = true := fun a b => by
    rw [Bool.or_eq_true, decide_eq_true_eq, decide_eq_true_eq]; omega
  have hp := List.pairwise_mergeSort (le := fun x y : Nat => decide (x ≤ y)) tr to l
  have hm := List.mergeSort_perm l (fun x y : Nat => decide (x ≤ y))
  have hn : (l.mergeSort (fun x y => decide (x ≤ y))).Nodup := hm.nodup_iff.2 hl
  refine rise_ext ?_ hr fun x => by rw [hm.mem_iff]; exact h x
  refine (hp.and hn).imp fun {a b} q => ?_
  have := q.1
  rw [decide_eq_true_eq] at this
  have := q.2
  omega
/-- The names that a pattern calls. -/
theorem inB_mem {s : ByteArray} {l : List ByteArray} : inB s l = true ↔ s ∈ l := by
  unfold inB
  rw [List.any_eq_true]
  constructor
  · rintro ⟨x, hx, e⟩
    have e2 : s.toList = x.toList := by simpa using e
    have : s = x := tx_ext e2
    rw [this]; exact hx
  · intro h
    exact ⟨s, h, by simp⟩
theorem nmL_nodup (L : List Nd) : ∀ k, (nmL L k).Nodup := by
  intro k
  induction k with
  | zero => exact List.nodup_nil
  | succ k ih =>
    rw [nmL]
    cases L[k]? with
    | none => exact ih
    | some n =>
      simp only
      split
      · rename_i h
        rw [List.nodup_append]
        refine ⟨ih, List.nodup_cons.2 ⟨by simp, List.nodup_nil⟩, fun a ha b hb e => ?_⟩
        rw [List.mem_singleton] at hb
        subst hb e
        rw [inB_mem.2 ha] at h
        exact absurd h.2 (by simp)
      · exact ih
theorem nmL_mem (L : List Nd) : ∀ k, k ≤ L.length → ∀ s, s ∈ nmL L k ↔ ∃ n ∈ L.take k, n.op = 6 ∧ n.tx = s := by
  intro k
  induction k with
  | zero => intro _ s; simp [nmL]
  | succ k ih =>
    intro hk s
    have hn : L[k]? = some L[k] := List.getElem?_eq_getElem (by omega)
    rw [nmL_succ hn, List.take_add_one, hn]
    have := ih (by omega) s
    simp only [Option.toList_some, List.mem_append, List.mem_singleton]
    constructor
    · intro h
      split at h
      · rename_i q
        rcases List.mem_append.1 h with h | h
        · obtain ⟨n, h1, h2⟩ := this.1 h
          exact ⟨n, .inl h1, h2⟩
        · rw [List.mem_singleton] at h
          exact ⟨_, .inr rfl, q.1, h.symm⟩
      · obtain ⟨n, h1, h2⟩ := this.1 h
        exact ⟨n, .inl h1, h2⟩
    · rintro ⟨n, h1 | rfl, h2, h3⟩
      · have := this.2 ⟨n, h1, h2, h3⟩
        split
        · exact List.mem_append_left _ this
        · exact this
      · split
        · exact List.mem_append_right _ (List.mem_singleton.2 h3.symm)
        · rename_i q
          cases e : inB (L[k]).tx (nmL L k)
          · exact absurd ⟨h2, e⟩ q
          · rw [← h3]; exact inB_mem.1 e
theorem nmL_all {L : List Nd} {s : ByteArray} : s ∈ nmL L L.length ↔ ∃ n ∈ L, n.op = 6 ∧ n.tx = s := by
  have := nmL_mem L L.length (Nat.le_refl _) s
  rwa [List.take_length] at this
/-- The numbers of the names that a rule calls. -/
theorem called_sort {gs : GL} (_h : RtG gs) {i : Nat} {g : ByteArray × List Nd} (hg : gs[i]? = some g) {l : List Nat} (hl : l.length = (nmL g.2 g.2.length).length) (hx : ∀ (k : Nat) s, (nmL g.2 g.2.length)[k]? = some s → ∃ j, l[k]? = some j ∧ fdG gs s = some j) :
    (l.map fun (x : Nat) => (x : Int)).mergeSort (fun x y => decide (x ≤ y)) = (cL gs i).map fun (x : Nat) => (x : Int) := by
  have back : ∀ (k : Nat) j, l[k]? = some j → ∃ s, (nmL g.2 g.2.length)[k]? = some s ∧ fdG gs s = some j := fun k j hj => by
    have hk := (List.getElem?_eq_some_iff.1 hj).1
    obtain ⟨j', h1, h2⟩ := hx k _ (List.getElem?_eq_getElem (by omega))
    rw [hj] at h1
    cases h1
    exact ⟨_, List.getElem?_eq_getElem (by omega), h2⟩
  refine sort_is ?_ (cL_rise gs i) fun j => ?_
  · refine List.pairwise_iff_getElem.2 fun a b ha hb hab e => ?_
    obtain ⟨s, s1, s2⟩ := back a _ (List.getElem?_eq_getElem ha)
    obtain ⟨t, t1, t2⟩ := back b _ (List.getElem?_eq_getElem hb)
    rw [e] at s2
    obtain ⟨x, x1, x2, _⟩ := fdG_some s2
    obtain ⟨y, y1, y2, _⟩ := fdG_some t2
    rw [x1] at y1
    cases y1
    have est : s = t := by rw [← x2, ← y2]
    subst est
    have hn := List.pairwise_iff_getElem.1 (nmL_nodup g.2 g.2.length) a b (by omega) (by omega) hab
    obtain ⟨p1, p2⟩ := List.getElem?_eq_some_iff.1 s1
    obtain ⟨q1, q2⟩ := List.getElem?_eq_some_iff.1 t1
    exact hn (by rw [p2, q2])
  · rw [cL_mem]
    unfold cG
    rw [hg]
    simp only [List.any_eq_true, Bool.and_eq_true, decide_eq_true_eq]
    constructor
    · intro hj
      obtain ⟨k, hk, rfl⟩ := List.mem_iff_getElem.1 hj
      obtain ⟨s, s1, s2⟩ := back k _ (List.getElem?_eq_getElem hk)
      obtain ⟨n, n1, n2, n3⟩ := nmL_all.1 (List.mem_of_getElem? s1)
      exact ⟨fdG_lt s2, n, n1, n2, by rw [n3]; exact s2⟩
    · rintro ⟨_, n, n1, n2, n3⟩
      obtain ⟨k, hk, e⟩ := List.mem_iff_getElem.1 (nmL_all.2 ⟨n, n1, n2, rfl⟩)
      obtain ⟨j', h1, h2⟩ := hx k n.tx (by rw [List.getElem?_eq_getElem hk, e])
      rw [n3] at h2
      cases h2
      exact List.mem_of_getElem? h1
end Go.Proofs.YtbnihflihelimaaGreat.T

namespace Go.Proofs.YtbnihflihelimaaGreat.N
open Go.RowKit Go.Maps
open Go.Proofs.YtbnihflihelimaaGreat.T
theorem fdG_snoc : ∀ (l : GL) (g : ByteArray × List Nd) (s : ByteArray), fdG (l ++ [g]) s = match fdG l s with
    | some i => some i
    | none => if g.1 = s then some l.length else none := by
  intro l
  induction l with
  | nil => intro g s; rfl
  | cons x l ih =>
    intro g s
    rw [List.cons_append, fdG, fdG, ih g s]
    by_cases h : x.1 = s
    · rw [if_pos h, if_pos h]
    · rw [if_neg h, if_neg h]
      cases fdG l s with
      | some i => rfl
      | none =>
        simp only [Option.map_none]
        by_cases e : g.1 = s
        · rw [if_pos e, if_pos e]; rfl
        · rw [if_neg e, if_neg e]; rfl
theorem fdG_app : ∀ (l m : GL) (s : ByteArray) (i : Nat), fdG l s = some i → fdG (l ++ m) s = some i := by
  intro l
  induction l with
  | nil => intro m s i h; cases h
  | cons x l ih =>
    intro m s i h
    rw [List.cons_append, fdG] at *
    by_cases e : x.1 = s
    · rw [if_pos e] at *; exact h
    · rw [if_neg e] at *
      cases q : fdG l s with
      | none => rw [q] at h; cases h
      | some j => rw [ih m s j q]; rw [q] at h; exact h
/-- A name stands ahead just if it is among the first. -/
theorem tw_take (gs : GL) (s : ByteArray) (k : Nat) (hk : k ≤ gs.length) : tw gs s k = (fdG (gs.take k) s).isSome := by
  unfold tw
  cases h : fdG (gs.take k) s with
  | some i =>
    have := fdG_app _ (gs.drop k) s i h
    rw [List.take_append_drop] at this
    rw [this]
    have := fdG_lt h
    rw [List.length_take] at this
    exact decide_eq_true (by omega)
  | none =>
    cases q : fdG gs s with
    | none => rfl
    | some j =>
      refine decide_eq_false fun hj => ?_
      obtain ⟨g, g1, g2, _⟩ := fdG_some q
      refine fdG_none.1 h g ?_ g2
      exact List.mem_of_getElem? (i := j) (by rw [List.getElem?_take, if_pos hj]; exact g1)
theorem str_ne {a b : ByteArray} (h : a ≠ b) : Lit.string a.data.toList ≠ Lit.string b.data.toList := fun e => h (by injection e with e; exact ByteArray.ext (Array.ext' e))
theorem keyed : Keyed Tryz.prog 9 := string_keyed Tryz.underlying9
theorem zero3 (w : World) : (zeroValue 3).run Tryz.prog w = .ok (.int .i64 0) w := by kernel_rfl
theorem key_of {s : ByteArray} (hs : s.size ≤ 140737488355328) : keyOf Tryz.prog 9 (.string s) = some (.string s.data.toList) := WideMaps.keyOf_string_mk Tryz.underlying9 (by unfold maxLen; omega)
/-- What a datum says of names. -/
def NmD (D : DataW Unit) (gs : GL) : Prop := ∀ s : ByteArray, Maps.has D (.string s.data.toList) = (fdG gs s).isSome ∧ ∀ i, fdG gs s = some i → ∀ z, D.atKey (.string s.data.toList) z = .lit (.int .i64 i)
theorem NmD.nil : NmD (.map []) [] := fun s => ⟨rfl, fun i h => by cases h⟩
theorem NmD.put {D : DataW Unit} {gs : GL} (hm : Maps.IsMap D) (h : NmD D gs) (g : ByteArray × List Nd) (hg : fdG gs g.1 = none) : NmD (D.put (.string g.1.data.toList) (.lit (.int .i64 gs.length))) (gs ++ [g]) := fun s => by
  rw [fdG_snoc]
  by_cases e : g.1 = s
  · subst e
    rw [hg]
    simp only [if_true]
    exact ⟨has_put_same hm (show WideAt.IsKeyLit (.string _) from trivial) _, fun i hi z => by cases hi; exact atKey_put_same hm (show WideAt.IsKeyLit (.string _) from trivial) _ _⟩
  · have e2 : Lit.string s.data.toList ≠ Lit.string g.1.data.toList := str_ne (Ne.symm e)
    obtain ⟨h1, h2⟩ := h s
    rw [has_put_other e2, if_neg e]
    cases q : fdG gs s with
    | none => rw [q] at h1; exact ⟨h1, fun i hi => by cases hi⟩
    | some j =>
      rw [q] at h1
      exact ⟨h1, fun i hi z => by rw [atKey_put_other e2]; exact h2 i (by rw [q]; exact hi) z⟩
/-- Block B is the map of the names of some rules. -/
structure NmM (W : World) (B : Nat) (gs : GL) : Prop where
  ex : ∃ (D : DataW Unit), W.ownsMap Tryz.prog 9 (plainElem Tryz.prog 3) B gs.length D ∧ NmD D gs
theorem NmM.lt {W : World} {B : Nat} {gs : GL} (h : NmM W B gs) : B < W.heap.size := by
  obtain ⟨D, h1, _⟩ := h.ex
  exact h1.lt
theorem NmM.same {W W' : World} {B : Nat} {gs : GL} (h : NmM W B gs) (hb : W'.heap[B]? = W.heap[B]?) : NmM W' B gs := by
  obtain ⟨D, ⟨es, clock, h1, h2⟩, h3⟩ := h.ex
  exact ⟨D, ⟨es, clock, hb.trans h1, h2⟩, h3⟩
theorem NmM.later {W W' : World} {B : Nat} {gs : GL} (h : NmM W B gs) (hb : Below W.heap.size W W') : NmM W' B gs := h.same (hb.block B h.lt)
theorem NmM.nil (w : World) : NmM (w.alloc (.map #[] 0)) w.heap.size [] := ⟨⟨.map [], World.ownsMap_made w _ _ _, NmD.nil⟩⟩
set_option maxRecDepth 100000 in
/-- A look at a name. -/
theorem NmM.look {W : World} {B : Nat} {gs : GL} (h : NmM W B gs) (s : ByteArray) (hs : s.size ≤ 140737488355328) : ∃ c : Int, (Instr.lookup 52 (.map (some B)) (.string s) true).run Tryz.prog W = .ok (.tuple #[.int .i64 c, .bool (fdG gs s).isSome]) W ∧ ∀ i, fdG gs s = some i → c = i := by
  obtain ⟨D, h1, h2⟩ := h.ex
  obtain ⟨v, ps, hrun, hv⟩ := h1.look_ok keyed Tryz.underlying52 (zero3 W) (plainElem_int Tryz.underlying3 (by decide)) (key_of hs)
  obtain ⟨c, rfl, hc, _⟩ := plainElem_int_inv Tryz.underlying3 hv
  rw [(h2 s).1] at hrun
  refine ⟨c, hrun, fun i hi => ?_⟩
  have e := congrArg Prod.fst hc
  simp only [(h2 s).2 i hi] at e
  injection e with e
  injection e with _ e
  exact e.symm
set_option maxRecDepth 100000 in
theorem NmM.look0 {W : World} {B : Nat} {gs : GL} (h : NmM W B gs) {s : ByteArray} (hs : s.size ≤ 140737488355328) {i : Nat} (hi : fdG gs s = some i) : (Instr.lookup 52 (.map (some B)) (.string s) false).run Tryz.prog W = .ok (.int .i64 i) W := by
  obtain ⟨D, h1, h2⟩ := h.ex
  obtain ⟨c, hrun, hat, _⟩ := h1.lookup_int keyed Tryz.underlying52 Tryz.underlying3 (zero3 W) (key_of hs)
  rw [(h2 s).2 i hi] at hat
  injection hat with hat
  injection hat with _ hat
  rw [hrun, hat]

/-- A node that calls. -/
def cN (s : ByteArray) : Nd := ⟨6, 0, s, 0, 0, 0, 0⟩
theorem ck_cN (s : ByteArray) : ((ck [cN s]).2 == 0) = nmB s := by
  have hf : fdF (cN s) = nmB s := by
    unfold fdF cN
    have e1 : nuF 6 0 = true := by decide
    have e2 : seF 6 0 0 0 0 = true := by decide
    simp only [e1, e2, Bool.and_true]
    unfold txF
    simp
  have ha : alE (cN s) = if nmB s then 0 else 41 := by
    unfold alE
    rw [if_neg (show ¬ ar (cN s).op < 0 from (show ¬ ar 6 < 0 by decide)), hf]
  have he : er [cN s] 0 = if nmB s then 0 else 41 := by
    rw [er_of (n := cN s) rfl, ha]
    have e1 : ¬ (run [cN s] 0).length < arN (cN s).op := (show ¬ 0 < arN 6 by decide)
    have e2 : ¬ 60 < (pt [cN s] 0).2.2 := (show ¬ 60 < (mk [cN s] 0 6 []).2.2 by unfold mk; rw [if_pos (show arN 6 = 0 by decide)]; decide)
    cases nmB s
    · rfl
    · simp only [if_true]
      rw [if_neg (by decide), if_neg e1, if_neg e2]
  cases h : nmB s
  · rw [h] at he
    rw [ck_bad (L := [cN s]) (k := 0) (show ¬ 2048 < 1 by decide) (show 0 < 1 by decide) (fun j hj => by omega) (by rw [he]; decide), he]
    rfl
  · rw [h] at he
    have : ck [cN s] = (0, 0) := by
      refine (Rt.ck ⟨show ¬ 2048 < 1 by decide, fun j hj => ?_, ?_⟩)
      · have : j = 0 := by simp at hj; omega
        rw [this]
        exact he
      · simp [run, cN]
    rw [this]
    rfl
set_option maxRecDepth 100000 in
set_option maxHeartbeats 4000000 in
theorem nameP_any (s : ByteArray) (hs : s.size ≤ 140737488355328) (w : World) : Calls Tryz.prog 129 #[.string s] w fun e w' => e = .returned (.bool (nmB s)) ∧ Below w.heap.size w w' := by
  have HC := (show Hid (∀ _ : Unit, Calls Tryz.prog 130 #[.slice (some ⟨w.heap.size, 0, none⟩) 1 1] (w.alloc (ndO (cN s))) fun e w' => e = .returned (.tuple #[.int .i64 (ck [cN s]).1, .int .i64 (ck [cN s]).2]) ∧ Below (w.alloc (ndO (cN s))).heap.size (w.alloc (ndO (cN s))) w') from fun _ =>
    check_any [cN s] (some ⟨w.heap.size, 0, none⟩) 1 (one_len _) (fun n hn => by rw [List.mem_singleton.1 hn]; exact hs) (w.alloc (ndO (cN s))) (rd_one w (cN s)))
  have HE := (show Hid (((ck [cN s]).2 == 0) = nmB s) from ck_cN s)
  have HB := (show Hid (Below w.heap.size w (w.alloc (ndO (cN s)))) from below_box _ _)
  clear hs
  go_enter Tryz.func129, Tryz.ntmps129
  go_wp2_with fail
  refine (HC.out ()).mono ?_
  rintro e w3 ⟨rfl, b3⟩
  have HB3 := (show Hid (Below w.heap.size w w3) from HB.out.trans (b3.mono HB.out.size))
  clear HC HB b3
  generalize (ck [cN s]).2 = c2 at *
  generalize (ck [cN s]).1 = c1 at *
  go_wp2_with fail
  go_ret
  exact ⟨by rw [← HE.out]; rfl, HB3.out⟩
end Go.Proofs.YtbnihflihelimaaGreat.N

namespace Go.Proofs.YtbnihflihelimaaGreat.N
open Go.RowKit Go.Maps
open Go.Proofs.YtbnihflihelimaaGreat.T
/-- A spot in a box of its own. -/
structure SX (W : World) (k : Nat) (a b : Int) : Prop where
  heap : W.heap[k]? = some (.cells #[.int .i64 a, .int .i64 b] 60 (0, 0))
theorem SX.lt {W : World} {k : Nat} {a b : Int} (h : SX W k a b) : k < W.heap.size := (Array.getElem?_eq_some_iff.1 h.heap).1
theorem SX.same {W W' : World} {k : Nat} {a b : Int} (h : SX W k a b) (hb : W'.heap[k]? = W.heap[k]?) : SX W' k a b := ⟨hb.trans h.heap⟩
theorem SX.below {W W' : World} {k : Nat} {a b : Int} (h : SX W k a b) (hb : Below W.heap.size W W') : SX W' k a b := h.same (hb.block k h.lt)
theorem SX.c0 {W : World} {k : Nat} {a b : Int} (h : SX W k a b) : W.cell? ⟨k, 0, none⟩ = some (.int .i64 a) := by rw [cell_of_row W k 0 _ 60 (0, 0) h.heap]; rfl
theorem SX.c1 {W : World} {k : Nat} {a b : Int} (h : SX W k a b) : W.cell? ⟨k, 1, none⟩ = some (.int .i64 b) := by rw [cell_of_row W k 1 _ 60 (0, 0) h.heap]; rfl
theorem SX.fz {W : World} {k : Nat} {a b : Int} (h : SX W k a b) (j : Nat) : W.frozen? ⟨k, j, none⟩ = false := frozen_of_row W k j _ 60 h.heap
theorem SX.set {W : World} {k : Nat} {a b : Int} (h : SX W k a b) (c d : Int) : SX ((W.setCell ⟨k, 0, none⟩ (.int .i64 c)).setCell ⟨k, 1, none⟩ (.int .i64 d)) k c d := by
  have h0 := heap_setCell_same _ k 0 _ 60 (.int .i64 c) h.heap
  have h1 := heap_setCell_same _ k 1 _ 60 (.int .i64 d) h0
  exact ⟨h1⟩
theorem set_below {w wr : World} {k j : Nat} {v : Value} (h : Below w.heap.size w wr) (hk : w.heap.size ≤ k) : Below w.heap.size w (wr.setCell ⟨k, j, none⟩ v) := h.setCell hk _
/-- A grammar's box and a spot's, side by side, and the names. -/
structure UnS (w wr : World) (u : Value) (B : Nat) (gs : GL) : Prop where
  b : Below w.heap.size w wr
  x : GX wr w.heap.size u
  s : SX wr (w.heap.size + 1) 0 0
  m : NmM wr B gs
theorem UnS.later {w wr W' : World} {u : Value} {B : Nat} {gs : GL} (h : UnS w wr u B gs) (hb : Below wr.heap.size wr W') : UnS w W' u B gs := ⟨h.b.trans (hb.mono h.b.size), h.x.below hb, h.s.below hb, h.m.later hb⟩
theorem unG_cons {gs : GL} {i : Nat} {g : ByteArray × List Nd} {r : GL} : unG gs i (g :: r) = match unN gs 0 g.2 with
    | some k => ((i, k), 81)
    | none => unG gs (i + 1) r := rfl
theorem unN_cons {gs : GL} {k : Nat} {n : Nd} {r : List Nd} : unN gs k (n :: r) = if n.op = 6 ∧ fdG gs n.tx = none then some k else unN gs (k + 1) r := rfl
set_option maxRecDepth 100000 in
set_option maxHeartbeats 16000000 in
theorem unknown_any (gs : GL) (A : Option Addr) (c B : Nat) (hl : gs.length ≤ 140737488355328) (hT : ∀ g ∈ gs, g.1.size ≤ 140737488355328 ∧ g.2.length ≤ 140737488355328 ∧ ∀ n ∈ g.2, n.tx.size ≤ 140737488355328) (w : World) (hp : GrD w A gs) (hm : NmM w B gs) :
    Calls Tryz.prog 131 #[.agg #[.slice A gs.length c], .map (some B)] w fun e w' => e = .returned (.tuple #[.agg #[.int .i64 (unG gs 0 gs).1.1, .int .i64 (unG gs 0 gs).1.2], .int .i64 (unG gs 0 gs).2]) ∧ Below w.heap.size w w' := by
  have HP := (show Hid (GrD w A gs) from hp)
  have HG := (show Hid (∀ k, k < gs.length → ∃ g, gs[k]? = some g ∧ g.2.length ≤ 140737488355328 ∧ (∀ n ∈ g.2, n.tx.size ≤ 140737488355328) ∧ gs.drop k = g :: gs.drop (k + 1)) from fun k hk => ⟨_, List.getElem?_eq_getElem hk, (hT _ (List.getElem_mem hk)).2.1, (hT _ (List.getElem_mem hk)).2.2, List.drop_eq_getElem_cons hk⟩)
  have HS := (show Hid (UnS w ((w.alloc (.cells #[.slice A gs.length c] 24)).alloc (.cells #[.int .i64 0, .int .i64 0] 60)) (.slice A gs.length c) B gs) from
    ⟨((Below.refl _ _).alloc (Nat.le_refl _) _).alloc (by rw [World.size_alloc]; omega) _, (GX.mk (heap_alloc_new w _)).below (below_box _ _), ⟨by have h := heap_alloc_new (w.alloc (.cells #[.slice A gs.length c] 24)) (.cells #[.int .i64 0, .int .i64 0] 60); rw [World.size_alloc] at h; exact h⟩, (hm.later (below_box _ _)).later (below_box _ _)⟩)
  have q1 := HS.out.x.cl
  clear hp hT hm
  go_enter Tryz.func131, Tryz.ntmps131
  go_wp2_with fail
  generalize (w.alloc (.cells #[.slice A gs.length c] 24)).alloc (.cells #[.int .i64 0, .int .i64 0] 60) = w1 at *
  go_wp2_with fail
  clear q1
  go_loopw [15] (fun t wr => ∃ k : Nat, k ≤ gs.length ∧ t = .int .i64 k ∧ Hid (unG gs 0 gs = unG gs k (gs.drop k)) ∧ Hid (UnS w wr (.slice A gs.length c) B gs)) (fun t _ => gs.length - (intOf t).toNat)
  case atStart => exact ⟨0, by omega, by go_num, rfl, HS⟩
  case round =>
    obtain ⟨k, hk, rfl, HX, HW⟩ := hrel
    clear HS
    by_cases hlt : k < gs.length
    · obtain ⟨g, hg, s2, s3, hd⟩ := HG.out k hlt
      obtain ⟨b, o, A2, c2, rfl, lb, x0, x1, r2⟩ := HP.out k g hg
      have x0' := (HW.out.b.cell (p := ⟨b, o + k * 2, none⟩) lb).trans x0
      have x1' := (HW.out.b.cell (p := ⟨b, o + k * 2 + 1, none⟩) lb).trans x1
      clear x0 x1
      have z0 : (0 : Int) ≤ (k : Int) := by omega
      have z1 : (k : Int) < (gs.length : Int) := by omega
      have HW1 := (show Hid (UnS w (wr.alloc (.cells #[.string g.1, .slice A2 g.2.length c2] 50)) (.slice (some ⟨b, o, none⟩) gs.length c) B gs) from HW.out.later (below_box _ _))
      have HR2 := (show Hid (RdN w A2 g.2) from r2)
      have HU := (show Hid (unG gs 0 gs = match unN gs 0 g.2 with
        | some j => ((k, j), 81)
        | none => unG gs (k + 1) (gs.drop (k + 1))) from by show unG gs 0 gs = _; rw [HX.out, hd, unG_cons])
      have HN := (show Hid (∀ j, j < g.2.length → ∃ n, g.2[j]? = some n ∧ g.2 ≠ [] ∧ n.tx.size ≤ 140737488355328 ∧ g.2.drop j = n :: g.2.drop (j + 1)) from fun j hj => ⟨_, List.getElem?_eq_getElem hj, by (intro q; rw [q] at hj; simp at hj), s3 _ (List.getElem_mem hj), List.drop_eq_getElem_cons hj⟩)
      clear hg r2 s3 HW HX hd HP
      go_wp2_with fail
      generalize wr.alloc (.cells #[.string g.1, .slice A2 g.2.length c2] 50) = wA at *
      clear x0' x1'
      go_wp2_with fail
      go_loopw [23] (fun t wr => ∃ j : Nat, j ≤ g.2.length ∧ t = .int .i64 j ∧ Hid (unN gs 0 g.2 = unN gs j (g.2.drop j)) ∧ Hid (UnS w wr (.slice (some ⟨b, o, none⟩) gs.length c) B gs)) (fun t _ => g.2.length - (intOf t).toNat)
      case atStart => exact ⟨0, by omega, by go_num, rfl, HW1⟩
      case round =>
        obtain ⟨j, hj, rfl, HX, HW⟩ := hrel
        clear HW1
        by_cases hjl : j < g.2.length
        · obtain ⟨n, hn, nl, st, hd⟩ := HN.out j hjl
          obtain ⟨g1, o1, rfl, l1, q1⟩ := HR2.out nl
          obtain ⟨a0, a1, a2, a3, a4, a5, a6⟩ := (q1.same (HW.out.b.block g1 l1)) j n hn
          have y0 : (0 : Int) ≤ (j : Int) := by omega
          have y1 : (j : Int) < (g.2.length : Int) := by omega
          have HW2 := (show Hid (UnS w (wr.alloc (ndO n)) (.slice (some ⟨b, o, none⟩) gs.length c) B gs) from HW.out.later (below_box _ _))
          clear HN HR2 HG q1 HW nl hn
          by_cases h6 : n.op = 6
          · have t6 : (n.op != 6) = false := by rw [h6]; rfl
            obtain ⟨cc, hrun, _⟩ := HW2.out.m.look n.tx st
            cases hf : fdG gs n.tx with
            | none =>
              rw [hf] at hrun
              have HE := (show Hid (unG gs 0 gs = ((k, j), 81)) from by show unG gs 0 gs = _; rw [HU.out, HX.out, hd, unN_cons, if_pos ⟨h6, hf⟩])
              have HB := (show Hid (Below w.heap.size w (wr.alloc (ndO n))) from HW2.out.b)
              have HSx := (show Hid _ from HW2.out.s)
              have c0 := HW2.out.s.c0
              have c1 := HW2.out.s.c1
              have f0 := HW2.out.s.fz 0
              have f1 := HW2.out.s.fz 1
              clear HX HU hd hf HW2 h6
              have HZ := (show Hid (SX (((wr.alloc (ndO n)).setCell ⟨w.heap.size + 1, 0, none⟩ (.int .i64 k)).setCell ⟨w.heap.size + 1, 1, none⟩ (.int .i64 j)) (w.heap.size + 1) k j) from HSx.out.set _ _)
              have HBz := (show Hid (Below w.heap.size w (((wr.alloc (ndO n)).setCell ⟨w.heap.size + 1, 0, none⟩ (.int .i64 k)).setCell ⟨w.heap.size + 1, 1, none⟩ (.int .i64 j))) from set_below (set_below HB.out (Nat.le_succ _)) (Nat.le_succ _))
              clear HB HSx
              go_wp2_with fail
              generalize wr.alloc (ndO n) = wB at *
              go_wp2_with fail
              have d0 := HZ.out.c0
              have d1 := HZ.out.c1
              clear c0 c1 f0 f1
              generalize (wB.setCell ⟨w.heap.size + 1, 0, none⟩ (.int .i64 k)).setCell ⟨w.heap.size + 1, 1, none⟩ (.int .i64 j) = wZ at *
              refine bodyPost_ret (v := .tuple #[.agg #[.int .i64 k, .int .i64 j], .int .i64 81]) (by simp [results, Tryz.results131, go_sem, d0, d1]) rfl ⟨by rw [HE.out], HBz.out⟩
            | some i =>
              rw [hf] at hrun
              have HX2 := (show Hid (unN gs 0 g.2 = unN gs (j + 1) (g.2.drop (j + 1))) from by show unN gs 0 g.2 = _; rw [HX.out, hd, unN_cons, if_neg (by rintro ⟨_, q⟩; rw [hf] at q; cases q)])
              clear HX HU hd hf h6
              go_wp2_with fail
              generalize wr.alloc (ndO n) = wB at *
              clear a0 a1 a2 a3 a4 a5 a6
              go_wp2_with fail
              go_roundw
              case rel => exact ⟨j + 1, by omega, by go_num, HX2, HW2⟩
              case measure => simp [intOf]; omega
          · have t6 : (n.op != 6) = true := by rw [bne, beq_eq_false_iff_ne.2 h6]; rfl
            have HX2 := (show Hid (unN gs 0 g.2 = unN gs (j + 1) (g.2.drop (j + 1))) from by show unN gs 0 g.2 = _; rw [HX.out, hd, unN_cons, if_neg (by rintro ⟨q, _⟩; exact h6 q)])
            clear HX HU hd h6
            go_wp2_with fail
            generalize wr.alloc (ndO n) = wB at *
            clear a0 a1 a2 a3 a4 a5 a6
            go_wp2_with fail
            go_roundw
            case rel => exact ⟨j + 1, by omega, by go_num, HX2, HW2⟩
            case measure => simp [intOf]; omega
        · obtain rfl : j = g.2.length := by omega
          have HX2 := (show Hid (unG gs 0 gs = unG gs (k + 1) (gs.drop (k + 1))) from by show unG gs 0 gs = _; rw [HU.out, HX.out, List.drop_length]; rfl)
          clear HX HU HN HR2
          go_wp2_with fail
          go_roundw
          case rel => exact ⟨k + 1, by omega, by go_num, HX2, HW⟩
          case measure => simp [intOf]; omega
    · obtain rfl : k = gs.length := by omega
      have HE := (show Hid (unG gs 0 gs = ((0, 0), 0)) from by show unG gs 0 gs = _; rw [HX.out, List.drop_length]; rfl)
      have c0 := HW.out.s.c0
      have c1 := HW.out.s.c1
      have f0 := HW.out.s.fz 0
      have f1 := HW.out.s.fz 1
      have HB := (show Hid _ from HW.out.b)
      have HZ := (show Hid (SX ((wr.setCell ⟨w.heap.size + 1, 0, none⟩ (.int .i64 0)).setCell ⟨w.heap.size + 1, 1, none⟩ (.int .i64 0)) (w.heap.size + 1) 0 0) from HW.out.s.set _ _)
      have HBz := (show Hid (Below w.heap.size w ((wr.setCell ⟨w.heap.size + 1, 0, none⟩ (.int .i64 0)).setCell ⟨w.heap.size + 1, 1, none⟩ (.int .i64 0))) from set_below (set_below HB.out (Nat.le_succ _)) (Nat.le_succ _))
      clear HX HG HP HW HB
      go_wp2_with fail
      have d0 := HZ.out.c0
      have d1 := HZ.out.c1
      clear c0 c1 f0 f1
      generalize (wr.setCell ⟨w.heap.size + 1, 0, none⟩ (.int .i64 0)).setCell ⟨w.heap.size + 1, 1, none⟩ (.int .i64 0) = wZ at *
      refine bodyPost_ret (v := .tuple #[.agg #[.int .i64 0, .int .i64 0], .int .i64 0]) (by simp [results, Tryz.results131, go_sem, d0, d1]) rfl ⟨by rw [HE.out]; rfl, HBz.out⟩
end Go.Proofs.YtbnihflihelimaaGreat.N
