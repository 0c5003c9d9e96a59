/- DERIVED. Plain mathematics and walks, laid together (9). -/
import Derived.StillTailTactics
import Derived.Test.YtokfgoepnfjafaaGreatEj08
namespace Go.Proofs.YtokfgoepnfjafaaGreat.N
open Go.RowKit Go.Maps
open Go.Proofs.YtokfgoepnfjafaaGreat.T
structure D6 (w W : World) (u : Value) (n : Nd) (x : Em) : Prop where
  b : Below w.heap.size w W
  g : GX W w.heap.size u
  n : NX W (w.heap.size + 1) n
  z : EX W (w.heap.size + 2) e0
  a : EX W (w.heap.size + 3) x
theorem D6.of {w W : World} {u : Value} {n : Nd} (h : D5 w W u n) : D6 w W u n e0 := ⟨h.b, h.g, h.n, h.z, h.a⟩
theorem nx_same9 {W W' : World} {b : Nat} {n : Nd} (h : NX W b n) (hb : W'.heap[b]? = W.heap[b]?) : NX W' b n := ⟨hb.trans h.heap⟩
theorem D6.put {w W : World} {u : Value} {n : Nd} {x : Em} (h : D6 w W u n x) (y : Em) : D6 w (st4 W (w.heap.size + 3) y) u n y :=
  ⟨st4_below h.b (by omega) y, h.g.same (st4_other (by omega) y), nx_same9 h.n (st4_other (by omega) y), h.z.same (st4_other (by omega) y), h.a.all y⟩
theorem set_same9 {W : World} {b i : Nat} {cs : Array Value} {t : TypeId} {fr : Nat × Nat} {v : Value} (h : W.heap[b]? = some (.cells cs t fr)) (hi : cs.setIfInBounds i v = cs) : W.setCell ⟨b, i, none⟩ v = W := by
  obtain ⟨hlt, hv⟩ := Array.getElem?_eq_some_iff.1 h
  rw [setCell_eq_setRow W b i cs t fr v h, hi]
  unfold World.setRow
  suffices e : W.heap.modify b (fun | .cells _ elem frozen => .cells cs elem frozen | o => o) = W.heap from by
    show ({ W with heap := W.heap.modify b _ } : World) = W
    exact congrArg (fun h => ({ W with heap := h } : World)) e
  · apply Array.ext
    · simp
    · intro k h1 h2
      simp only [Array.getElem_modify]
      split
      · next hk => subst hk; rw [hv]
      · rfl
theorem D6.same0 {w W : World} {u : Value} {n : Nd} (h : D6 w W u n e0) : st4 W (w.heap.size + 3) e0 = W := by
  have h0 := h.a.heap
  have e1 := set_same9 (i := 0) (v := .bool e0.nu) h0 rfl
  have e2 := set_same9 (i := 1) (v := .bool e0.cf) h0 rfl
  have e3 := set_same9 (i := 2) (v := .int .i64 e0.le) h0 rfl
  have e4 := set_same9 (i := 3) (v := .int .i64 e0.mo) h0 rfl
  unfold st4
  rw [e1, e2, e3, e4]
theorem wpStill_plain9 {P : Program} {ops : Array Oper} {w : World} {Q : Act → Prop} {a : Act} {o : Oper} {rest : List Oper} (hg : o.guard = none) (h : ∀ K : Act → Prop, (∀ a, wpStill P ops w Q rest a → K a) → o.still P a w K) : wpStill P ops w Q (o :: rest) a :=
  wpStill_step fun K hK => by simp only [Region.wanted, hg, if_true]; exact h K hK
theorem D6.later {w W W' : World} {u : Value} {n : Nd} {x : Em} (h : D6 w W u n x) (hb : Below W.heap.size W W') : D6 w W' u n x := ⟨h.b.trans (hb.mono h.b.size), h.g.below hb, nx_below h.n hb, h.z.below hb, h.a.below hb⟩
theorem D6.ret {w W : World} {u : Value} {n : Nd} {x : Em} (h : D6 w W u n x) (f : Em) : EX (st4 W (w.heap.size + 2) f) (w.heap.size + 2) f ∧ Below w.heap.size w (st4 W (w.heap.size + 2) f) := ⟨h.z.all f, st4_below h.b (by omega) f⟩

def d9 (x : Em) : Em := ⟨true, false, 0, agE x.mo⟩
def d10 (x : Em) : Em := ⟨x.nu, x.cf, x.le, agE x.mo⟩
def d14 (n : Int) (x : Em) : Em := ⟨x.nu, x.cf, leC (timE n x.le), moC (timE n x.mo)⟩
def d15 (n : Int) (x : Em) : Em := ⟨x.nu, x.cf, leC (timE n x.le), agE x.mo⟩
def d16 (n : Int) (x : Em) : Em := ⟨true, false, 0, moC (timE n x.mo)⟩
set_option maxRecDepth 100000 in
set_option maxHeartbeats 16000000 in
theorem nodeD_11 {x : Em} (nd : Nd) (A Ak An : Option Addr) (gn c ck nn cn : Nat) (ho : nd.op = 11) (w : World) (hp : RdE w Ak [x]) : Calls Tryz.prog 47 #[.agg #[.slice A gn c], ndG nd, .slice Ak 1 ck, .slice An nn cn] w fun e w' => e = .returned (emG ⟨true, false, 0, x.mo⟩) ∧ Below w.heap.size w w' := by
  have t1 : (nd.op == 1) = false := by rw [beq_eq_false_iff_ne]; omega
  have t17 : (nd.op == 17) = false := by rw [beq_eq_false_iff_ne]; omega
  have t14 : (nd.op == 14) = false := by rw [beq_eq_false_iff_ne]; omega
  have t16 : (nd.op == 16) = false := by rw [beq_eq_false_iff_ne]; omega
  have t9 : (nd.op == 9) = false := by rw [beq_eq_false_iff_ne]; omega
  have t15 : (nd.op == 15) = false := by rw [beq_eq_false_iff_ne]; omega
  have t2 : (nd.op == 2) = false := by rw [beq_eq_false_iff_ne]; omega
  have t3 : (nd.op == 3) = false := by rw [beq_eq_false_iff_ne]; omega
  have t5 : (nd.op == 5) = false := by rw [beq_eq_false_iff_ne]; omega
  have t4 : (nd.op == 4) = false := by rw [beq_eq_false_iff_ne]; omega
  have t6 : (nd.op == 6) = false := by rw [beq_eq_false_iff_ne]; omega
  have t7 : (nd.op == 7) = false := by rw [beq_eq_false_iff_ne]; omega
  have t8 : (nd.op == 8) = false := by rw [beq_eq_false_iff_ne]; omega
  have t10 : (nd.op == 10) = false := by rw [beq_eq_false_iff_ne]; omega
  have t11 : (nd.op == 11) = true := by rw [ho]; rfl
  have t12 : (nd.op == 12) = false := by rw [beq_eq_false_iff_ne]; omega
  have t13 : (nd.op == 13) = false := by rw [beq_eq_false_iff_ne]; omega
  clear ho
  obtain ⟨g, o, rfl, lg, hEB⟩ := hp (by simp)
  have hx0 := hEB 0 x rfl
  rw [Nat.zero_mul, Nat.add_zero] at hx0
  obtain ⟨xn, xc, xl, xm⟩ := x
  obtain ⟨w4, hw4⟩ : ∃ w4, w4 = (((w.alloc (.cells #[.slice A gn c] 24)).alloc (.cells #[.int .i64 nd.op, .int .i64 nd.nn, .string nd.tx, .int .u64 nd.s0, .int .u64 nd.s1, .int .u64 nd.s2, .int .u64 nd.s3] 62)).alloc (.cells #[.bool false, .bool false, .int .i64 0, .int .i64 0] 33)).alloc (.cells #[.bool false, .bool false, .int .i64 0, .int .i64 0] 33) := ⟨_, rfl⟩
  have HE4 := (show Hid ((((w.alloc (.cells #[.slice A gn c] 24)).alloc (.cells #[.int .i64 nd.op, .int .i64 nd.nn, .string nd.tx, .int .u64 nd.s0, .int .u64 nd.s1, .int .u64 nd.s2, .int .u64 nd.s3] 62)).alloc (.cells #[.bool false, .bool false, .int .i64 0, .int .i64 0] 33)).alloc (.cells #[.bool false, .bool false, .int .i64 0, .int .i64 0] 33) = w4) from hw4.symm)
  have h4 : D6 w w4 (.slice A gn c) nd e0 := by rw [hw4]; exact D6.of (D5.start w _ nd)
  have HE5 := (show Hid ((((w4.setCell ⟨w.heap.size + 3, 0, none⟩ (.bool false)).setCell ⟨w.heap.size + 3, 1, none⟩ (.bool false)).setCell ⟨w.heap.size + 3, 2, none⟩ (.int .i64 0)).setCell ⟨w.heap.size + 3, 3, none⟩ (.int .i64 0) = w4) from h4.same0)
  obtain ⟨w6, hw6⟩ : ∃ w6, w6 = (((w4.setCell ⟨w.heap.size + 3, 0, none⟩ (.bool xn)).setCell ⟨w.heap.size + 3, 1, none⟩ (.bool xc)).setCell ⟨w.heap.size + 3, 2, none⟩ (.int .i64 xl)).setCell ⟨w.heap.size + 3, 3, none⟩ (.int .i64 xm) := ⟨_, rfl⟩
  have HE6 := (show Hid ((((w4.setCell ⟨w.heap.size + 3, 0, none⟩ (.bool xn)).setCell ⟨w.heap.size + 3, 1, none⟩ (.bool xc)).setCell ⟨w.heap.size + 3, 2, none⟩ (.int .i64 xl)).setCell ⟨w.heap.size + 3, 3, none⟩ (.int .i64 xm) = w6) from hw6.symm)
  have h6 : D6 w w6 (.slice A gn c) nd ⟨xn, xc, xl, xm⟩ := by rw [hw6]; exact h4.put ⟨xn, xc, xl, xm⟩
  have H6 := (show Hid (D6 w w6 (.slice A gn c) nd ⟨xn, xc, xl, xm⟩) from h6)
  have a0 : w4.cell? ⟨w.heap.size + 3, 0, none⟩ = some (.bool false) := h4.a.eb.c0
  have a1 : w4.cell? ⟨w.heap.size + 3, 1, none⟩ = some (.bool false) := h4.a.eb.c1
  have a2 : w4.cell? ⟨w.heap.size + 3, 2, none⟩ = some (.int .i64 0) := h4.a.eb.c2
  have a3 : w4.cell? ⟨w.heap.size + 3, 3, none⟩ = some (.int .i64 0) := h4.a.eb.c3
  have b0 := h4.a.fz 0
  have b1 := h4.a.fz 1
  have b2 := h4.a.fz 2
  have b3 := h4.a.fz 3
  obtain ⟨k0, k1, k2, k3⟩ := hx0.same (h4.b.block g lg)
  simp only at k0 k1 k2 k3
  have n0 : w6.cell? ⟨w.heap.size + 1, 0, none⟩ = some (.int .i64 nd.op) := h6.n.nb.c0
  have n1 : w6.cell? ⟨w.heap.size + 1, 1, none⟩ = some (.int .i64 nd.nn) := h6.n.nb.c1
  have HR := (show Hid _ from h6.ret (⟨true, false, 0, xm⟩))
  have f0 := H6.out.z.fz 0
  have f1 := H6.out.z.fz 1
  have f2 := H6.out.z.fz 2
  have f3 := H6.out.z.fz 3
  have z0 : w6.cell? ⟨w.heap.size + 2, 0, none⟩ = some (.bool false) := H6.out.z.eb.c0
  have z1 : w6.cell? ⟨w.heap.size + 2, 1, none⟩ = some (.bool false) := H6.out.z.eb.c1
  have z2 : w6.cell? ⟨w.heap.size + 2, 2, none⟩ = some (.int .i64 0) := H6.out.z.eb.c2
  have z3 : w6.cell? ⟨w.heap.size + 2, 3, none⟩ = some (.int .i64 0) := H6.out.z.eb.c3
  have x0 : w6.cell? ⟨w.heap.size + 3, 0, none⟩ = some (.bool xn) := H6.out.a.eb.c0
  have x1 : w6.cell? ⟨w.heap.size + 3, 1, none⟩ = some (.bool xc) := H6.out.a.eb.c1
  have x2 : w6.cell? ⟨w.heap.size + 3, 2, none⟩ = some (.int .i64 xl) := H6.out.a.eb.c2
  have x3 : w6.cell? ⟨w.heap.size + 3, 3, none⟩ = some (.int .i64 xm) := H6.out.a.eb.c3
  clear hw4 hw6 h4 h6 hEB hx0 lg hp
  go_enter Tryz.func47, Tryz.ntmps47
  go_wp2_with (first | rw [HE4.out] | rw [HE5.out] | rw [HE6.out])
  refine ret_ex (s := 8) (k := w.heap.size + 2) (e := ⟨true, false, 0, xm⟩) (by rfl) (by rfl) (by rfl) HR.out.1 ?_
  exact ⟨rfl, HR.out.2⟩
set_option maxRecDepth 100000 in
set_option maxHeartbeats 16000000 in
theorem nodeD_12 {x : Em} (nd : Nd) (A Ak An : Option Addr) (gn c ck nn cn : Nat) (ho : nd.op = 12) (w : World) (hp : RdE w Ak [x]) : Calls Tryz.prog 47 #[.agg #[.slice A gn c], ndG nd, .slice Ak 1 ck, .slice An nn cn] w fun e w' => e = .returned (emG ⟨true, x.cf, 0, 0⟩) ∧ Below w.heap.size w w' := by
  have t1 : (nd.op == 1) = false := by rw [beq_eq_false_iff_ne]; omega
  have t17 : (nd.op == 17) = false := by rw [beq_eq_false_iff_ne]; omega
  have t14 : (nd.op == 14) = false := by rw [beq_eq_false_iff_ne]; omega
  have t16 : (nd.op == 16) = false := by rw [beq_eq_false_iff_ne]; omega
  have t9 : (nd.op == 9) = false := by rw [beq_eq_false_iff_ne]; omega
  have t15 : (nd.op == 15) = false := by rw [beq_eq_false_iff_ne]; omega
  have t2 : (nd.op == 2) = false := by rw [beq_eq_false_iff_ne]; omega
  have t3 : (nd.op == 3) = false := by rw [beq_eq_false_iff_ne]; omega
  have t5 : (nd.op == 5) = false := by rw [beq_eq_false_iff_ne]; omega
  have t4 : (nd.op == 4) = false := by rw [beq_eq_false_iff_ne]; omega
  have t6 : (nd.op == 6) = false := by rw [beq_eq_false_iff_ne]; omega
  have t7 : (nd.op == 7) = false := by rw [beq_eq_false_iff_ne]; omega
  have t8 : (nd.op == 8) = false := by rw [beq_eq_false_iff_ne]; omega
  have t10 : (nd.op == 10) = false := by rw [beq_eq_false_iff_ne]; omega
  have t11 : (nd.op == 11) = false := by rw [beq_eq_false_iff_ne]; omega
  have t12 : (nd.op == 12) = true := by rw [ho]; rfl
  have t13 : (nd.op == 13) = false := by rw [beq_eq_false_iff_ne]; omega
  clear ho
  obtain ⟨g, o, rfl, lg, hEB⟩ := hp (by simp)
  have hx0 := hEB 0 x rfl
  rw [Nat.zero_mul, Nat.add_zero] at hx0
  obtain ⟨xn, xc, xl, xm⟩ := x
  obtain ⟨w4, hw4⟩ : ∃ w4, w4 = (((w.alloc (.cells #[.slice A gn c] 24)).alloc (.cells #[.int .i64 nd.op, .int .i64 nd.nn, .string nd.tx, .int .u64 nd.s0, .int .u64 nd.s1, .int .u64 nd.s2, .int .u64 nd.s3] 62)).alloc (.cells #[.bool false, .bool false, .int .i64 0, .int .i64 0] 33)).alloc (.cells #[.bool false, .bool false, .int .i64 0, .int .i64 0] 33) := ⟨_, rfl⟩
  have HE4 := (show Hid ((((w.alloc (.cells #[.slice A gn c] 24)).alloc (.cells #[.int .i64 nd.op, .int .i64 nd.nn, .string nd.tx, .int .u64 nd.s0, .int .u64 nd.s1, .int .u64 nd.s2, .int .u64 nd.s3] 62)).alloc (.cells #[.bool false, .bool false, .int .i64 0, .int .i64 0] 33)).alloc (.cells #[.bool false, .bool false, .int .i64 0, .int .i64 0] 33) = w4) from hw4.symm)
  have h4 : D6 w w4 (.slice A gn c) nd e0 := by rw [hw4]; exact D6.of (D5.start w _ nd)
  have HE5 := (show Hid ((((w4.setCell ⟨w.heap.size + 3, 0, none⟩ (.bool false)).setCell ⟨w.heap.size + 3, 1, none⟩ (.bool false)).setCell ⟨w.heap.size + 3, 2, none⟩ (.int .i64 0)).setCell ⟨w.heap.size + 3, 3, none⟩ (.int .i64 0) = w4) from h4.same0)
  obtain ⟨w6, hw6⟩ : ∃ w6, w6 = (((w4.setCell ⟨w.heap.size + 3, 0, none⟩ (.bool xn)).setCell ⟨w.heap.size + 3, 1, none⟩ (.bool xc)).setCell ⟨w.heap.size + 3, 2, none⟩ (.int .i64 xl)).setCell ⟨w.heap.size + 3, 3, none⟩ (.int .i64 xm) := ⟨_, rfl⟩
  have HE6 := (show Hid ((((w4.setCell ⟨w.heap.size + 3, 0, none⟩ (.bool xn)).setCell ⟨w.heap.size + 3, 1, none⟩ (.bool xc)).setCell ⟨w.heap.size + 3, 2, none⟩ (.int .i64 xl)).setCell ⟨w.heap.size + 3, 3, none⟩ (.int .i64 xm) = w6) from hw6.symm)
  have h6 : D6 w w6 (.slice A gn c) nd ⟨xn, xc, xl, xm⟩ := by rw [hw6]; exact h4.put ⟨xn, xc, xl, xm⟩
  have H6 := (show Hid (D6 w w6 (.slice A gn c) nd ⟨xn, xc, xl, xm⟩) from h6)
  have a0 : w4.cell? ⟨w.heap.size + 3, 0, none⟩ = some (.bool false) := h4.a.eb.c0
  have a1 : w4.cell? ⟨w.heap.size + 3, 1, none⟩ = some (.bool false) := h4.a.eb.c1
  have a2 : w4.cell? ⟨w.heap.size + 3, 2, none⟩ = some (.int .i64 0) := h4.a.eb.c2
  have a3 : w4.cell? ⟨w.heap.size + 3, 3, none⟩ = some (.int .i64 0) := h4.a.eb.c3
  have b0 := h4.a.fz 0
  have b1 := h4.a.fz 1
  have b2 := h4.a.fz 2
  have b3 := h4.a.fz 3
  obtain ⟨k0, k1, k2, k3⟩ := hx0.same (h4.b.block g lg)
  simp only at k0 k1 k2 k3
  have n0 : w6.cell? ⟨w.heap.size + 1, 0, none⟩ = some (.int .i64 nd.op) := h6.n.nb.c0
  have n1 : w6.cell? ⟨w.heap.size + 1, 1, none⟩ = some (.int .i64 nd.nn) := h6.n.nb.c1
  have HR := (show Hid _ from h6.ret (⟨true, xc, 0, 0⟩))
  have f0 := H6.out.z.fz 0
  have f1 := H6.out.z.fz 1
  have f2 := H6.out.z.fz 2
  have f3 := H6.out.z.fz 3
  have z0 : w6.cell? ⟨w.heap.size + 2, 0, none⟩ = some (.bool false) := H6.out.z.eb.c0
  have z1 : w6.cell? ⟨w.heap.size + 2, 1, none⟩ = some (.bool false) := H6.out.z.eb.c1
  have z2 : w6.cell? ⟨w.heap.size + 2, 2, none⟩ = some (.int .i64 0) := H6.out.z.eb.c2
  have z3 : w6.cell? ⟨w.heap.size + 2, 3, none⟩ = some (.int .i64 0) := H6.out.z.eb.c3
  have x0 : w6.cell? ⟨w.heap.size + 3, 0, none⟩ = some (.bool xn) := H6.out.a.eb.c0
  have x1 : w6.cell? ⟨w.heap.size + 3, 1, none⟩ = some (.bool xc) := H6.out.a.eb.c1
  have x2 : w6.cell? ⟨w.heap.size + 3, 2, none⟩ = some (.int .i64 xl) := H6.out.a.eb.c2
  have x3 : w6.cell? ⟨w.heap.size + 3, 3, none⟩ = some (.int .i64 xm) := H6.out.a.eb.c3
  clear hw4 hw6 h4 h6 hEB hx0 lg hp
  go_enter Tryz.func47, Tryz.ntmps47
  go_wp2_with (first | rw [HE4.out] | rw [HE5.out] | rw [HE6.out])
  refine ret_ex (s := 8) (k := w.heap.size + 2) (e := ⟨true, xc, 0, 0⟩) (by rfl) (by rfl) (by rfl) HR.out.1 ?_
  exact ⟨rfl, HR.out.2⟩
set_option maxRecDepth 100000 in
set_option maxHeartbeats 16000000 in
theorem nodeD_13 {x : Em} (nd : Nd) (A Ak An : Option Addr) (gn c ck nn cn : Nat) (ho : nd.op = 13) (w : World) (hp : RdE w Ak [x]) : Calls Tryz.prog 47 #[.agg #[.slice A gn c], ndG nd, .slice Ak 1 ck, .slice An nn cn] w fun e w' => e = .returned (emG ⟨true, true, 0, 0⟩) ∧ Below w.heap.size w w' := by
  have t1 : (nd.op == 1) = false := by rw [beq_eq_false_iff_ne]; omega
  have t17 : (nd.op == 17) = false := by rw [beq_eq_false_iff_ne]; omega
  have t14 : (nd.op == 14) = false := by rw [beq_eq_false_iff_ne]; omega
  have t16 : (nd.op == 16) = false := by rw [beq_eq_false_iff_ne]; omega
  have t9 : (nd.op == 9) = false := by rw [beq_eq_false_iff_ne]; omega
  have t15 : (nd.op == 15) = false := by rw [beq_eq_false_iff_ne]; omega
  have t2 : (nd.op == 2) = false := by rw [beq_eq_false_iff_ne]; omega
  have t3 : (nd.op == 3) = false := by rw [beq_eq_false_iff_ne]; omega
  have t5 : (nd.op == 5) = false := by rw [beq_eq_false_iff_ne]; omega
  have t4 : (nd.op == 4) = false := by rw [beq_eq_false_iff_ne]; omega
  have t6 : (nd.op == 6) = false := by rw [beq_eq_false_iff_ne]; omega
  have t7 : (nd.op == 7) = false := by rw [beq_eq_false_iff_ne]; omega
  have t8 : (nd.op == 8) = false := by rw [beq_eq_false_iff_ne]; omega
  have t10 : (nd.op == 10) = false := by rw [beq_eq_false_iff_ne]; omega
  have t11 : (nd.op == 11) = false := by rw [beq_eq_false_iff_ne]; omega
  have t12 : (nd.op == 12) = false := by rw [beq_eq_false_iff_ne]; omega
  have t13 : (nd.op == 13) = true := by rw [ho]; rfl
  clear ho
  obtain ⟨g, o, rfl, lg, hEB⟩ := hp (by simp)
  have hx0 := hEB 0 x rfl
  rw [Nat.zero_mul, Nat.add_zero] at hx0
  obtain ⟨xn, xc, xl, xm⟩ := x
  obtain ⟨w4, hw4⟩ : ∃ w4, w4 = (((w.alloc (.cells #[.slice A gn c] 24)).alloc (.cells #[.int .i64 nd.op, .int .i64 nd.nn, .string nd.tx, .int .u64 nd.s0, .int .u64 nd.s1, .int .u64 nd.s2, .int .u64 nd.s3] 62)).alloc (.cells #[.bool false, .bool false, .int .i64 0, .int .i64 0] 33)).alloc (.cells #[.bool false, .bool false, .int .i64 0, .int .i64 0] 33) := ⟨_, rfl⟩
  have HE4 := (show Hid ((((w.alloc (.cells #[.slice A gn c] 24)).alloc (.cells #[.int .i64 nd.op, .int .i64 nd.nn, .string nd.tx, .int .u64 nd.s0, .int .u64 nd.s1, .int .u64 nd.s2, .int .u64 nd.s3] 62)).alloc (.cells #[.bool false, .bool false, .int .i64 0, .int .i64 0] 33)).alloc (.cells #[.bool false, .bool false, .int .i64 0, .int .i64 0] 33) = w4) from hw4.symm)
  have h4 : D6 w w4 (.slice A gn c) nd e0 := by rw [hw4]; exact D6.of (D5.start w _ nd)
  have HE5 := (show Hid ((((w4.setCell ⟨w.heap.size + 3, 0, none⟩ (.bool false)).setCell ⟨w.heap.size + 3, 1, none⟩ (.bool false)).setCell ⟨w.heap.size + 3, 2, none⟩ (.int .i64 0)).setCell ⟨w.heap.size + 3, 3, none⟩ (.int .i64 0) = w4) from h4.same0)
  obtain ⟨w6, hw6⟩ : ∃ w6, w6 = (((w4.setCell ⟨w.heap.size + 3, 0, none⟩ (.bool xn)).setCell ⟨w.heap.size + 3, 1, none⟩ (.bool xc)).setCell ⟨w.heap.size + 3, 2, none⟩ (.int .i64 xl)).setCell ⟨w.heap.size + 3, 3, none⟩ (.int .i64 xm) := ⟨_, rfl⟩
  have HE6 := (show Hid ((((w4.setCell ⟨w.heap.size + 3, 0, none⟩ (.bool xn)).setCell ⟨w.heap.size + 3, 1, none⟩ (.bool xc)).setCell ⟨w.heap.size + 3, 2, none⟩ (.int .i64 xl)).setCell ⟨w.heap.size + 3, 3, none⟩ (.int .i64 xm) = w6) from hw6.symm)
  have h6 : D6 w w6 (.slice A gn c) nd ⟨xn, xc, xl, xm⟩ := by rw [hw6]; exact h4.put ⟨xn, xc, xl, xm⟩
  have H6 := (show Hid (D6 w w6 (.slice A gn c) nd ⟨xn, xc, xl, xm⟩) from h6)
  have a0 : w4.cell? ⟨w.heap.size + 3, 0, none⟩ = some (.bool false) := h4.a.eb.c0
  have a1 : w4.cell? ⟨w.heap.size + 3, 1, none⟩ = some (.bool false) := h4.a.eb.c1
  have a2 : w4.cell? ⟨w.heap.size + 3, 2, none⟩ = some (.int .i64 0) := h4.a.eb.c2
  have a3 : w4.cell? ⟨w.heap.size + 3, 3, none⟩ = some (.int .i64 0) := h4.a.eb.c3
  have b0 := h4.a.fz 0
  have b1 := h4.a.fz 1
  have b2 := h4.a.fz 2
  have b3 := h4.a.fz 3
  obtain ⟨k0, k1, k2, k3⟩ := hx0.same (h4.b.block g lg)
  simp only at k0 k1 k2 k3
  have n0 : w6.cell? ⟨w.heap.size + 1, 0, none⟩ = some (.int .i64 nd.op) := h6.n.nb.c0
  have n1 : w6.cell? ⟨w.heap.size + 1, 1, none⟩ = some (.int .i64 nd.nn) := h6.n.nb.c1
  have HR := (show Hid _ from h6.ret (⟨true, true, 0, 0⟩))
  have f0 := H6.out.z.fz 0
  have f1 := H6.out.z.fz 1
  have f2 := H6.out.z.fz 2
  have f3 := H6.out.z.fz 3
  have z0 : w6.cell? ⟨w.heap.size + 2, 0, none⟩ = some (.bool false) := H6.out.z.eb.c0
  have z1 : w6.cell? ⟨w.heap.size + 2, 1, none⟩ = some (.bool false) := H6.out.z.eb.c1
  have z2 : w6.cell? ⟨w.heap.size + 2, 2, none⟩ = some (.int .i64 0) := H6.out.z.eb.c2
  have z3 : w6.cell? ⟨w.heap.size + 2, 3, none⟩ = some (.int .i64 0) := H6.out.z.eb.c3
  have x0 : w6.cell? ⟨w.heap.size + 3, 0, none⟩ = some (.bool xn) := H6.out.a.eb.c0
  have x1 : w6.cell? ⟨w.heap.size + 3, 1, none⟩ = some (.bool xc) := H6.out.a.eb.c1
  have x2 : w6.cell? ⟨w.heap.size + 3, 2, none⟩ = some (.int .i64 xl) := H6.out.a.eb.c2
  have x3 : w6.cell? ⟨w.heap.size + 3, 3, none⟩ = some (.int .i64 xm) := H6.out.a.eb.c3
  clear hw4 hw6 h4 h6 hEB hx0 lg hp
  go_enter Tryz.func47, Tryz.ntmps47
  go_wp2_with (first | rw [HE4.out] | rw [HE5.out] | rw [HE6.out])
  refine ret_ex (s := 8) (k := w.heap.size + 2) (e := ⟨true, true, 0, 0⟩) (by rfl) (by rfl) (by rfl) HR.out.1 ?_
  exact ⟨rfl, HR.out.2⟩
set_option maxRecDepth 100000 in
set_option maxHeartbeats 16000000 in
theorem nodeD_14z {x : Em} (nd : Nd) (A Ak An : Option Addr) (gn c ck nn cn : Nat) (ho : nd.op = 14) (hz : nd.nn = 0) (w : World) (hp : RdE w Ak [x]) : Calls Tryz.prog 47 #[.agg #[.slice A gn c], ndG nd, .slice Ak 1 ck, .slice An nn cn] w fun e w' => e = .returned (emG nothE) ∧ Below w.heap.size w w' := by
  have tn : (nd.nn == 0) = true := by rw [hz]; rfl
  clear hz
  have t1 : (nd.op == 1) = false := by rw [beq_eq_false_iff_ne]; omega
  have t17 : (nd.op == 17) = false := by rw [beq_eq_false_iff_ne]; omega
  have t14 : (nd.op == 14) = true := by rw [ho]; rfl
  have t16 : (nd.op == 16) = false := by rw [beq_eq_false_iff_ne]; omega
  have t9 : (nd.op == 9) = false := by rw [beq_eq_false_iff_ne]; omega
  have t15 : (nd.op == 15) = false := by rw [beq_eq_false_iff_ne]; omega
  have t2 : (nd.op == 2) = false := by rw [beq_eq_false_iff_ne]; omega
  have t3 : (nd.op == 3) = false := by rw [beq_eq_false_iff_ne]; omega
  have t5 : (nd.op == 5) = false := by rw [beq_eq_false_iff_ne]; omega
  have t4 : (nd.op == 4) = false := by rw [beq_eq_false_iff_ne]; omega
  have t6 : (nd.op == 6) = false := by rw [beq_eq_false_iff_ne]; omega
  have t7 : (nd.op == 7) = false := by rw [beq_eq_false_iff_ne]; omega
  have t8 : (nd.op == 8) = false := by rw [beq_eq_false_iff_ne]; omega
  have t10 : (nd.op == 10) = false := by rw [beq_eq_false_iff_ne]; omega
  have t11 : (nd.op == 11) = false := by rw [beq_eq_false_iff_ne]; omega
  have t12 : (nd.op == 12) = false := by rw [beq_eq_false_iff_ne]; omega
  have t13 : (nd.op == 13) = false := by rw [beq_eq_false_iff_ne]; omega
  clear ho
  obtain ⟨g, o, rfl, lg, hEB⟩ := hp (by simp)
  have hx0 := hEB 0 x rfl
  rw [Nat.zero_mul, Nat.add_zero] at hx0
  obtain ⟨xn, xc, xl, xm⟩ := x
  obtain ⟨w4, hw4⟩ : ∃ w4, w4 = (((w.alloc (.cells #[.slice A gn c] 24)).alloc (.cells #[.int .i64 nd.op, .int .i64 nd.nn, .string nd.tx, .int .u64 nd.s0, .int .u64 nd.s1, .int .u64 nd.s2, .int .u64 nd.s3] 62)).alloc (.cells #[.bool false, .bool false, .int .i64 0, .int .i64 0] 33)).alloc (.cells #[.bool false, .bool false, .int .i64 0, .int .i64 0] 33) := ⟨_, rfl⟩
  have HE4 := (show Hid ((((w.alloc (.cells #[.slice A gn c] 24)).alloc (.cells #[.int .i64 nd.op, .int .i64 nd.nn, .string nd.tx, .int .u64 nd.s0, .int .u64 nd.s1, .int .u64 nd.s2, .int .u64 nd.s3] 62)).alloc (.cells #[.bool false, .bool false, .int .i64 0, .int .i64 0] 33)).alloc (.cells #[.bool false, .bool false, .int .i64 0, .int .i64 0] 33) = w4) from hw4.symm)
  have h4 : D6 w w4 (.slice A gn c) nd e0 := by rw [hw4]; exact D6.of (D5.start w _ nd)
  have HE5 := (show Hid ((((w4.setCell ⟨w.heap.size + 3, 0, none⟩ (.bool false)).setCell ⟨w.heap.size + 3, 1, none⟩ (.bool false)).setCell ⟨w.heap.size + 3, 2, none⟩ (.int .i64 0)).setCell ⟨w.heap.size + 3, 3, none⟩ (.int .i64 0) = w4) from h4.same0)
  obtain ⟨w6, hw6⟩ : ∃ w6, w6 = (((w4.setCell ⟨w.heap.size + 3, 0, none⟩ (.bool xn)).setCell ⟨w.heap.size + 3, 1, none⟩ (.bool xc)).setCell ⟨w.heap.size + 3, 2, none⟩ (.int .i64 xl)).setCell ⟨w.heap.size + 3, 3, none⟩ (.int .i64 xm) := ⟨_, rfl⟩
  have HE6 := (show Hid ((((w4.setCell ⟨w.heap.size + 3, 0, none⟩ (.bool xn)).setCell ⟨w.heap.size + 3, 1, none⟩ (.bool xc)).setCell ⟨w.heap.size + 3, 2, none⟩ (.int .i64 xl)).setCell ⟨w.heap.size + 3, 3, none⟩ (.int .i64 xm) = w6) from hw6.symm)
  have h6 : D6 w w6 (.slice A gn c) nd ⟨xn, xc, xl, xm⟩ := by rw [hw6]; exact h4.put ⟨xn, xc, xl, xm⟩
  have H6 := (show Hid (D6 w w6 (.slice A gn c) nd ⟨xn, xc, xl, xm⟩) from h6)
  have a0 : w4.cell? ⟨w.heap.size + 3, 0, none⟩ = some (.bool false) := h4.a.eb.c0
  have a1 : w4.cell? ⟨w.heap.size + 3, 1, none⟩ = some (.bool false) := h4.a.eb.c1
  have a2 : w4.cell? ⟨w.heap.size + 3, 2, none⟩ = some (.int .i64 0) := h4.a.eb.c2
  have a3 : w4.cell? ⟨w.heap.size + 3, 3, none⟩ = some (.int .i64 0) := h4.a.eb.c3
  have b0 := h4.a.fz 0
  have b1 := h4.a.fz 1
  have b2 := h4.a.fz 2
  have b3 := h4.a.fz 3
  obtain ⟨k0, k1, k2, k3⟩ := hx0.same (h4.b.block g lg)
  simp only at k0 k1 k2 k3
  have n0 : w6.cell? ⟨w.heap.size + 1, 0, none⟩ = some (.int .i64 nd.op) := h6.n.nb.c0
  have n1 : w6.cell? ⟨w.heap.size + 1, 1, none⟩ = some (.int .i64 nd.nn) := h6.n.nb.c1
  have HR := (show Hid _ from h6.ret (nothE))
  have f0 := H6.out.z.fz 0
  have f1 := H6.out.z.fz 1
  have f2 := H6.out.z.fz 2
  have f3 := H6.out.z.fz 3
  have z0 : w6.cell? ⟨w.heap.size + 2, 0, none⟩ = some (.bool false) := H6.out.z.eb.c0
  have z1 : w6.cell? ⟨w.heap.size + 2, 1, none⟩ = some (.bool false) := H6.out.z.eb.c1
  have z2 : w6.cell? ⟨w.heap.size + 2, 2, none⟩ = some (.int .i64 0) := H6.out.z.eb.c2
  have z3 : w6.cell? ⟨w.heap.size + 2, 3, none⟩ = some (.int .i64 0) := H6.out.z.eb.c3
  have x0 : w6.cell? ⟨w.heap.size + 3, 0, none⟩ = some (.bool xn) := H6.out.a.eb.c0
  have x1 : w6.cell? ⟨w.heap.size + 3, 1, none⟩ = some (.bool xc) := H6.out.a.eb.c1
  have x2 : w6.cell? ⟨w.heap.size + 3, 2, none⟩ = some (.int .i64 xl) := H6.out.a.eb.c2
  have x3 : w6.cell? ⟨w.heap.size + 3, 3, none⟩ = some (.int .i64 xm) := H6.out.a.eb.c3
  clear hw4 hw6 h4 h6 hEB hx0 lg hp
  go_enter Tryz.func47, Tryz.ntmps47
  go_wp2_with (first | rw [HE4.out] | rw [HE5.out] | rw [HE6.out])
  refine ret_ex (s := 8) (k := w.heap.size + 2) (e := nothE) (by rfl) (by rfl) (by rfl) HR.out.1 ?_
  exact ⟨rfl, HR.out.2⟩
set_option maxRecDepth 100000 in
set_option maxHeartbeats 16000000 in
theorem nodeD_16z {x : Em} (nd : Nd) (A Ak An : Option Addr) (gn c ck nn cn : Nat) (ho : nd.op = 16) (hz : nd.nn = 0) (w : World) (hp : RdE w Ak [x]) : Calls Tryz.prog 47 #[.agg #[.slice A gn c], ndG nd, .slice Ak 1 ck, .slice An nn cn] w fun e w' => e = .returned (emG nothE) ∧ Below w.heap.size w w' := by
  have tn : (nd.nn == 0) = true := by rw [hz]; rfl
  clear hz
  have t1 : (nd.op == 1) = false := by rw [beq_eq_false_iff_ne]; omega
  have t17 : (nd.op == 17) = false := by rw [beq_eq_false_iff_ne]; omega
  have t14 : (nd.op == 14) = false := by rw [beq_eq_false_iff_ne]; omega
  have t16 : (nd.op == 16) = true := by rw [ho]; rfl
  have t9 : (nd.op == 9) = false := by rw [beq_eq_false_iff_ne]; omega
  have t15 : (nd.op == 15) = false := by rw [beq_eq_false_iff_ne]; omega
  have t2 : (nd.op == 2) = false := by rw [beq_eq_false_iff_ne]; omega
  have t3 : (nd.op == 3) = false := by rw [beq_eq_false_iff_ne]; omega
  have t5 : (nd.op == 5) = false := by rw [beq_eq_false_iff_ne]; omega
  have t4 : (nd.op == 4) = false := by rw [beq_eq_false_iff_ne]; omega
  have t6 : (nd.op == 6) = false := by rw [beq_eq_false_iff_ne]; omega
  have t7 : (nd.op == 7) = false := by rw [beq_eq_false_iff_ne]; omega
  have t8 : (nd.op == 8) = false := by rw [beq_eq_false_iff_ne]; omega
  have t10 : (nd.op == 10) = false := by rw [beq_eq_false_iff_ne]; omega
  have t11 : (nd.op == 11) = false := by rw [beq_eq_false_iff_ne]; omega
  have t12 : (nd.op == 12) = false := by rw [beq_eq_false_iff_ne]; omega
  have t13 : (nd.op == 13) = false := by rw [beq_eq_false_iff_ne]; omega
  clear ho
  obtain ⟨g, o, rfl, lg, hEB⟩ := hp (by simp)
  have hx0 := hEB 0 x rfl
  rw [Nat.zero_mul, Nat.add_zero] at hx0
  obtain ⟨xn, xc, xl, xm⟩ := x
  obtain ⟨w4, hw4⟩ : ∃ w4, w4 = (((w.alloc (.cells #[.slice A gn c] 24)).alloc (.cells #[.int .i64 nd.op, .int .i64 nd.nn, .string nd.tx, .int .u64 nd.s0, .int .u64 nd.s1, .int .u64 nd.s2, .int .u64 nd.s3] 62)).alloc (.cells #[.bool false, .bool false, .int .i64 0, .int .i64 0] 33)).alloc (.cells #[.bool false, .bool false, .int .i64 0, .int .i64 0] 33) := ⟨_, rfl⟩
  have HE4 := (show Hid ((((w.alloc (.cells #[.slice A gn c] 24)).alloc (.cells #[.int .i64 nd.op, .int .i64 nd.nn, .string nd.tx, .int .u64 nd.s0, .int .u64 nd.s1, .int .u64 nd.s2, .int .u64 nd.s3] 62)).alloc (.cells #[.bool false, .bool false, .int .i64 0, .int .i64 0] 33)).alloc (.cells #[.bool false, .bool false, .int .i64 0, .int .i64 0] 33) = w4) from hw4.symm)
  have h4 : D6 w w4 (.slice A gn c) nd e0 := by rw [hw4]; exact D6.of (D5.start w _ nd)
  have HE5 := (show Hid ((((w4.setCell ⟨w.heap.size + 3, 0, none⟩ (.bool false)).setCell ⟨w.heap.size + 3, 1, none⟩ (.bool false)).setCell ⟨w.heap.size + 3, 2, none⟩ (.int .i64 0)).setCell ⟨w.heap.size + 3, 3, none⟩ (.int .i64 0) = w4) from h4.same0)
  obtain ⟨w6, hw6⟩ : ∃ w6, w6 = (((w4.setCell ⟨w.heap.size + 3, 0, none⟩ (.bool xn)).setCell ⟨w.heap.size + 3, 1, none⟩ (.bool xc)).setCell ⟨w.heap.size + 3, 2, none⟩ (.int .i64 xl)).setCell ⟨w.heap.size + 3, 3, none⟩ (.int .i64 xm) := ⟨_, rfl⟩
  have HE6 := (show Hid ((((w4.setCell ⟨w.heap.size + 3, 0, none⟩ (.bool xn)).setCell ⟨w.heap.size + 3, 1, none⟩ (.bool xc)).setCell ⟨w.heap.size + 3, 2, none⟩ (.int .i64 xl)).setCell ⟨w.heap.size + 3, 3, none⟩ (.int .i64 xm) = w6) from hw6.symm)
  have h6 : D6 w w6 (.slice A gn c) nd ⟨xn, xc, xl, xm⟩ := by rw [hw6]; exact h4.put ⟨xn, xc, xl, xm⟩
  have H6 := (show Hid (D6 w w6 (.slice A gn c) nd ⟨xn, xc, xl, xm⟩) from h6)
  have a0 : w4.cell? ⟨w.heap.size + 3, 0, none⟩ = some (.bool false) := h4.a.eb.c0
  have a1 : w4.cell? ⟨w.heap.size + 3, 1, none⟩ = some (.bool false) := h4.a.eb.c1
  have a2 : w4.cell? ⟨w.heap.size + 3, 2, none⟩ = some (.int .i64 0) := h4.a.eb.c2
  have a3 : w4.cell? ⟨w.heap.size + 3, 3, none⟩ = some (.int .i64 0) := h4.a.eb.c3
  have b0 := h4.a.fz 0
  have b1 := h4.a.fz 1
  have b2 := h4.a.fz 2
  have b3 := h4.a.fz 3
  obtain ⟨k0, k1, k2, k3⟩ := hx0.same (h4.b.block g lg)
  simp only at k0 k1 k2 k3
  have n0 : w6.cell? ⟨w.heap.size + 1, 0, none⟩ = some (.int .i64 nd.op) := h6.n.nb.c0
  have n1 : w6.cell? ⟨w.heap.size + 1, 1, none⟩ = some (.int .i64 nd.nn) := h6.n.nb.c1
  have HR := (show Hid _ from h6.ret (nothE))
  have f0 := H6.out.z.fz 0
  have f1 := H6.out.z.fz 1
  have f2 := H6.out.z.fz 2
  have f3 := H6.out.z.fz 3
  have z0 : w6.cell? ⟨w.heap.size + 2, 0, none⟩ = some (.bool false) := H6.out.z.eb.c0
  have z1 : w6.cell? ⟨w.heap.size + 2, 1, none⟩ = some (.bool false) := H6.out.z.eb.c1
  have z2 : w6.cell? ⟨w.heap.size + 2, 2, none⟩ = some (.int .i64 0) := H6.out.z.eb.c2
  have z3 : w6.cell? ⟨w.heap.size + 2, 3, none⟩ = some (.int .i64 0) := H6.out.z.eb.c3
  have x0 : w6.cell? ⟨w.heap.size + 3, 0, none⟩ = some (.bool xn) := H6.out.a.eb.c0
  have x1 : w6.cell? ⟨w.heap.size + 3, 1, none⟩ = some (.bool xc) := H6.out.a.eb.c1
  have x2 : w6.cell? ⟨w.heap.size + 3, 2, none⟩ = some (.int .i64 xl) := H6.out.a.eb.c2
  have x3 : w6.cell? ⟨w.heap.size + 3, 3, none⟩ = some (.int .i64 xm) := H6.out.a.eb.c3
  clear hw4 hw6 h4 h6 hEB hx0 lg hp
  go_enter Tryz.func47, Tryz.ntmps47
  go_wp2_with (first | rw [HE4.out] | rw [HE5.out] | rw [HE6.out])
  refine ret_ex (s := 8) (k := w.heap.size + 2) (e := nothE) (by rfl) (by rfl) (by rfl) HR.out.1 ?_
  exact ⟨rfl, HR.out.2⟩
set_option maxRecDepth 100000 in
set_option maxHeartbeats 16000000 in
theorem nodeD_18 {x : Em} (nd : Nd) (A Ak An : Option Addr) (gn c ck nn cn : Nat) (ho : nd.op = 18) (w : World) (hp : RdE w Ak [x]) : Calls Tryz.prog 47 #[.agg #[.slice A gn c], ndG nd, .slice Ak 1 ck, .slice An nn cn] w fun e w' => e = .returned (emG x) ∧ Below w.heap.size w w' := by
  have t1 : (nd.op == 1) = false := by rw [beq_eq_false_iff_ne]; omega
  have t17 : (nd.op == 17) = false := by rw [beq_eq_false_iff_ne]; omega
  have t14 : (nd.op == 14) = false := by rw [beq_eq_false_iff_ne]; omega
  have t16 : (nd.op == 16) = false := by rw [beq_eq_false_iff_ne]; omega
  have t9 : (nd.op == 9) = false := by rw [beq_eq_false_iff_ne]; omega
  have t15 : (nd.op == 15) = false := by rw [beq_eq_false_iff_ne]; omega
  have t2 : (nd.op == 2) = false := by rw [beq_eq_false_iff_ne]; omega
  have t3 : (nd.op == 3) = false := by rw [beq_eq_false_iff_ne]; omega
  have t5 : (nd.op == 5) = false := by rw [beq_eq_false_iff_ne]; omega
  have t4 : (nd.op == 4) = false := by rw [beq_eq_false_iff_ne]; omega
  have t6 : (nd.op == 6) = false := by rw [beq_eq_false_iff_ne]; omega
  have t7 : (nd.op == 7) = false := by rw [beq_eq_false_iff_ne]; omega
  have t8 : (nd.op == 8) = false := by rw [beq_eq_false_iff_ne]; omega
  have t10 : (nd.op == 10) = false := by rw [beq_eq_false_iff_ne]; omega
  have t11 : (nd.op == 11) = false := by rw [beq_eq_false_iff_ne]; omega
  have t12 : (nd.op == 12) = false := by rw [beq_eq_false_iff_ne]; omega
  have t13 : (nd.op == 13) = false := by rw [beq_eq_false_iff_ne]; omega
  clear ho
  obtain ⟨g, o, rfl, lg, hEB⟩ := hp (by simp)
  have hx0 := hEB 0 x rfl
  rw [Nat.zero_mul, Nat.add_zero] at hx0
  obtain ⟨xn, xc, xl, xm⟩ := x
  obtain ⟨w4, hw4⟩ : ∃ w4, w4 = (((w.alloc (.cells #[.slice A gn c] 24)).alloc (.cells #[.int .i64 nd.op, .int .i64 nd.nn, .string nd.tx, .int .u64 nd.s0, .int .u64 nd.s1, .int .u64 nd.s2, .int .u64 nd.s3] 62)).alloc (.cells #[.bool false, .bool false, .int .i64 0, .int .i64 0] 33)).alloc (.cells #[.bool false, .bool false, .int .i64 0, .int .i64 0] 33) := ⟨_, rfl⟩
  have HE4 := (show Hid ((((w.alloc (.cells #[.slice A gn c] 24)).alloc (.cells #[.int .i64 nd.op, .int .i64 nd.nn, .string nd.tx, .int .u64 nd.s0, .int .u64 nd.s1, .int .u64 nd.s2, .int .u64 nd.s3] 62)).alloc (.cells #[.bool false, .bool false, .int .i64 0, .int .i64 0] 33)).alloc (.cells #[.bool false, .bool false, .int .i64 0, .int .i64 0] 33) = w4) from hw4.symm)
  have h4 : D6 w w4 (.slice A gn c) nd e0 := by rw [hw4]; exact D6.of (D5.start w _ nd)
  have HE5 := (show Hid ((((w4.setCell ⟨w.heap.size + 3, 0, none⟩ (.bool false)).setCell ⟨w.heap.size + 3, 1, none⟩ (.bool false)).setCell ⟨w.heap.size + 3, 2, none⟩ (.int .i64 0)).setCell ⟨w.heap.size + 3, 3, none⟩ (.int .i64 0) = w4) from h4.same0)
  obtain ⟨w6, hw6⟩ : ∃ w6, w6 = (((w4.setCell ⟨w.heap.size + 3, 0, none⟩ (.bool xn)).setCell ⟨w.heap.size + 3, 1, none⟩ (.bool xc)).setCell ⟨w.heap.size + 3, 2, none⟩ (.int .i64 xl)).setCell ⟨w.heap.size + 3, 3, none⟩ (.int .i64 xm) := ⟨_, rfl⟩
  have HE6 := (show Hid ((((w4.setCell ⟨w.heap.size + 3, 0, none⟩ (.bool xn)).setCell ⟨w.heap.size + 3, 1, none⟩ (.bool xc)).setCell ⟨w.heap.size + 3, 2, none⟩ (.int .i64 xl)).setCell ⟨w.heap.size + 3, 3, none⟩ (.int .i64 xm) = w6) from hw6.symm)
  have h6 : D6 w w6 (.slice A gn c) nd ⟨xn, xc, xl, xm⟩ := by rw [hw6]; exact h4.put ⟨xn, xc, xl, xm⟩
  have H6 := (show Hid (D6 w w6 (.slice A gn c) nd ⟨xn, xc, xl, xm⟩) from h6)
  have a0 : w4.cell? ⟨w.heap.size + 3, 0, none⟩ = some (.bool false) := h4.a.eb.c0
  have a1 : w4.cell? ⟨w.heap.size + 3, 1, none⟩ = some (.bool false) := h4.a.eb.c1
  have a2 : w4.cell? ⟨w.heap.size + 3, 2, none⟩ = some (.int .i64 0) := h4.a.eb.c2
  have a3 : w4.cell? ⟨w.heap.size + 3, 3, none⟩ = some (.int .i64 0) := h4.a.eb.c3
  have b0 := h4.a.fz 0
  have b1 := h4.a.fz 1
  have b2 := h4.a.fz 2
  have b3 := h4.a.fz 3
  obtain ⟨k0, k1, k2, k3⟩ := hx0.same (h4.b.block g lg)
  simp only at k0 k1 k2 k3
  have n0 : w6.cell? ⟨w.heap.size + 1, 0, none⟩ = some (.int .i64 nd.op) := h6.n.nb.c0
  have n1 : w6.cell? ⟨w.heap.size + 1, 1, none⟩ = some (.int .i64 nd.nn) := h6.n.nb.c1
  have HR := (show Hid _ from h6.ret (⟨xn, xc, xl, xm⟩))
  have f0 := H6.out.z.fz 0
  have f1 := H6.out.z.fz 1
  have f2 := H6.out.z.fz 2
  have f3 := H6.out.z.fz 3
  have z0 : w6.cell? ⟨w.heap.size + 2, 0, none⟩ = some (.bool false) := H6.out.z.eb.c0
  have z1 : w6.cell? ⟨w.heap.size + 2, 1, none⟩ = some (.bool false) := H6.out.z.eb.c1
  have z2 : w6.cell? ⟨w.heap.size + 2, 2, none⟩ = some (.int .i64 0) := H6.out.z.eb.c2
  have z3 : w6.cell? ⟨w.heap.size + 2, 3, none⟩ = some (.int .i64 0) := H6.out.z.eb.c3
  have x0 : w6.cell? ⟨w.heap.size + 3, 0, none⟩ = some (.bool xn) := H6.out.a.eb.c0
  have x1 : w6.cell? ⟨w.heap.size + 3, 1, none⟩ = some (.bool xc) := H6.out.a.eb.c1
  have x2 : w6.cell? ⟨w.heap.size + 3, 2, none⟩ = some (.int .i64 xl) := H6.out.a.eb.c2
  have x3 : w6.cell? ⟨w.heap.size + 3, 3, none⟩ = some (.int .i64 xm) := H6.out.a.eb.c3
  clear hw4 hw6 h4 h6 hEB hx0 lg hp
  go_enter Tryz.func47, Tryz.ntmps47
  go_wp2_with (first | rw [HE4.out] | rw [HE5.out] | rw [HE6.out])
  refine ret_ex (s := 8) (k := w.heap.size + 2) (e := ⟨xn, xc, xl, xm⟩) (by rfl) (by rfl) (by rfl) HR.out.1 ?_
  exact ⟨rfl, HR.out.2⟩
set_option maxRecDepth 100000 in
set_option maxHeartbeats 16000000 in
theorem nodeD_19 {x : Em} (nd : Nd) (A Ak An : Option Addr) (gn c ck nn cn : Nat) (ho : nd.op = 19) (w : World) (hp : RdE w Ak [x]) : Calls Tryz.prog 47 #[.agg #[.slice A gn c], ndG nd, .slice Ak 1 ck, .slice An nn cn] w fun e w' => e = .returned (emG x) ∧ Below w.heap.size w w' := by
  have t1 : (nd.op == 1) = false := by rw [beq_eq_false_iff_ne]; omega
  have t17 : (nd.op == 17) = false := by rw [beq_eq_false_iff_ne]; omega
  have t14 : (nd.op == 14) = false := by rw [beq_eq_false_iff_ne]; omega
  have t16 : (nd.op == 16) = false := by rw [beq_eq_false_iff_ne]; omega
  have t9 : (nd.op == 9) = false := by rw [beq_eq_false_iff_ne]; omega
  have t15 : (nd.op == 15) = false := by rw [beq_eq_false_iff_ne]; omega
  have t2 : (nd.op == 2) = false := by rw [beq_eq_false_iff_ne]; omega
  have t3 : (nd.op == 3) = false := by rw [beq_eq_false_iff_ne]; omega
  have t5 : (nd.op == 5) = false := by rw [beq_eq_false_iff_ne]; omega
  have t4 : (nd.op == 4) = false := by rw [beq_eq_false_iff_ne]; omega
  have t6 : (nd.op == 6) = false := by rw [beq_eq_false_iff_ne]; omega
  have t7 : (nd.op == 7) = false := by rw [beq_eq_false_iff_ne]; omega
  have t8 : (nd.op == 8) = false := by rw [beq_eq_false_iff_ne]; omega
  have t10 : (nd.op == 10) = false := by rw [beq_eq_false_iff_ne]; omega
  have t11 : (nd.op == 11) = false := by rw [beq_eq_false_iff_ne]; omega
  have t12 : (nd.op == 12) = false := by rw [beq_eq_false_iff_ne]; omega
  have t13 : (nd.op == 13) = false := by rw [beq_eq_false_iff_ne]; omega
  clear ho
  obtain ⟨g, o, rfl, lg, hEB⟩ := hp (by simp)
  have hx0 := hEB 0 x rfl
  rw [Nat.zero_mul, Nat.add_zero] at hx0
  obtain ⟨xn, xc, xl, xm⟩ := x
  obtain ⟨w4, hw4⟩ : ∃ w4, w4 = (((w.alloc (.cells #[.slice A gn c] 24)).alloc (.cells #[.int .i64 nd.op, .int .i64 nd.nn, .string nd.tx, .int .u64 nd.s0, .int .u64 nd.s1, .int .u64 nd.s2, .int .u64 nd.s3] 62)).alloc (.cells #[.bool false, .bool false, .int .i64 0, .int .i64 0] 33)).alloc (.cells #[.bool false, .bool false, .int .i64 0, .int .i64 0] 33) := ⟨_, rfl⟩
  have HE4 := (show Hid ((((w.alloc (.cells #[.slice A gn c] 24)).alloc (.cells #[.int .i64 nd.op, .int .i64 nd.nn, .string nd.tx, .int .u64 nd.s0, .int .u64 nd.s1, .int .u64 nd.s2, .int .u64 nd.s3] 62)).alloc (.cells #[.bool false, .bool false, .int .i64 0, .int .i64 0] 33)).alloc (.cells #[.bool false, .bool false, .int .i64 0, .int .i64 0] 33) = w4) from hw4.symm)
  have h4 : D6 w w4 (.slice A gn c) nd e0 := by rw [hw4]; exact D6.of (D5.start w _ nd)
  have HE5 := (show Hid ((((w4.setCell ⟨w.heap.size + 3, 0, none⟩ (.bool false)).setCell ⟨w.heap.size + 3, 1, none⟩ (.bool false)).setCell ⟨w.heap.size + 3, 2, none⟩ (.int .i64 0)).setCell ⟨w.heap.size + 3, 3, none⟩ (.int .i64 0) = w4) from h4.same0)
  obtain ⟨w6, hw6⟩ : ∃ w6, w6 = (((w4.setCell ⟨w.heap.size + 3, 0, none⟩ (.bool xn)).setCell ⟨w.heap.size + 3, 1, none⟩ (.bool xc)).setCell ⟨w.heap.size + 3, 2, none⟩ (.int .i64 xl)).setCell ⟨w.heap.size + 3, 3, none⟩ (.int .i64 xm) := ⟨_, rfl⟩
  have HE6 := (show Hid ((((w4.setCell ⟨w.heap.size + 3, 0, none⟩ (.bool xn)).setCell ⟨w.heap.size + 3, 1, none⟩ (.bool xc)).setCell ⟨w.heap.size + 3, 2, none⟩ (.int .i64 xl)).setCell ⟨w.heap.size + 3, 3, none⟩ (.int .i64 xm) = w6) from hw6.symm)
  have h6 : D6 w w6 (.slice A gn c) nd ⟨xn, xc, xl, xm⟩ := by rw [hw6]; exact h4.put ⟨xn, xc, xl, xm⟩
  have H6 := (show Hid (D6 w w6 (.slice A gn c) nd ⟨xn, xc, xl, xm⟩) from h6)
  have a0 : w4.cell? ⟨w.heap.size + 3, 0, none⟩ = some (.bool false) := h4.a.eb.c0
  have a1 : w4.cell? ⟨w.heap.size + 3, 1, none⟩ = some (.bool false) := h4.a.eb.c1
  have a2 : w4.cell? ⟨w.heap.size + 3, 2, none⟩ = some (.int .i64 0) := h4.a.eb.c2
  have a3 : w4.cell? ⟨w.heap.size + 3, 3, none⟩ = some (.int .i64 0) := h4.a.eb.c3
  have b0 := h4.a.fz 0
  have b1 := h4.a.fz 1
  have b2 := h4.a.fz 2
  have b3 := h4.a.fz 3
  obtain ⟨k0, k1, k2, k3⟩ := hx0.same (h4.b.block g lg)
  simp only at k0 k1 k2 k3
  have n0 : w6.cell? ⟨w.heap.size + 1, 0, none⟩ = some (.int .i64 nd.op) := h6.n.nb.c0
  have n1 : w6.cell? ⟨w.heap.size + 1, 1, none⟩ = some (.int .i64 nd.nn) := h6.n.nb.c1
  have HR := (show Hid _ from h6.ret (⟨xn, xc, xl, xm⟩))
  have f0 := H6.out.z.fz 0
  have f1 := H6.out.z.fz 1
  have f2 := H6.out.z.fz 2
  have f3 := H6.out.z.fz 3
  have z0 : w6.cell? ⟨w.heap.size + 2, 0, none⟩ = some (.bool false) := H6.out.z.eb.c0
  have z1 : w6.cell? ⟨w.heap.size + 2, 1, none⟩ = some (.bool false) := H6.out.z.eb.c1
  have z2 : w6.cell? ⟨w.heap.size + 2, 2, none⟩ = some (.int .i64 0) := H6.out.z.eb.c2
  have z3 : w6.cell? ⟨w.heap.size + 2, 3, none⟩ = some (.int .i64 0) := H6.out.z.eb.c3
  have x0 : w6.cell? ⟨w.heap.size + 3, 0, none⟩ = some (.bool xn) := H6.out.a.eb.c0
  have x1 : w6.cell? ⟨w.heap.size + 3, 1, none⟩ = some (.bool xc) := H6.out.a.eb.c1
  have x2 : w6.cell? ⟨w.heap.size + 3, 2, none⟩ = some (.int .i64 xl) := H6.out.a.eb.c2
  have x3 : w6.cell? ⟨w.heap.size + 3, 3, none⟩ = some (.int .i64 xm) := H6.out.a.eb.c3
  clear hw4 hw6 h4 h6 hEB hx0 lg hp
  go_enter Tryz.func47, Tryz.ntmps47
  go_wp2_with (first | rw [HE4.out] | rw [HE5.out] | rw [HE6.out])
  refine ret_ex (s := 8) (k := w.heap.size + 2) (e := ⟨xn, xc, xl, xm⟩) (by rfl) (by rfl) (by rfl) HR.out.1 ?_
  exact ⟨rfl, HR.out.2⟩
set_option maxRecDepth 100000 in
set_option maxHeartbeats 16000000 in
theorem nodeD_20 {x : Em} (nd : Nd) (A Ak An : Option Addr) (gn c ck nn cn : Nat) (ho : nd.op = 20) (w : World) (hp : RdE w Ak [x]) : Calls Tryz.prog 47 #[.agg #[.slice A gn c], ndG nd, .slice Ak 1 ck, .slice An nn cn] w fun e w' => e = .returned (emG x) ∧ Below w.heap.size w w' := by
  have t1 : (nd.op == 1) = false := by rw [beq_eq_false_iff_ne]; omega
  have t17 : (nd.op == 17) = false := by rw [beq_eq_false_iff_ne]; omega
  have t14 : (nd.op == 14) = false := by rw [beq_eq_false_iff_ne]; omega
  have t16 : (nd.op == 16) = false := by rw [beq_eq_false_iff_ne]; omega
  have t9 : (nd.op == 9) = false := by rw [beq_eq_false_iff_ne]; omega
  have t15 : (nd.op == 15) = false := by rw [beq_eq_false_iff_ne]; omega
  have t2 : (nd.op == 2) = false := by rw [beq_eq_false_iff_ne]; omega
  have t3 : (nd.op == 3) = false := by rw [beq_eq_false_iff_ne]; omega
  have t5 : (nd.op == 5) = false := by rw [beq_eq_false_iff_ne]; omega
  have t4 : (nd.op == 4) = false := by rw [beq_eq_false_iff_ne]; omega
  have t6 : (nd.op == 6) = false := by rw [beq_eq_false_iff_ne]; omega
  have t7 : (nd.op == 7) = false := by rw [beq_eq_false_iff_ne]; omega
  have t8 : (nd.op == 8) = false := by rw [beq_eq_false_iff_ne]; omega
  have t10 : (nd.op == 10) = false := by rw [beq_eq_false_iff_ne]; omega
  have t11 : (nd.op == 11) = false := by rw [beq_eq_false_iff_ne]; omega
  have t12 : (nd.op == 12) = false := by rw [beq_eq_false_iff_ne]; omega
  have t13 : (nd.op == 13) = false := by rw [beq_eq_false_iff_ne]; omega
  clear ho
  obtain ⟨g, o, rfl, lg, hEB⟩ := hp (by simp)
  have hx0 := hEB 0 x rfl
  rw [Nat.zero_mul, Nat.add_zero] at hx0
  obtain ⟨xn, xc, xl, xm⟩ := x
  obtain ⟨w4, hw4⟩ : ∃ w4, w4 = (((w.alloc (.cells #[.slice A gn c] 24)).alloc (.cells #[.int .i64 nd.op, .int .i64 nd.nn, .string nd.tx, .int .u64 nd.s0, .int .u64 nd.s1, .int .u64 nd.s2, .int .u64 nd.s3] 62)).alloc (.cells #[.bool false, .bool false, .int .i64 0, .int .i64 0] 33)).alloc (.cells #[.bool false, .bool false, .int .i64 0, .int .i64 0] 33) := ⟨_, rfl⟩
  have HE4 := (show Hid ((((w.alloc (.cells #[.slice A gn c] 24)).alloc (.cells #[.int .i64 nd.op, .int .i64 nd.nn, .string nd.tx, .int .u64 nd.s0, .int .u64 nd.s1, .int .u64 nd.s2, .int .u64 nd.s3] 62)).alloc (.cells #[.bool false, .bool false, .int .i64 0, .int .i64 0] 33)).alloc (.cells #[.bool false, .bool false, .int .i64 0, .int .i64 0] 33) = w4) from hw4.symm)
  have h4 : D6 w w4 (.slice A gn c) nd e0 := by rw [hw4]; exact D6.of (D5.start w _ nd)
  have HE5 := (show Hid ((((w4.setCell ⟨w.heap.size + 3, 0, none⟩ (.bool false)).setCell ⟨w.heap.size + 3, 1, none⟩ (.bool false)).setCell ⟨w.heap.size + 3, 2, none⟩ (.int .i64 0)).setCell ⟨w.heap.size + 3, 3, none⟩ (.int .i64 0) = w4) from h4.same0)
  obtain ⟨w6, hw6⟩ : ∃ w6, w6 = (((w4.setCell ⟨w.heap.size + 3, 0, none⟩ (.bool xn)).setCell ⟨w.heap.size + 3, 1, none⟩ (.bool xc)).setCell ⟨w.heap.size + 3, 2, none⟩ (.int .i64 xl)).setCell ⟨w.heap.size + 3, 3, none⟩ (.int .i64 xm) := ⟨_, rfl⟩
  have HE6 := (show Hid ((((w4.setCell ⟨w.heap.size + 3, 0, none⟩ (.bool xn)).setCell ⟨w.heap.size + 3, 1, none⟩ (.bool xc)).setCell ⟨w.heap.size + 3, 2, none⟩ (.int .i64 xl)).setCell ⟨w.heap.size + 3, 3, none⟩ (.int .i64 xm) = w6) from hw6.symm)
  have h6 : D6 w w6 (.slice A gn c) nd ⟨xn, xc, xl, xm⟩ := by rw [hw6]; exact h4.put ⟨xn, xc, xl, xm⟩
  have H6 := (show Hid (D6 w w6 (.slice A gn c) nd ⟨xn, xc, xl, xm⟩) from h6)
  have a0 : w4.cell? ⟨w.heap.size + 3, 0, none⟩ = some (.bool false) := h4.a.eb.c0
  have a1 : w4.cell? ⟨w.heap.size + 3, 1, none⟩ = some (.bool false) := h4.a.eb.c1
  have a2 : w4.cell? ⟨w.heap.size + 3, 2, none⟩ = some (.int .i64 0) := h4.a.eb.c2
  have a3 : w4.cell? ⟨w.heap.size + 3, 3, none⟩ = some (.int .i64 0) := h4.a.eb.c3
  have b0 := h4.a.fz 0
  have b1 := h4.a.fz 1
  have b2 := h4.a.fz 2
  have b3 := h4.a.fz 3
  obtain ⟨k0, k1, k2, k3⟩ := hx0.same (h4.b.block g lg)
  simp only at k0 k1 k2 k3
  have n0 : w6.cell? ⟨w.heap.size + 1, 0, none⟩ = some (.int .i64 nd.op) := h6.n.nb.c0
  have n1 : w6.cell? ⟨w.heap.size + 1, 1, none⟩ = some (.int .i64 nd.nn) := h6.n.nb.c1
  have HR := (show Hid _ from h6.ret (⟨xn, xc, xl, xm⟩))
  have f0 := H6.out.z.fz 0
  have f1 := H6.out.z.fz 1
  have f2 := H6.out.z.fz 2
  have f3 := H6.out.z.fz 3
  have z0 : w6.cell? ⟨w.heap.size + 2, 0, none⟩ = some (.bool false) := H6.out.z.eb.c0
  have z1 : w6.cell? ⟨w.heap.size + 2, 1, none⟩ = some (.bool false) := H6.out.z.eb.c1
  have z2 : w6.cell? ⟨w.heap.size + 2, 2, none⟩ = some (.int .i64 0) := H6.out.z.eb.c2
  have z3 : w6.cell? ⟨w.heap.size + 2, 3, none⟩ = some (.int .i64 0) := H6.out.z.eb.c3
  have x0 : w6.cell? ⟨w.heap.size + 3, 0, none⟩ = some (.bool xn) := H6.out.a.eb.c0
  have x1 : w6.cell? ⟨w.heap.size + 3, 1, none⟩ = some (.bool xc) := H6.out.a.eb.c1
  have x2 : w6.cell? ⟨w.heap.size + 3, 2, none⟩ = some (.int .i64 xl) := H6.out.a.eb.c2
  have x3 : w6.cell? ⟨w.heap.size + 3, 3, none⟩ = some (.int .i64 xm) := H6.out.a.eb.c3
  clear hw4 hw6 h4 h6 hEB hx0 lg hp
  go_enter Tryz.func47, Tryz.ntmps47
  go_wp2_with (first | rw [HE4.out] | rw [HE5.out] | rw [HE6.out])
  refine ret_ex (s := 8) (k := w.heap.size + 2) (e := ⟨xn, xc, xl, xm⟩) (by rfl) (by rfl) (by rfl) HR.out.1 ?_
  exact ⟨rfl, HR.out.2⟩
set_option maxRecDepth 100000 in
set_option maxHeartbeats 16000000 in
theorem nodeD_21 {x : Em} (nd : Nd) (A Ak An : Option Addr) (gn c ck nn cn : Nat) (ho : nd.op = 21) (w : World) (hp : RdE w Ak [x]) : Calls Tryz.prog 47 #[.agg #[.slice A gn c], ndG nd, .slice Ak 1 ck, .slice An nn cn] w fun e w' => e = .returned (emG x) ∧ Below w.heap.size w w' := by
  have t1 : (nd.op == 1) = false := by rw [beq_eq_false_iff_ne]; omega
  have t17 : (nd.op == 17) = false := by rw [beq_eq_false_iff_ne]; omega
  have t14 : (nd.op == 14) = false := by rw [beq_eq_false_iff_ne]; omega
  have t16 : (nd.op == 16) = false := by rw [beq_eq_false_iff_ne]; omega
  have t9 : (nd.op == 9) = false := by rw [beq_eq_false_iff_ne]; omega
  have t15 : (nd.op == 15) = false := by rw [beq_eq_false_iff_ne]; omega
  have t2 : (nd.op == 2) = false := by rw [beq_eq_false_iff_ne]; omega
  have t3 : (nd.op == 3) = false := by rw [beq_eq_false_iff_ne]; omega
  have t5 : (nd.op == 5) = false := by rw [beq_eq_false_iff_ne]; omega
  have t4 : (nd.op == 4) = false := by rw [beq_eq_false_iff_ne]; omega
  have t6 : (nd.op == 6) = false := by rw [beq_eq_false_iff_ne]; omega
  have t7 : (nd.op == 7) = false := by rw [beq_eq_false_iff_ne]; omega
  have t8 : (nd.op == 8) = false := by rw [beq_eq_false_iff_ne]; omega
  have t10 : (nd.op == 10) = false := by rw [beq_eq_false_iff_ne]; omega
  have t11 : (nd.op == 11) = false := by rw [beq_eq_false_iff_ne]; omega
  have t12 : (nd.op == 12) = false := by rw [beq_eq_false_iff_ne]; omega
  have t13 : (nd.op == 13) = false := by rw [beq_eq_false_iff_ne]; omega
  clear ho
  obtain ⟨g, o, rfl, lg, hEB⟩ := hp (by simp)
  have hx0 := hEB 0 x rfl
  rw [Nat.zero_mul, Nat.add_zero] at hx0
  obtain ⟨xn, xc, xl, xm⟩ := x
  obtain ⟨w4, hw4⟩ : ∃ w4, w4 = (((w.alloc (.cells #[.slice A gn c] 24)).alloc (.cells #[.int .i64 nd.op, .int .i64 nd.nn, .string nd.tx, .int .u64 nd.s0, .int .u64 nd.s1, .int .u64 nd.s2, .int .u64 nd.s3] 62)).alloc (.cells #[.bool false, .bool false, .int .i64 0, .int .i64 0] 33)).alloc (.cells #[.bool false, .bool false, .int .i64 0, .int .i64 0] 33) := ⟨_, rfl⟩
  have HE4 := (show Hid ((((w.alloc (.cells #[.slice A gn c] 24)).alloc (.cells #[.int .i64 nd.op, .int .i64 nd.nn, .string nd.tx, .int .u64 nd.s0, .int .u64 nd.s1, .int .u64 nd.s2, .int .u64 nd.s3] 62)).alloc (.cells #[.bool false, .bool false, .int .i64 0, .int .i64 0] 33)).alloc (.cells #[.bool false, .bool false, .int .i64 0, .int .i64 0] 33) = w4) from hw4.symm)
  have h4 : D6 w w4 (.slice A gn c) nd e0 := by rw [hw4]; exact D6.of (D5.start w _ nd)
  have HE5 := (show Hid ((((w4.setCell ⟨w.heap.size + 3, 0, none⟩ (.bool false)).setCell ⟨w.heap.size + 3, 1, none⟩ (.bool false)).setCell ⟨w.heap.size + 3, 2, none⟩ (.int .i64 0)).setCell ⟨w.heap.size + 3, 3, none⟩ (.int .i64 0) = w4) from h4.same0)
  obtain ⟨w6, hw6⟩ : ∃ w6, w6 = (((w4.setCell ⟨w.heap.size + 3, 0, none⟩ (.bool xn)).setCell ⟨w.heap.size + 3, 1, none⟩ (.bool xc)).setCell ⟨w.heap.size + 3, 2, none⟩ (.int .i64 xl)).setCell ⟨w.heap.size + 3, 3, none⟩ (.int .i64 xm) := ⟨_, rfl⟩
  have HE6 := (show Hid ((((w4.setCell ⟨w.heap.size + 3, 0, none⟩ (.bool xn)).setCell ⟨w.heap.size + 3, 1, none⟩ (.bool xc)).setCell ⟨w.heap.size + 3, 2, none⟩ (.int .i64 xl)).setCell ⟨w.heap.size + 3, 3, none⟩ (.int .i64 xm) = w6) from hw6.symm)
  have h6 : D6 w w6 (.slice A gn c) nd ⟨xn, xc, xl, xm⟩ := by rw [hw6]; exact h4.put ⟨xn, xc, xl, xm⟩
  have H6 := (show Hid (D6 w w6 (.slice A gn c) nd ⟨xn, xc, xl, xm⟩) from h6)
  have a0 : w4.cell? ⟨w.heap.size + 3, 0, none⟩ = some (.bool false) := h4.a.eb.c0
  have a1 : w4.cell? ⟨w.heap.size + 3, 1, none⟩ = some (.bool false) := h4.a.eb.c1
  have a2 : w4.cell? ⟨w.heap.size + 3, 2, none⟩ = some (.int .i64 0) := h4.a.eb.c2
  have a3 : w4.cell? ⟨w.heap.size + 3, 3, none⟩ = some (.int .i64 0) := h4.a.eb.c3
  have b0 := h4.a.fz 0
  have b1 := h4.a.fz 1
  have b2 := h4.a.fz 2
  have b3 := h4.a.fz 3
  obtain ⟨k0, k1, k2, k3⟩ := hx0.same (h4.b.block g lg)
  simp only at k0 k1 k2 k3
  have n0 : w6.cell? ⟨w.heap.size + 1, 0, none⟩ = some (.int .i64 nd.op) := h6.n.nb.c0
  have n1 : w6.cell? ⟨w.heap.size + 1, 1, none⟩ = some (.int .i64 nd.nn) := h6.n.nb.c1
  have HR := (show Hid _ from h6.ret (⟨xn, xc, xl, xm⟩))
  have f0 := H6.out.z.fz 0
  have f1 := H6.out.z.fz 1
  have f2 := H6.out.z.fz 2
  have f3 := H6.out.z.fz 3
  have z0 : w6.cell? ⟨w.heap.size + 2, 0, none⟩ = some (.bool false) := H6.out.z.eb.c0
  have z1 : w6.cell? ⟨w.heap.size + 2, 1, none⟩ = some (.bool false) := H6.out.z.eb.c1
  have z2 : w6.cell? ⟨w.heap.size + 2, 2, none⟩ = some (.int .i64 0) := H6.out.z.eb.c2
  have z3 : w6.cell? ⟨w.heap.size + 2, 3, none⟩ = some (.int .i64 0) := H6.out.z.eb.c3
  have x0 : w6.cell? ⟨w.heap.size + 3, 0, none⟩ = some (.bool xn) := H6.out.a.eb.c0
  have x1 : w6.cell? ⟨w.heap.size + 3, 1, none⟩ = some (.bool xc) := H6.out.a.eb.c1
  have x2 : w6.cell? ⟨w.heap.size + 3, 2, none⟩ = some (.int .i64 xl) := H6.out.a.eb.c2
  have x3 : w6.cell? ⟨w.heap.size + 3, 3, none⟩ = some (.int .i64 xm) := H6.out.a.eb.c3
  clear hw4 hw6 h4 h6 hEB hx0 lg hp
  go_enter Tryz.func47, Tryz.ntmps47
  go_wp2_with (first | rw [HE4.out] | rw [HE5.out] | rw [HE6.out])
  refine ret_ex (s := 8) (k := w.heap.size + 2) (e := ⟨xn, xc, xl, xm⟩) (by rfl) (by rfl) (by rfl) HR.out.1 ?_
  exact ⟨rfl, HR.out.2⟩
set_option maxRecDepth 100000 in
set_option maxHeartbeats 16000000 in
theorem nodeD_22 {x : Em} (nd : Nd) (A Ak An : Option Addr) (gn c ck nn cn : Nat) (ho : nd.op = 22) (w : World) (hp : RdE w Ak [x]) : Calls Tryz.prog 47 #[.agg #[.slice A gn c], ndG nd, .slice Ak 1 ck, .slice An nn cn] w fun e w' => e = .returned (emG x) ∧ Below w.heap.size w w' := by
  have t1 : (nd.op == 1) = false := by rw [beq_eq_false_iff_ne]; omega
  have t17 : (nd.op == 17) = false := by rw [beq_eq_false_iff_ne]; omega
  have t14 : (nd.op == 14) = false := by rw [beq_eq_false_iff_ne]; omega
  have t16 : (nd.op == 16) = false := by rw [beq_eq_false_iff_ne]; omega
  have t9 : (nd.op == 9) = false := by rw [beq_eq_false_iff_ne]; omega
  have t15 : (nd.op == 15) = false := by rw [beq_eq_false_iff_ne]; omega
  have t2 : (nd.op == 2) = false := by rw [beq_eq_false_iff_ne]; omega
  have t3 : (nd.op == 3) = false := by rw [beq_eq_false_iff_ne]; omega
  have t5 : (nd.op == 5) = false := by rw [beq_eq_false_iff_ne]; omega
  have t4 : (nd.op == 4) = false := by rw [beq_eq_false_iff_ne]; omega
  have t6 : (nd.op == 6) = false := by rw [beq_eq_false_iff_ne]; omega
  have t7 : (nd.op == 7) = false := by rw [beq_eq_false_iff_ne]; omega
  have t8 : (nd.op == 8) = false := by rw [beq_eq_false_iff_ne]; omega
  have t10 : (nd.op == 10) = false := by rw [beq_eq_false_iff_ne]; omega
  have t11 : (nd.op == 11) = false := by rw [beq_eq_false_iff_ne]; omega
  have t12 : (nd.op == 12) = false := by rw [beq_eq_false_iff_ne]; omega
  have t13 : (nd.op == 13) = false := by rw [beq_eq_false_iff_ne]; omega
  clear ho
  obtain ⟨g, o, rfl, lg, hEB⟩ := hp (by simp)
  have hx0 := hEB 0 x rfl
  rw [Nat.zero_mul, Nat.add_zero] at hx0
  obtain ⟨xn, xc, xl, xm⟩ := x
  obtain ⟨w4, hw4⟩ : ∃ w4, w4 = (((w.alloc (.cells #[.slice A gn c] 24)).alloc (.cells #[.int .i64 nd.op, .int .i64 nd.nn, .string nd.tx, .int .u64 nd.s0, .int .u64 nd.s1, .int .u64 nd.s2, .int .u64 nd.s3] 62)).alloc (.cells #[.bool false, .bool false, .int .i64 0, .int .i64 0] 33)).alloc (.cells #[.bool false, .bool false, .int .i64 0, .int .i64 0] 33) := ⟨_, rfl⟩
  have HE4 := (show Hid ((((w.alloc (.cells #[.slice A gn c] 24)).alloc (.cells #[.int .i64 nd.op, .int .i64 nd.nn, .string nd.tx, .int .u64 nd.s0, .int .u64 nd.s1, .int .u64 nd.s2, .int .u64 nd.s3] 62)).alloc (.cells #[.bool false, .bool false, .int .i64 0, .int .i64 0] 33)).alloc (.cells #[.bool false, .bool false, .int .i64 0, .int .i64 0] 33) = w4) from hw4.symm)
  have h4 : D6 w w4 (.slice A gn c) nd e0 := by rw [hw4]; exact D6.of (D5.start w _ nd)
  have HE5 := (show Hid ((((w4.setCell ⟨w.heap.size + 3, 0, none⟩ (.bool false)).setCell ⟨w.heap.size + 3, 1, none⟩ (.bool false)).setCell ⟨w.heap.size + 3, 2, none⟩ (.int .i64 0)).setCell ⟨w.heap.size + 3, 3, none⟩ (.int .i64 0) = w4) from h4.same0)
  obtain ⟨w6, hw6⟩ : ∃ w6, w6 = (((w4.setCell ⟨w.heap.size + 3, 0, none⟩ (.bool xn)).setCell ⟨w.heap.size + 3, 1, none⟩ (.bool xc)).setCell ⟨w.heap.size + 3, 2, none⟩ (.int .i64 xl)).setCell ⟨w.heap.size + 3, 3, none⟩ (.int .i64 xm) := ⟨_, rfl⟩
  have HE6 := (show Hid ((((w4.setCell ⟨w.heap.size + 3, 0, none⟩ (.bool xn)).setCell ⟨w.heap.size + 3, 1, none⟩ (.bool xc)).setCell ⟨w.heap.size + 3, 2, none⟩ (.int .i64 xl)).setCell ⟨w.heap.size + 3, 3, none⟩ (.int .i64 xm) = w6) from hw6.symm)
  have h6 : D6 w w6 (.slice A gn c) nd ⟨xn, xc, xl, xm⟩ := by rw [hw6]; exact h4.put ⟨xn, xc, xl, xm⟩
  have H6 := (show Hid (D6 w w6 (.slice A gn c) nd ⟨xn, xc, xl, xm⟩) from h6)
  have a0 : w4.cell? ⟨w.heap.size + 3, 0, none⟩ = some (.bool false) := h4.a.eb.c0
  have a1 : w4.cell? ⟨w.heap.size + 3, 1, none⟩ = some (.bool false) := h4.a.eb.c1
  have a2 : w4.cell? ⟨w.heap.size + 3, 2, none⟩ = some (.int .i64 0) := h4.a.eb.c2
  have a3 : w4.cell? ⟨w.heap.size + 3, 3, none⟩ = some (.int .i64 0) := h4.a.eb.c3
  have b0 := h4.a.fz 0
  have b1 := h4.a.fz 1
  have b2 := h4.a.fz 2
  have b3 := h4.a.fz 3
  obtain ⟨k0, k1, k2, k3⟩ := hx0.same (h4.b.block g lg)
  simp only at k0 k1 k2 k3
  have n0 : w6.cell? ⟨w.heap.size + 1, 0, none⟩ = some (.int .i64 nd.op) := h6.n.nb.c0
  have n1 : w6.cell? ⟨w.heap.size + 1, 1, none⟩ = some (.int .i64 nd.nn) := h6.n.nb.c1
  have HR := (show Hid _ from h6.ret (⟨xn, xc, xl, xm⟩))
  have f0 := H6.out.z.fz 0
  have f1 := H6.out.z.fz 1
  have f2 := H6.out.z.fz 2
  have f3 := H6.out.z.fz 3
  have z0 : w6.cell? ⟨w.heap.size + 2, 0, none⟩ = some (.bool false) := H6.out.z.eb.c0
  have z1 : w6.cell? ⟨w.heap.size + 2, 1, none⟩ = some (.bool false) := H6.out.z.eb.c1
  have z2 : w6.cell? ⟨w.heap.size + 2, 2, none⟩ = some (.int .i64 0) := H6.out.z.eb.c2
  have z3 : w6.cell? ⟨w.heap.size + 2, 3, none⟩ = some (.int .i64 0) := H6.out.z.eb.c3
  have x0 : w6.cell? ⟨w.heap.size + 3, 0, none⟩ = some (.bool xn) := H6.out.a.eb.c0
  have x1 : w6.cell? ⟨w.heap.size + 3, 1, none⟩ = some (.bool xc) := H6.out.a.eb.c1
  have x2 : w6.cell? ⟨w.heap.size + 3, 2, none⟩ = some (.int .i64 xl) := H6.out.a.eb.c2
  have x3 : w6.cell? ⟨w.heap.size + 3, 3, none⟩ = some (.int .i64 xm) := H6.out.a.eb.c3
  clear hw4 hw6 h4 h6 hEB hx0 lg hp
  go_enter Tryz.func47, Tryz.ntmps47
  go_wp2_with (first | rw [HE4.out] | rw [HE5.out] | rw [HE6.out])
  refine ret_ex (s := 8) (k := w.heap.size + 2) (e := ⟨xn, xc, xl, xm⟩) (by rfl) (by rfl) (by rfl) HR.out.1 ?_
  exact ⟨rfl, HR.out.2⟩
set_option maxRecDepth 100000 in
set_option maxHeartbeats 16000000 in
theorem nodeD_23 {x : Em} (nd : Nd) (A Ak An : Option Addr) (gn c ck nn cn : Nat) (ho : nd.op = 23) (w : World) (hp : RdE w Ak [x]) : Calls Tryz.prog 47 #[.agg #[.slice A gn c], ndG nd, .slice Ak 1 ck, .slice An nn cn] w fun e w' => e = .returned (emG x) ∧ Below w.heap.size w w' := by
  have t1 : (nd.op == 1) = false := by rw [beq_eq_false_iff_ne]; omega
  have t17 : (nd.op == 17) = false := by rw [beq_eq_false_iff_ne]; omega
  have t14 : (nd.op == 14) = false := by rw [beq_eq_false_iff_ne]; omega
  have t16 : (nd.op == 16) = false := by rw [beq_eq_false_iff_ne]; omega
  have t9 : (nd.op == 9) = false := by rw [beq_eq_false_iff_ne]; omega
  have t15 : (nd.op == 15) = false := by rw [beq_eq_false_iff_ne]; omega
  have t2 : (nd.op == 2) = false := by rw [beq_eq_false_iff_ne]; omega
  have t3 : (nd.op == 3) = false := by rw [beq_eq_false_iff_ne]; omega
  have t5 : (nd.op == 5) = false := by rw [beq_eq_false_iff_ne]; omega
  have t4 : (nd.op == 4) = false := by rw [beq_eq_false_iff_ne]; omega
  have t6 : (nd.op == 6) = false := by rw [beq_eq_false_iff_ne]; omega
  have t7 : (nd.op == 7) = false := by rw [beq_eq_false_iff_ne]; omega
  have t8 : (nd.op == 8) = false := by rw [beq_eq_false_iff_ne]; omega
  have t10 : (nd.op == 10) = false := by rw [beq_eq_false_iff_ne]; omega
  have t11 : (nd.op == 11) = false := by rw [beq_eq_false_iff_ne]; omega
  have t12 : (nd.op == 12) = false := by rw [beq_eq_false_iff_ne]; omega
  have t13 : (nd.op == 13) = false := by rw [beq_eq_false_iff_ne]; omega
  clear ho
  obtain ⟨g, o, rfl, lg, hEB⟩ := hp (by simp)
  have hx0 := hEB 0 x rfl
  rw [Nat.zero_mul, Nat.add_zero] at hx0
  obtain ⟨xn, xc, xl, xm⟩ := x
  obtain ⟨w4, hw4⟩ : ∃ w4, w4 = (((w.alloc (.cells #[.slice A gn c] 24)).alloc (.cells #[.int .i64 nd.op, .int .i64 nd.nn, .string nd.tx, .int .u64 nd.s0, .int .u64 nd.s1, .int .u64 nd.s2, .int .u64 nd.s3] 62)).alloc (.cells #[.bool false, .bool false, .int .i64 0, .int .i64 0] 33)).alloc (.cells #[.bool false, .bool false, .int .i64 0, .int .i64 0] 33) := ⟨_, rfl⟩
  have HE4 := (show Hid ((((w.alloc (.cells #[.slice A gn c] 24)).alloc (.cells #[.int .i64 nd.op, .int .i64 nd.nn, .string nd.tx, .int .u64 nd.s0, .int .u64 nd.s1, .int .u64 nd.s2, .int .u64 nd.s3] 62)).alloc (.cells #[.bool false, .bool false, .int .i64 0, .int .i64 0] 33)).alloc (.cells #[.bool false, .bool false, .int .i64 0, .int .i64 0] 33) = w4) from hw4.symm)
  have h4 : D6 w w4 (.slice A gn c) nd e0 := by rw [hw4]; exact D6.of (D5.start w _ nd)
  have HE5 := (show Hid ((((w4.setCell ⟨w.heap.size + 3, 0, none⟩ (.bool false)).setCell ⟨w.heap.size + 3, 1, none⟩ (.bool false)).setCell ⟨w.heap.size + 3, 2, none⟩ (.int .i64 0)).setCell ⟨w.heap.size + 3, 3, none⟩ (.int .i64 0) = w4) from h4.same0)
  obtain ⟨w6, hw6⟩ : ∃ w6, w6 = (((w4.setCell ⟨w.heap.size + 3, 0, none⟩ (.bool xn)).setCell ⟨w.heap.size + 3, 1, none⟩ (.bool xc)).setCell ⟨w.heap.size + 3, 2, none⟩ (.int .i64 xl)).setCell ⟨w.heap.size + 3, 3, none⟩ (.int .i64 xm) := ⟨_, rfl⟩
  have HE6 := (show Hid ((((w4.setCell ⟨w.heap.size + 3, 0, none⟩ (.bool xn)).setCell ⟨w.heap.size + 3, 1, none⟩ (.bool xc)).setCell ⟨w.heap.size + 3, 2, none⟩ (.int .i64 xl)).setCell ⟨w.heap.size + 3, 3, none⟩ (.int .i64 xm) = w6) from hw6.symm)
  have h6 : D6 w w6 (.slice A gn c) nd ⟨xn, xc, xl, xm⟩ := by rw [hw6]; exact h4.put ⟨xn, xc, xl, xm⟩
  have H6 := (show Hid (D6 w w6 (.slice A gn c) nd ⟨xn, xc, xl, xm⟩) from h6)
  have a0 : w4.cell? ⟨w.heap.size + 3, 0, none⟩ = some (.bool false) := h4.a.eb.c0
  have a1 : w4.cell? ⟨w.heap.size + 3, 1, none⟩ = some (.bool false) := h4.a.eb.c1
  have a2 : w4.cell? ⟨w.heap.size + 3, 2, none⟩ = some (.int .i64 0) := h4.a.eb.c2
  have a3 : w4.cell? ⟨w.heap.size + 3, 3, none⟩ = some (.int .i64 0) := h4.a.eb.c3
  have b0 := h4.a.fz 0
  have b1 := h4.a.fz 1
  have b2 := h4.a.fz 2
  have b3 := h4.a.fz 3
  obtain ⟨k0, k1, k2, k3⟩ := hx0.same (h4.b.block g lg)
  simp only at k0 k1 k2 k3
  have n0 : w6.cell? ⟨w.heap.size + 1, 0, none⟩ = some (.int .i64 nd.op) := h6.n.nb.c0
  have n1 : w6.cell? ⟨w.heap.size + 1, 1, none⟩ = some (.int .i64 nd.nn) := h6.n.nb.c1
  have HR := (show Hid _ from h6.ret (⟨xn, xc, xl, xm⟩))
  have f0 := H6.out.z.fz 0
  have f1 := H6.out.z.fz 1
  have f2 := H6.out.z.fz 2
  have f3 := H6.out.z.fz 3
  have z0 : w6.cell? ⟨w.heap.size + 2, 0, none⟩ = some (.bool false) := H6.out.z.eb.c0
  have z1 : w6.cell? ⟨w.heap.size + 2, 1, none⟩ = some (.bool false) := H6.out.z.eb.c1
  have z2 : w6.cell? ⟨w.heap.size + 2, 2, none⟩ = some (.int .i64 0) := H6.out.z.eb.c2
  have z3 : w6.cell? ⟨w.heap.size + 2, 3, none⟩ = some (.int .i64 0) := H6.out.z.eb.c3
  have x0 : w6.cell? ⟨w.heap.size + 3, 0, none⟩ = some (.bool xn) := H6.out.a.eb.c0
  have x1 : w6.cell? ⟨w.heap.size + 3, 1, none⟩ = some (.bool xc) := H6.out.a.eb.c1
  have x2 : w6.cell? ⟨w.heap.size + 3, 2, none⟩ = some (.int .i64 xl) := H6.out.a.eb.c2
  have x3 : w6.cell? ⟨w.heap.size + 3, 3, none⟩ = some (.int .i64 xm) := H6.out.a.eb.c3
  clear hw4 hw6 h4 h6 hEB hx0 lg hp
  go_enter Tryz.func47, Tryz.ntmps47
  go_wp2_with (first | rw [HE4.out] | rw [HE5.out] | rw [HE6.out])
  refine ret_ex (s := 8) (k := w.heap.size + 2) (e := ⟨xn, xc, xl, xm⟩) (by rfl) (by rfl) (by rfl) HR.out.1 ?_
  exact ⟨rfl, HR.out.2⟩
set_option maxRecDepth 100000 in
set_option maxHeartbeats 16000000 in
theorem nodeD_9 {x : Em} (nd : Nd) (A Ak An : Option Addr) (gn c ck nn cn : Nat) (ho : nd.op = 9) (w : World) (hp : RdE w Ak [x]) : Calls Tryz.prog 47 #[.agg #[.slice A gn c], ndG nd, .slice Ak 1 ck, .slice An nn cn] w fun e w' => e = .returned (emG (d9 x)) ∧ Below w.heap.size w w' := by
  have t1 : (nd.op == 1) = false := by rw [beq_eq_false_iff_ne]; omega
  have t17 : (nd.op == 17) = false := by rw [beq_eq_false_iff_ne]; omega
  have t14 : (nd.op == 14) = false := by rw [beq_eq_false_iff_ne]; omega
  have t16 : (nd.op == 16) = false := by rw [beq_eq_false_iff_ne]; omega
  have t9 : (nd.op == 9) = true := by rw [ho]; rfl
  have t15 : (nd.op == 15) = false := by rw [beq_eq_false_iff_ne]; omega
  have t2 : (nd.op == 2) = false := by rw [beq_eq_false_iff_ne]; omega
  have t3 : (nd.op == 3) = false := by rw [beq_eq_false_iff_ne]; omega
  have t5 : (nd.op == 5) = false := by rw [beq_eq_false_iff_ne]; omega
  have t4 : (nd.op == 4) = false := by rw [beq_eq_false_iff_ne]; omega
  have t6 : (nd.op == 6) = false := by rw [beq_eq_false_iff_ne]; omega
  have t7 : (nd.op == 7) = false := by rw [beq_eq_false_iff_ne]; omega
  have t8 : (nd.op == 8) = false := by rw [beq_eq_false_iff_ne]; omega
  have t10 : (nd.op == 10) = false := by rw [beq_eq_false_iff_ne]; omega
  have t11 : (nd.op == 11) = false := by rw [beq_eq_false_iff_ne]; omega
  have t12 : (nd.op == 12) = false := by rw [beq_eq_false_iff_ne]; omega
  have t13 : (nd.op == 13) = false := by rw [beq_eq_false_iff_ne]; omega
  clear ho
  obtain ⟨g, o, rfl, lg, hEB⟩ := hp (by simp)
  have hx0 := hEB 0 x rfl
  rw [Nat.zero_mul, Nat.add_zero] at hx0
  obtain ⟨xn, xc, xl, xm⟩ := x
  have H1 := (show Hid (∀ w, Calls Tryz.prog 61 #[.int .i64 xm] w fun e w' => e = .returned (.int .i64 (agE xm)) ∧ w' = w) from fun w => againD_len _ w)
  have HS := (show Hid (d9 ⟨xn, xc, xl, xm⟩ = ⟨true, false, 0, agE xm⟩) from rfl)
  rw [HS.out]
  clear HS
  generalize agE xm = ag at *
  obtain ⟨w4, hw4⟩ : ∃ w4, w4 = (((w.alloc (.cells #[.slice A gn c] 24)).alloc (.cells #[.int .i64 nd.op, .int .i64 nd.nn, .string nd.tx, .int .u64 nd.s0, .int .u64 nd.s1, .int .u64 nd.s2, .int .u64 nd.s3] 62)).alloc (.cells #[.bool false, .bool false, .int .i64 0, .int .i64 0] 33)).alloc (.cells #[.bool false, .bool false, .int .i64 0, .int .i64 0] 33) := ⟨_, rfl⟩
  have HE4 := (show Hid ((((w.alloc (.cells #[.slice A gn c] 24)).alloc (.cells #[.int .i64 nd.op, .int .i64 nd.nn, .string nd.tx, .int .u64 nd.s0, .int .u64 nd.s1, .int .u64 nd.s2, .int .u64 nd.s3] 62)).alloc (.cells #[.bool false, .bool false, .int .i64 0, .int .i64 0] 33)).alloc (.cells #[.bool false, .bool false, .int .i64 0, .int .i64 0] 33) = w4) from hw4.symm)
  have h4 : D6 w w4 (.slice A gn c) nd e0 := by rw [hw4]; exact D6.of (D5.start w _ nd)
  have HE5 := (show Hid ((((w4.setCell ⟨w.heap.size + 3, 0, none⟩ (.bool false)).setCell ⟨w.heap.size + 3, 1, none⟩ (.bool false)).setCell ⟨w.heap.size + 3, 2, none⟩ (.int .i64 0)).setCell ⟨w.heap.size + 3, 3, none⟩ (.int .i64 0) = w4) from h4.same0)
  obtain ⟨w6, hw6⟩ : ∃ w6, w6 = (((w4.setCell ⟨w.heap.size + 3, 0, none⟩ (.bool xn)).setCell ⟨w.heap.size + 3, 1, none⟩ (.bool xc)).setCell ⟨w.heap.size + 3, 2, none⟩ (.int .i64 xl)).setCell ⟨w.heap.size + 3, 3, none⟩ (.int .i64 xm) := ⟨_, rfl⟩
  have HE6 := (show Hid ((((w4.setCell ⟨w.heap.size + 3, 0, none⟩ (.bool xn)).setCell ⟨w.heap.size + 3, 1, none⟩ (.bool xc)).setCell ⟨w.heap.size + 3, 2, none⟩ (.int .i64 xl)).setCell ⟨w.heap.size + 3, 3, none⟩ (.int .i64 xm) = w6) from hw6.symm)
  have h6 : D6 w w6 (.slice A gn c) nd ⟨xn, xc, xl, xm⟩ := by rw [hw6]; exact h4.put ⟨xn, xc, xl, xm⟩
  have H6 := (show Hid (D6 w w6 (.slice A gn c) nd ⟨xn, xc, xl, xm⟩) from h6)
  have a0 : w4.cell? ⟨w.heap.size + 3, 0, none⟩ = some (.bool false) := h4.a.eb.c0
  have a1 : w4.cell? ⟨w.heap.size + 3, 1, none⟩ = some (.bool false) := h4.a.eb.c1
  have a2 : w4.cell? ⟨w.heap.size + 3, 2, none⟩ = some (.int .i64 0) := h4.a.eb.c2
  have a3 : w4.cell? ⟨w.heap.size + 3, 3, none⟩ = some (.int .i64 0) := h4.a.eb.c3
  have b0 := h4.a.fz 0
  have b1 := h4.a.fz 1
  have b2 := h4.a.fz 2
  have b3 := h4.a.fz 3
  obtain ⟨k0, k1, k2, k3⟩ := hx0.same (h4.b.block g lg)
  simp only at k0 k1 k2 k3
  have n0 : w6.cell? ⟨w.heap.size + 1, 0, none⟩ = some (.int .i64 nd.op) := h6.n.nb.c0
  have n1 : w6.cell? ⟨w.heap.size + 1, 1, none⟩ = some (.int .i64 nd.nn) := h6.n.nb.c1
  have HR := (show Hid _ from h6.ret ⟨true, false, 0, ag⟩)
  have f0 := H6.out.z.fz 0
  have f1 := H6.out.z.fz 1
  have f2 := H6.out.z.fz 2
  have f3 := H6.out.z.fz 3
  have z0 : w6.cell? ⟨w.heap.size + 2, 0, none⟩ = some (.bool false) := H6.out.z.eb.c0
  have z1 : w6.cell? ⟨w.heap.size + 2, 1, none⟩ = some (.bool false) := H6.out.z.eb.c1
  have z2 : w6.cell? ⟨w.heap.size + 2, 2, none⟩ = some (.int .i64 0) := H6.out.z.eb.c2
  have z3 : w6.cell? ⟨w.heap.size + 2, 3, none⟩ = some (.int .i64 0) := H6.out.z.eb.c3
  have x0 : w6.cell? ⟨w.heap.size + 3, 0, none⟩ = some (.bool xn) := H6.out.a.eb.c0
  have x1 : w6.cell? ⟨w.heap.size + 3, 1, none⟩ = some (.bool xc) := H6.out.a.eb.c1
  have x2 : w6.cell? ⟨w.heap.size + 3, 2, none⟩ = some (.int .i64 xl) := H6.out.a.eb.c2
  have x3 : w6.cell? ⟨w.heap.size + 3, 3, none⟩ = some (.int .i64 xm) := H6.out.a.eb.c3
  clear hw4 hw6 h4 h6 hEB hx0 lg hp
  go_enter Tryz.func47, Tryz.ntmps47
  go_wp2_with (first | rw [HE4.out] | rw [HE5.out] | rw [HE6.out])
  refine (H1.out _).mono ?_
  rintro e w7 ⟨rfl, rfl⟩
  go_wp2_with fail
  refine ret_ex (s := 8) (k := w.heap.size + 2) (e := ⟨true, false, 0, ag⟩) (by rfl) (by rfl) (by rfl) HR.out.1 ?_
  exact ⟨rfl, HR.out.2⟩
set_option maxRecDepth 100000 in
set_option maxHeartbeats 16000000 in
theorem nodeD_15z {x : Em} (nd : Nd) (A Ak An : Option Addr) (gn c ck nn cn : Nat) (ho : nd.op = 15) (hz : nd.nn = 0) (w : World) (hp : RdE w Ak [x]) : Calls Tryz.prog 47 #[.agg #[.slice A gn c], ndG nd, .slice Ak 1 ck, .slice An nn cn] w fun e w' => e = .returned (emG (d9 x)) ∧ Below w.heap.size w w' := by
  have tn : (nd.nn == 0) = true := by rw [hz]; rfl
  clear hz
  have t1 : (nd.op == 1) = false := by rw [beq_eq_false_iff_ne]; omega
  have t17 : (nd.op == 17) = false := by rw [beq_eq_false_iff_ne]; omega
  have t14 : (nd.op == 14) = false := by rw [beq_eq_false_iff_ne]; omega
  have t16 : (nd.op == 16) = false := by rw [beq_eq_false_iff_ne]; omega
  have t9 : (nd.op == 9) = false := by rw [beq_eq_false_iff_ne]; omega
  have t15 : (nd.op == 15) = true := by rw [ho]; rfl
  have t2 : (nd.op == 2) = false := by rw [beq_eq_false_iff_ne]; omega
  have t3 : (nd.op == 3) = false := by rw [beq_eq_false_iff_ne]; omega
  have t5 : (nd.op == 5) = false := by rw [beq_eq_false_iff_ne]; omega
  have t4 : (nd.op == 4) = false := by rw [beq_eq_false_iff_ne]; omega
  have t6 : (nd.op == 6) = false := by rw [beq_eq_false_iff_ne]; omega
  have t7 : (nd.op == 7) = false := by rw [beq_eq_false_iff_ne]; omega
  have t8 : (nd.op == 8) = false := by rw [beq_eq_false_iff_ne]; omega
  have t10 : (nd.op == 10) = false := by rw [beq_eq_false_iff_ne]; omega
  have t11 : (nd.op == 11) = false := by rw [beq_eq_false_iff_ne]; omega
  have t12 : (nd.op == 12) = false := by rw [beq_eq_false_iff_ne]; omega
  have t13 : (nd.op == 13) = false := by rw [beq_eq_false_iff_ne]; omega
  clear ho
  obtain ⟨g, o, rfl, lg, hEB⟩ := hp (by simp)
  have hx0 := hEB 0 x rfl
  rw [Nat.zero_mul, Nat.add_zero] at hx0
  obtain ⟨xn, xc, xl, xm⟩ := x
  have H1 := (show Hid (∀ w, Calls Tryz.prog 61 #[.int .i64 xm] w fun e w' => e = .returned (.int .i64 (agE xm)) ∧ w' = w) from fun w => againD_len _ w)
  have HS := (show Hid (d9 ⟨xn, xc, xl, xm⟩ = ⟨true, false, 0, agE xm⟩) from rfl)
  rw [HS.out]
  clear HS
  generalize agE xm = ag at *
  obtain ⟨w4, hw4⟩ : ∃ w4, w4 = (((w.alloc (.cells #[.slice A gn c] 24)).alloc (.cells #[.int .i64 nd.op, .int .i64 nd.nn, .string nd.tx, .int .u64 nd.s0, .int .u64 nd.s1, .int .u64 nd.s2, .int .u64 nd.s3] 62)).alloc (.cells #[.bool false, .bool false, .int .i64 0, .int .i64 0] 33)).alloc (.cells #[.bool false, .bool false, .int .i64 0, .int .i64 0] 33) := ⟨_, rfl⟩
  have HE4 := (show Hid ((((w.alloc (.cells #[.slice A gn c] 24)).alloc (.cells #[.int .i64 nd.op, .int .i64 nd.nn, .string nd.tx, .int .u64 nd.s0, .int .u64 nd.s1, .int .u64 nd.s2, .int .u64 nd.s3] 62)).alloc (.cells #[.bool false, .bool false, .int .i64 0, .int .i64 0] 33)).alloc (.cells #[.bool false, .bool false, .int .i64 0, .int .i64 0] 33) = w4) from hw4.symm)
  have h4 : D6 w w4 (.slice A gn c) nd e0 := by rw [hw4]; exact D6.of (D5.start w _ nd)
  have HE5 := (show Hid ((((w4.setCell ⟨w.heap.size + 3, 0, none⟩ (.bool false)).setCell ⟨w.heap.size + 3, 1, none⟩ (.bool false)).setCell ⟨w.heap.size + 3, 2, none⟩ (.int .i64 0)).setCell ⟨w.heap.size + 3, 3, none⟩ (.int .i64 0) = w4) from h4.same0)
  obtain ⟨w6, hw6⟩ : ∃ w6, w6 = (((w4.setCell ⟨w.heap.size + 3, 0, none⟩ (.bool xn)).setCell ⟨w.heap.size + 3, 1, none⟩ (.bool xc)).setCell ⟨w.heap.size + 3, 2, none⟩ (.int .i64 xl)).setCell ⟨w.heap.size + 3, 3, none⟩ (.int .i64 xm) := ⟨_, rfl⟩
  have HE6 := (show Hid ((((w4.setCell ⟨w.heap.size + 3, 0, none⟩ (.bool xn)).setCell ⟨w.heap.size + 3, 1, none⟩ (.bool xc)).setCell ⟨w.heap.size + 3, 2, none⟩ (.int .i64 xl)).setCell ⟨w.heap.size + 3, 3, none⟩ (.int .i64 xm) = w6) from hw6.symm)
  have h6 : D6 w w6 (.slice A gn c) nd ⟨xn, xc, xl, xm⟩ := by rw [hw6]; exact h4.put ⟨xn, xc, xl, xm⟩
  have H6 := (show Hid (D6 w w6 (.slice A gn c) nd ⟨xn, xc, xl, xm⟩) from h6)
  have a0 : w4.cell? ⟨w.heap.size + 3, 0, none⟩ = some (.bool false) := h4.a.eb.c0
  have a1 : w4.cell? ⟨w.heap.size + 3, 1, none⟩ = some (.bool false) := h4.a.eb.c1
  have a2 : w4.cell? ⟨w.heap.size + 3, 2, none⟩ = some (.int .i64 0) := h4.a.eb.c2
  have a3 : w4.cell? ⟨w.heap.size + 3, 3, none⟩ = some (.int .i64 0) := h4.a.eb.c3
  have b0 := h4.a.fz 0
  have b1 := h4.a.fz 1
  have b2 := h4.a.fz 2
  have b3 := h4.a.fz 3
  obtain ⟨k0, k1, k2, k3⟩ := hx0.same (h4.b.block g lg)
  simp only at k0 k1 k2 k3
  have n0 : w6.cell? ⟨w.heap.size + 1, 0, none⟩ = some (.int .i64 nd.op) := h6.n.nb.c0
  have n1 : w6.cell? ⟨w.heap.size + 1, 1, none⟩ = some (.int .i64 nd.nn) := h6.n.nb.c1
  have HR := (show Hid _ from h6.ret ⟨true, false, 0, ag⟩)
  have f0 := H6.out.z.fz 0
  have f1 := H6.out.z.fz 1
  have f2 := H6.out.z.fz 2
  have f3 := H6.out.z.fz 3
  have z0 : w6.cell? ⟨w.heap.size + 2, 0, none⟩ = some (.bool false) := H6.out.z.eb.c0
  have z1 : w6.cell? ⟨w.heap.size + 2, 1, none⟩ = some (.bool false) := H6.out.z.eb.c1
  have z2 : w6.cell? ⟨w.heap.size + 2, 2, none⟩ = some (.int .i64 0) := H6.out.z.eb.c2
  have z3 : w6.cell? ⟨w.heap.size + 2, 3, none⟩ = some (.int .i64 0) := H6.out.z.eb.c3
  have x0 : w6.cell? ⟨w.heap.size + 3, 0, none⟩ = some (.bool xn) := H6.out.a.eb.c0
  have x1 : w6.cell? ⟨w.heap.size + 3, 1, none⟩ = some (.bool xc) := H6.out.a.eb.c1
  have x2 : w6.cell? ⟨w.heap.size + 3, 2, none⟩ = some (.int .i64 xl) := H6.out.a.eb.c2
  have x3 : w6.cell? ⟨w.heap.size + 3, 3, none⟩ = some (.int .i64 xm) := H6.out.a.eb.c3
  clear hw4 hw6 h4 h6 hEB hx0 lg hp
  go_enter Tryz.func47, Tryz.ntmps47
  go_wp2_with (first | rw [HE4.out] | rw [HE5.out] | rw [HE6.out])
  refine (H1.out _).mono ?_
  rintro e w7 ⟨rfl, rfl⟩
  go_wp2_with fail
  refine ret_ex (s := 8) (k := w.heap.size + 2) (e := ⟨true, false, 0, ag⟩) (by rfl) (by rfl) (by rfl) HR.out.1 ?_
  exact ⟨rfl, HR.out.2⟩
end Go.Proofs.YtokfgoepnfjafaaGreat.N
