/- DERIVED. Plain mathematics and walks, laid together (4). -/
import Derived.Deep.RegionHeld3
import Derived.BigQuiet
import Derived.StillTailTactics
import Derived.Lib.ConvBytes
import Derived.Lib.AtoiErrMem
import Derived.Lib.UnsafeStr
import Derived.Lib.AppendStr
import Derived.Test.YtbnihflihelimaaGreatHa03
namespace Go.Proofs.YtbnihflihelimaaGreat.N
open Go.RowKit Go.Maps
open Go.Proofs.YtbnihflihelimaaGreat.T
theorem i64_fit {a : Int} (h1 : -1 ≤ a) (h2 : a ≤ 104857600) : IntKind.i64.wrap a = a := by rw [IntKind.wrap_i64]; omega
set_option maxRecDepth 100000 in
theorem cutL_any (a : Int) (w : World) : Calls Tryz.prog 121 #[.int .i64 a] w fun e w' => e = .returned (.int .i64 (leC a)) ∧ w' = w := by
  have HE := (show Hid (leC a = if (1048576 : Int) < a then 1048576 else a) from by show leC a = _; unfold leC; split <;> omega)
  by_cases h : (1048576 : Int) < a
  · rw [HE.out, if_pos h]
    clear HE
    go_enter Tryz.func121, Tryz.ntmps121
    go_wp2_with fail
    go_ret
    exact ⟨rfl, rfl⟩
  · rw [HE.out, if_neg h]
    clear HE
    go_enter Tryz.func121, Tryz.ntmps121
    go_wp2_with fail
    go_ret
    exact ⟨rfl, rfl⟩
set_option maxRecDepth 100000 in
theorem cutM_any (a : Int) (w : World) : Calls Tryz.prog 123 #[.int .i64 a] w fun e w' => e = .returned (.int .i64 (moC a)) ∧ w' = w := by
  unfold moC
  by_cases h : (1048576 : Int) < a
  · rw [if_pos h]
    go_enter Tryz.func123, Tryz.ntmps123
    go_wp2_with fail
    go_ret
    exact ⟨rfl, rfl⟩
  · rw [if_neg h]
    go_enter Tryz.func123, Tryz.ntmps123
    go_wp2_with fail
    go_ret
    exact ⟨rfl, rfl⟩
set_option maxRecDepth 100000 in
theorem sum_any (a b : Int) (h1 : -1 ≤ a) (h2 : a ≤ 1048576) (h3 : -1 ≤ b) (h4 : b ≤ 1048576) (w : World) : Calls Tryz.prog 122 #[.int .i64 a, .int .i64 b] w fun e w' => e = .returned (.int .i64 (sumE a b)) ∧ w' = w := by
  by_cases ha : a = -1
  · have HE := (show Hid (sumE a b = -1) from by show sumE a b = -1; unfold sumE; rw [if_pos (.inl ha)])
    rw [HE.out]
    have ta : (a == -1) = true := by rw [ha]; rfl
    clear HE ha
    go_enter Tryz.func122, Tryz.ntmps122
    go_wp2_with fail
    go_ret
    exact ⟨rfl, rfl⟩
  · have ta : (a == -1) = false := by rw [beq_eq_false_iff_ne]; exact ha
    by_cases hb : b = -1
    · have HE := (show Hid (sumE a b = -1) from by show sumE a b = -1; unfold sumE; rw [if_pos (.inr hb)])
      rw [HE.out]
      have tb : (b == -1) = true := by rw [hb]; rfl
      clear HE ha hb
      go_enter Tryz.func122, Tryz.ntmps122
      go_wp2_with fail
      go_ret
      exact ⟨rfl, rfl⟩
    · have HE := (show Hid (sumE a b = a + b) from by show sumE a b = _; unfold sumE; rw [if_neg (by rintro (q | q); exact ha q; exact hb q)])
      rw [HE.out]
      have tb : (b == -1) = false := by rw [beq_eq_false_iff_ne]; exact hb
      have hw : IntKind.i64.wrap (a + b) = a + b := i64_fit (by omega) (by omega)
      clear HE ha hb h1 h2 h3 h4
      go_enter Tryz.func122, Tryz.ntmps122
      go_wp2_with fail
      go_ret
      exact ⟨rfl, rfl⟩
set_option maxRecDepth 100000 in
theorem greater_any (a b : Int) (w : World) : Calls Tryz.prog 125 #[.int .i64 a, .int .i64 b] w fun e w' => e = .returned (.int .i64 (greE a b)) ∧ w' = w := by
  by_cases ha : a = -1
  · have HE := (show Hid (greE a b = -1) from by show greE a b = -1; unfold greE; rw [if_pos (.inl ha)])
    rw [HE.out]
    have ta : (a == -1) = true := by rw [ha]; rfl
    clear HE ha
    go_enter Tryz.func125, Tryz.ntmps125
    go_wp2_with fail
    go_ret
    exact ⟨rfl, rfl⟩
  · have ta : (a == -1) = false := by rw [beq_eq_false_iff_ne]; exact ha
    by_cases hb : b = -1
    · have HE := (show Hid (greE a b = -1) from by show greE a b = -1; unfold greE; rw [if_pos (.inr hb)])
      rw [HE.out]
      have tb : (b == -1) = true := by rw [hb]; rfl
      clear HE ha hb
      go_enter Tryz.func125, Tryz.ntmps125
      go_wp2_with fail
      go_ret
      exact ⟨rfl, rfl⟩
    · have HE := (show Hid (greE a b = max a b) from by show greE a b = _; unfold greE; rw [if_neg (by rintro (q | q); exact ha q; exact hb q)])
      rw [HE.out]
      have tb : (b == -1) = false := by rw [beq_eq_false_iff_ne]; exact hb
      have HM := (show Hid (max a b = if a < b then b else a) from by show max a b = _; split <;> omega)
      rw [HM.out]
      clear HE HM ha hb
      by_cases hl : a < b
      · rw [if_pos hl]
        go_enter Tryz.func125, Tryz.ntmps125
        go_wp2_with fail
        go_ret
        exact ⟨rfl, rfl⟩
      · rw [if_neg hl]
        go_enter Tryz.func125, Tryz.ntmps125
        go_wp2_with fail
        go_ret
        exact ⟨rfl, rfl⟩
set_option maxRecDepth 100000 in
theorem lesser_any (a b : Int) (w : World) : Calls Tryz.prog 124 #[.int .i64 a, .int .i64 b] w fun e w' => e = .returned (.int .i64 (lesE a b)) ∧ w' = w := by
  by_cases ha : a = -1
  · have HE := (show Hid (lesE a b = b) from by show lesE a b = b; unfold lesE; rw [if_pos ha])
    rw [HE.out]
    have ta : (a == -1) = true := by rw [ha]; rfl
    clear HE ha
    go_enter Tryz.func124, Tryz.ntmps124
    go_wp2_with fail
    go_ret
    exact ⟨rfl, rfl⟩
  · have ta : (a == -1) = false := by rw [beq_eq_false_iff_ne]; exact ha
    by_cases hb : b = -1
    · have HE := (show Hid (lesE a b = a) from by show lesE a b = a; unfold lesE; rw [if_neg ha, if_pos hb])
      rw [HE.out]
      have tb : (b == -1) = true := by rw [hb]; rfl
      clear HE ha hb
      go_enter Tryz.func124, Tryz.ntmps124
      go_wp2_with fail
      go_ret
      exact ⟨rfl, rfl⟩
    · have HE := (show Hid (lesE a b = if b < a then b else a) from by show lesE a b = _; unfold lesE; rw [if_neg ha, if_neg hb]; split <;> omega)
      rw [HE.out]
      have tb : (b == -1) = false := by rw [beq_eq_false_iff_ne]; exact hb
      clear HE ha hb
      by_cases hl : b < a
      · rw [if_pos hl]
        go_enter Tryz.func124, Tryz.ntmps124
        go_wp2_with fail
        go_ret
        exact ⟨rfl, rfl⟩
      · rw [if_neg hl]
        go_enter Tryz.func124, Tryz.ntmps124
        go_wp2_with fail
        go_ret
        exact ⟨rfl, rfl⟩
set_option maxRecDepth 100000 in
theorem product_any (n a : Int) (hw : IntKind.i64.wrap (n * a) = n * a) (w : World) : Calls Tryz.prog 133 #[.int .i64 n, .int .i64 a] w fun e w' => e = .returned (.int .i64 (timE n a)) ∧ w' = w := by
  by_cases ha : a = -1
  · have HE := (show Hid (timE n a = -1) from by show timE n a = -1; unfold timE; rw [if_pos ha])
    rw [HE.out]
    have ta : (a == -1) = true := by rw [ha]; rfl
    clear HE ha hw
    go_enter Tryz.func133, Tryz.ntmps133
    go_wp2_with fail
    go_ret
    exact ⟨rfl, rfl⟩
  · have HE := (show Hid (timE n a = n * a) from by show timE n a = _; unfold timE; rw [if_neg ha])
    rw [HE.out]
    have ta : (a == -1) = false := by rw [beq_eq_false_iff_ne]; exact ha
    clear HE ha
    go_enter Tryz.func133, Tryz.ntmps133
    go_wp2_with fail
    go_ret
    exact ⟨rfl, rfl⟩
end Go.Proofs.YtbnihflihelimaaGreat.N

namespace Go.Proofs.YtbnihflihelimaaGreat.N
open Go.RowKit Go.Maps
open Go.Proofs.YtbnihflihelimaaGreat.T
def nothE : Em := ⟨true, false, 0, 0⟩
def exaE (n : Int) : Em := ⟨false, true, n, n⟩
def seqE (x y : Em) : Em := ⟨x.nu && y.nu, x.cf || y.cf, leC (sumE x.le y.le), moC (sumE x.mo y.mo)⟩
def choE (x y : Em) : Em := ⟨x.nu || y.nu, x.cf && y.cf, lesE x.le y.le, greE x.mo y.mo⟩
def repE (n : Int) (x : Em) : Em := if n = 0 then nothE else ⟨x.nu, x.cf, leC (timE n x.le), moC (timE n x.mo)⟩
def atLE (n : Int) (x : Em) : Em := if x.mo = 0 then repE n x else { repE n x with mo := -1 }
def atME (n : Int) (x : Em) : Em := ⟨true, false, 0, (repE n x).mo⟩
set_option maxRecDepth 100000 in
theorem nothing_any (w : World) : Calls Tryz.prog 112 #[] w fun e w' => e = .returned (emG nothE) ∧ Below w.heap.size w w' := by
  have HX := (show Hid (EX (w.alloc (emO e0)) w.heap.size e0) from EX.new _ _)
  have HB := (show Hid (Below w.heap.size w (st4 (w.alloc (emO e0)) w.heap.size nothE)) from st4_below (below_box _ _) (Nat.le_refl _) _)
  have f0 := HX.out.fz 0
  have f1 := HX.out.fz 1
  have f2 := HX.out.fz 2
  have f3 := HX.out.fz 3
  go_enter Tryz.func112, Tryz.ntmps112
  go_wp2_with fail
  refine ret_ex (e := nothE) rfl rfl rfl (EX.new w nothE) ?_
  exact ⟨rfl, below_box _ _⟩
set_option maxRecDepth 100000 in
theorem exactly_any (n : Int) (w : World) : Calls Tryz.prog 113 #[.int .i64 n] w fun e w' => e = .returned (emG (exaE n)) ∧ Below w.heap.size w w' := by
  go_enter Tryz.func113, Tryz.ntmps113
  go_wp2_with fail
  refine ret_ex (e := exaE n) rfl rfl rfl (EX.new w (exaE n)) ?_
  exact ⟨rfl, below_box _ _⟩
/-- Two boxes and the answer's. -/
structure E3 (w W : World) (x y : Em) : Prop where
  b : Below w.heap.size w W
  x : EX W w.heap.size x
  y : EX W (w.heap.size + 1) y
  z : EX W (w.heap.size + 2) e0
theorem E3.start (w : World) (x y : Em) : E3 w (((w.alloc (emO x)).alloc (emO y)).alloc (emO e0)) x y := by
  have s1 := World.size_alloc w (emO x)
  have s2 := World.size_alloc (w.alloc (emO x)) (emO y)
  refine ⟨(((Below.refl _ _).alloc (Nat.le_refl _) _).alloc (by omega) _).alloc (by omega) _, ((EX.new w x).below (below_box _ _)).below (below_box _ _), EX.below ?_ (below_box _ _), ?_⟩
  · have h := EX.new (w.alloc (emO x)) y; rw [s1] at h; exact h
  · have h := EX.new ((w.alloc (emO x)).alloc (emO y)) e0; rw [s2, s1] at h; exact h
theorem E3.ret {w W : World} {x y : Em} (h : E3 w W x y) (f : Em) : EX (st4 W (w.heap.size + 2) f) (w.heap.size + 2) f ∧ Below w.heap.size w (st4 W (w.heap.size + 2) f) := ⟨h.z.all f, st4_below h.b (by omega) f⟩
theorem E3.drew {w W : World} {x y : Em} (h : E3 w W x y) : E3 w W.drew x y := ⟨h.b.drew, h.x.below (Below.refl _ _).drew, h.y.below (Below.refl _ _).drew, h.z.below (Below.refl _ _).drew⟩
set_option maxRecDepth 100000 in
set_option maxHeartbeats 8000000 in
theorem sequence_any (x y : Em) (hx : OkE x) (hy : OkE y) (w : World) : Calls Tryz.prog 114 #[emG x, emG y] w fun e w' => e = .returned (emG (seqE x y)) ∧ Below w.heap.size w w' := by
  have H1 := (show Hid (∀ w, Calls Tryz.prog 122 #[.int .i64 x.le, .int .i64 y.le] w fun e w' => e = .returned (.int .i64 (sumE x.le y.le)) ∧ w' = w) from fun w => sum_any _ _ hx.l1 hx.l2 hy.l1 hy.l2 w)
  have H2 := (show Hid (∀ w, Calls Tryz.prog 122 #[.int .i64 x.mo, .int .i64 y.mo] w fun e w' => e = .returned (.int .i64 (sumE x.mo y.mo)) ∧ w' = w) from fun w => sum_any _ _ hx.m1 hx.m2 hy.m1 hy.m2 w)
  have H3 := (show Hid (∀ w, Calls Tryz.prog 121 #[.int .i64 (sumE x.le y.le)] w fun e w' => e = .returned (.int .i64 (leC (sumE x.le y.le))) ∧ w' = w) from fun w => cutL_any _ w)
  have H4 := (show Hid (∀ w, Calls Tryz.prog 123 #[.int .i64 (sumE x.mo y.mo)] w fun e w' => e = .returned (.int .i64 (moC (sumE x.mo y.mo))) ∧ w' = w) from fun w => cutM_any _ w)
  have HS := (show Hid (seqE x y = ⟨x.nu && y.nu, x.cf || y.cf, leC (sumE x.le y.le), moC (sumE x.mo y.mo)⟩) from rfl)
  clear hx hy
  obtain ⟨xn, xc, xl, xm⟩ := x
  obtain ⟨yn, yc, yl, ym⟩ := y
  simp only at H1 H2 H3 H4 HS
  generalize sumE xl yl = sl at *
  generalize sumE xm ym = sm at *
  generalize leC sl = cl at *
  generalize moC sm = cm at *
  rw [HS.out]
  have HA := (show Hid (E3 w (((w.alloc (.cells #[.bool xn, .bool xc, .int .i64 xl, .int .i64 xm] 74)).alloc (.cells #[.bool yn, .bool yc, .int .i64 yl, .int .i64 ym] 74)).alloc (.cells #[.bool false, .bool false, .int .i64 0, .int .i64 0] 74)) ⟨xn, xc, xl, xm⟩ ⟨yn, yc, yl, ym⟩) from E3.start w ⟨xn, xc, xl, xm⟩ ⟨yn, yc, yl, ym⟩)
  go_enter Tryz.func114, Tryz.ntmps114
  go_wp2_with fail
  rw [show w.heap.size + 1 + 1 = w.heap.size + 2 from rfl]
  generalize ((w.alloc (.cells #[.bool xn, .bool xc, .int .i64 xl, .int .i64 xm] 74)).alloc (.cells #[.bool yn, .bool yc, .int .i64 yl, .int .i64 ym] 74)).alloc (.cells #[.bool false, .bool false, .int .i64 0, .int .i64 0] 74) = w1 at *
  have HD := (show Hid (E3 w w1.drew ⟨xn, xc, xl, xm⟩ ⟨yn, yc, yl, ym⟩) from HA.out.drew)
  have x0 : w1.drew.cell? ⟨w.heap.size, 0, none⟩ = some (.bool xn) := HD.out.x.eb.c0
  have x1 : w1.drew.cell? ⟨w.heap.size, 1, none⟩ = some (.bool xc) := HD.out.x.eb.c1
  have x2 : w1.drew.cell? ⟨w.heap.size, 2, none⟩ = some (.int .i64 xl) := HD.out.x.eb.c2
  have x3 : w1.drew.cell? ⟨w.heap.size, 3, none⟩ = some (.int .i64 xm) := HD.out.x.eb.c3
  have y0 : w1.drew.cell? ⟨w.heap.size + 1, 0, none⟩ = some (.bool yn) := HD.out.y.eb.c0
  have y1 : w1.drew.cell? ⟨w.heap.size + 1, 1, none⟩ = some (.bool yc) := HD.out.y.eb.c1
  have y2 : w1.drew.cell? ⟨w.heap.size + 1, 2, none⟩ = some (.int .i64 yl) := HD.out.y.eb.c2
  have y3 : w1.drew.cell? ⟨w.heap.size + 1, 3, none⟩ = some (.int .i64 ym) := HD.out.y.eb.c3
  have f0 := HA.out.z.fz 0
  have f1 := HA.out.z.fz 1
  have f2 := HA.out.z.fz 2
  have f3 := HA.out.z.fz 3
  have z0 : w1.cell? ⟨w.heap.size + 2, 0, none⟩ = some (.bool false) := HA.out.z.eb.c0
  have z1 : w1.cell? ⟨w.heap.size + 2, 1, none⟩ = some (.bool false) := HA.out.z.eb.c1
  have z2 : w1.cell? ⟨w.heap.size + 2, 2, none⟩ = some (.int .i64 0) := HA.out.z.eb.c2
  have z3 : w1.cell? ⟨w.heap.size + 2, 3, none⟩ = some (.int .i64 0) := HA.out.z.eb.c3
  have HR := (show Hid _ from HA.out.ret ⟨xn && yn, xc || yc, cl, cm⟩)
  clear HD HA HS
  cases xn
  all_goals cases xc
  all_goals
    refine wp_region_still_tail 25 (by kernel_rfl) (by kernel_rfl) ?_
    simp only [List.take_succ_cons, List.take_zero, List.drop_succ_cons, List.drop_zero]
    repeat (first | still_step | (refine wpStill_step (fun K hK => ?_); go_simp; with_reducible refine ⟨_, H1.out _, hK _ ?_⟩; clear hK K) | (refine wpStill_step (fun K hK => ?_); go_simp; with_reducible refine ⟨_, H2.out _, hK _ ?_⟩; clear hK K) | (refine wpStill_step (fun K hK => ?_); go_simp; with_reducible refine ⟨_, H3.out _, hK _ ?_⟩; clear hK K) | (refine wpStill_step (fun K hK => ?_); go_simp; with_reducible refine ⟨_, H4.out _, hK _ ?_⟩; clear hK K))
    refine wpStill_nil ?_
    change wpList _ _ _ _ _ (World.drew w1)
    clear x0 x1 x2 x3 y0 y1 y2 y3 H1 H2 H3 H4
    go_wp2_with fail
    refine ret_ex (s := 4) (k := w.heap.size + 2) (by rfl) (by rfl) (by rfl) (HR.out.1.below (Below.refl _ _).drew) ?_
    exact ⟨rfl, HR.out.2.drew⟩
set_option maxRecDepth 100000 in
set_option maxHeartbeats 8000000 in
theorem choice_any (x y : Em) (w : World) : Calls Tryz.prog 115 #[emG x, emG y] w fun e w' => e = .returned (emG (choE x y)) ∧ Below w.heap.size w w' := by
  have H1 := (show Hid (∀ w, Calls Tryz.prog 124 #[.int .i64 x.le, .int .i64 y.le] w fun e w' => e = .returned (.int .i64 (lesE x.le y.le)) ∧ w' = w) from fun w => lesser_any _ _ w)
  have H2 := (show Hid (∀ w, Calls Tryz.prog 125 #[.int .i64 x.mo, .int .i64 y.mo] w fun e w' => e = .returned (.int .i64 (greE x.mo y.mo)) ∧ w' = w) from fun w => greater_any _ _ w)
  have HS := (show Hid (choE x y = ⟨x.nu || y.nu, x.cf && y.cf, lesE x.le y.le, greE x.mo y.mo⟩) from rfl)
  obtain ⟨xn, xc, xl, xm⟩ := x
  obtain ⟨yn, yc, yl, ym⟩ := y
  simp only at H1 H2 HS
  generalize lesE xl yl = cl at *
  generalize greE xm ym = cm at *
  rw [HS.out]
  have HA := (show Hid (E3 w (((w.alloc (.cells #[.bool xn, .bool xc, .int .i64 xl, .int .i64 xm] 74)).alloc (.cells #[.bool yn, .bool yc, .int .i64 yl, .int .i64 ym] 74)).alloc (.cells #[.bool false, .bool false, .int .i64 0, .int .i64 0] 74)) ⟨xn, xc, xl, xm⟩ ⟨yn, yc, yl, ym⟩) from E3.start w ⟨xn, xc, xl, xm⟩ ⟨yn, yc, yl, ym⟩)
  go_enter Tryz.func115, Tryz.ntmps115
  go_wp2_with fail
  rw [show w.heap.size + 1 + 1 = w.heap.size + 2 from rfl]
  generalize ((w.alloc (.cells #[.bool xn, .bool xc, .int .i64 xl, .int .i64 xm] 74)).alloc (.cells #[.bool yn, .bool yc, .int .i64 yl, .int .i64 ym] 74)).alloc (.cells #[.bool false, .bool false, .int .i64 0, .int .i64 0] 74) = w1 at *
  have HD := (show Hid (E3 w w1.drew ⟨xn, xc, xl, xm⟩ ⟨yn, yc, yl, ym⟩) from HA.out.drew)
  have x0 : w1.drew.cell? ⟨w.heap.size, 0, none⟩ = some (.bool xn) := HD.out.x.eb.c0
  have x1 : w1.drew.cell? ⟨w.heap.size, 1, none⟩ = some (.bool xc) := HD.out.x.eb.c1
  have x2 : w1.drew.cell? ⟨w.heap.size, 2, none⟩ = some (.int .i64 xl) := HD.out.x.eb.c2
  have x3 : w1.drew.cell? ⟨w.heap.size, 3, none⟩ = some (.int .i64 xm) := HD.out.x.eb.c3
  have y0 : w1.drew.cell? ⟨w.heap.size + 1, 0, none⟩ = some (.bool yn) := HD.out.y.eb.c0
  have y1 : w1.drew.cell? ⟨w.heap.size + 1, 1, none⟩ = some (.bool yc) := HD.out.y.eb.c1
  have y2 : w1.drew.cell? ⟨w.heap.size + 1, 2, none⟩ = some (.int .i64 yl) := HD.out.y.eb.c2
  have y3 : w1.drew.cell? ⟨w.heap.size + 1, 3, none⟩ = some (.int .i64 ym) := HD.out.y.eb.c3
  have f0 := HA.out.z.fz 0
  have f1 := HA.out.z.fz 1
  have f2 := HA.out.z.fz 2
  have f3 := HA.out.z.fz 3
  have z0 : w1.cell? ⟨w.heap.size + 2, 0, none⟩ = some (.bool false) := HA.out.z.eb.c0
  have z1 : w1.cell? ⟨w.heap.size + 2, 1, none⟩ = some (.bool false) := HA.out.z.eb.c1
  have z2 : w1.cell? ⟨w.heap.size + 2, 2, none⟩ = some (.int .i64 0) := HA.out.z.eb.c2
  have z3 : w1.cell? ⟨w.heap.size + 2, 3, none⟩ = some (.int .i64 0) := HA.out.z.eb.c3
  have HR := (show Hid _ from HA.out.ret ⟨xn || yn, xc && yc, cl, cm⟩)
  clear HD HA HS
  cases xn
  all_goals cases xc
  all_goals
    refine wp_region_still_tail 23 (by kernel_rfl) (by kernel_rfl) ?_
    simp only [List.take_succ_cons, List.take_zero, List.drop_succ_cons, List.drop_zero]
    repeat (first | still_step | (refine wpStill_step (fun K hK => ?_); go_simp; with_reducible refine ⟨_, H1.out _, hK _ ?_⟩; clear hK K) | (refine wpStill_step (fun K hK => ?_); go_simp; with_reducible refine ⟨_, H2.out _, hK _ ?_⟩; clear hK K))
    refine wpStill_nil ?_
    change wpList _ _ _ _ _ (World.drew w1)
    clear x0 x1 x2 x3 y0 y1 y2 y3 H1 H2
    go_wp2_with fail
    refine ret_ex (s := 4) (k := w.heap.size + 2) (by rfl) (by rfl) (by rfl) (HR.out.1.below (Below.refl _ _).drew) ?_
    exact ⟨rfl, HR.out.2.drew⟩

theorem i64_fit' {a : Int} (h1 : -50 ≤ a) (h2 : a ≤ 104857600) : IntKind.i64.wrap a = a := by rw [IntKind.wrap_i64]; omega
theorem wrap_mul {n a : Int} (h0 : 0 ≤ n) (h1 : n ≤ 50) (ha : -1 ≤ a) (hb : a ≤ 1048576) : IntKind.i64.wrap (n * a) = n * a := by
  refine i64_fit' ?_ ?_
  · by_cases h : 0 ≤ a
    · have := Int.mul_nonneg h0 h
      omega
    · have e : a = -1 := by omega
      rw [e]
      omega
  · by_cases h : 0 ≤ a
    · have := Int.mul_le_mul h1 hb h (by decide)
      omega
    · have e : a = -1 := by omega
      rw [e]
      omega
/-- A box and the answer's. -/
structure E2 (w W : World) (x : Em) : Prop where
  b : Below w.heap.size w W
  x : EX W w.heap.size x
  z : EX W (w.heap.size + 1) e0
theorem E2.start (w : World) (x : Em) : E2 w ((w.alloc (emO x)).alloc (emO e0)) x := by
  have s1 := World.size_alloc w (emO x)
  refine ⟨((Below.refl _ _).alloc (Nat.le_refl _) _).alloc (by omega) _, (EX.new w x).below (below_box _ _), ?_⟩
  have h := EX.new (w.alloc (emO x)) e0; rw [s1] at h; exact h
theorem E2.later {w W W' : World} {x : Em} (h : E2 w W x) (hb : Below W.heap.size W W') : E2 w W' x := ⟨h.b.trans (hb.mono h.b.size), h.x.below hb, h.z.below hb⟩
theorem E2.ret {w W : World} {x : Em} (h : E2 w W x) (f : Em) : EX (st4 W (w.heap.size + 1) f) (w.heap.size + 1) f ∧ Below w.heap.size w (st4 W (w.heap.size + 1) f) := ⟨h.z.all f, st4_below h.b (by omega) f⟩
theorem E2.put2 {w W : World} {x : Em} (h : E2 w W x) (v : Int) : E2 w (W.setCell ⟨w.heap.size, 2, none⟩ (.int .i64 v)) { x with le := v } := ⟨h.b.setCell (p := ⟨w.heap.size, 2, none⟩) (Nat.le_refl _) _, h.x.set2 v, h.z.same (Below.heap_setCell _ _ _ _ (by show w.heap.size + 1 ≠ w.heap.size; omega))⟩
theorem E2.put3 {w W : World} {x : Em} (h : E2 w W x) (v : Int) : E2 w (W.setCell ⟨w.heap.size, 3, none⟩ (.int .i64 v)) { x with mo := v } := ⟨h.b.setCell (p := ⟨w.heap.size, 3, none⟩) (Nat.le_refl _) _, h.x.set3 v, h.z.same (Below.heap_setCell _ _ _ _ (by show w.heap.size + 1 ≠ w.heap.size; omega))⟩
set_option maxRecDepth 100000 in
set_option maxHeartbeats 8000000 in
theorem repeated_any (n : Int) (x : Em) (h0 : 0 ≤ n) (h1 : n ≤ 50) (hx : OkE x) (w : World) : Calls Tryz.prog 128 #[.int .i64 n, emG x] w fun e w' => e = .returned (emG (repE n x)) ∧ Below w.heap.size w w' := by
  have HP1 := (show Hid (∀ w, Calls Tryz.prog 133 #[.int .i64 n, .int .i64 x.le] w fun e w' => e = .returned (.int .i64 (timE n x.le)) ∧ w' = w) from fun w => product_any _ _ (wrap_mul h0 h1 hx.l1 hx.l2) w)
  have HP2 := (show Hid (∀ w, Calls Tryz.prog 133 #[.int .i64 n, .int .i64 x.mo] w fun e w' => e = .returned (.int .i64 (timE n x.mo)) ∧ w' = w) from fun w => product_any _ _ (wrap_mul h0 h1 hx.m1 hx.m2) w)
  have HC1 := (show Hid (∀ w, Calls Tryz.prog 121 #[.int .i64 (timE n x.le)] w fun e w' => e = .returned (.int .i64 (leC (timE n x.le))) ∧ w' = w) from fun w => cutL_any _ w)
  have HC2 := (show Hid (∀ w, Calls Tryz.prog 123 #[.int .i64 (timE n x.mo)] w fun e w' => e = .returned (.int .i64 (moC (timE n x.mo))) ∧ w' = w) from fun w => cutM_any _ w)
  have HN := (show Hid (∀ w, Calls Tryz.prog 112 #[] w fun e w' => e = .returned (emG nothE) ∧ Below w.heap.size w w') from nothing_any)
  obtain ⟨xn, xc, xl, xm⟩ := x
  simp only at HP1 HP2 HC1 HC2
  have HA := (show Hid (E2 w ((w.alloc (.cells #[.bool xn, .bool xc, .int .i64 xl, .int .i64 xm] 74)).alloc (.cells #[.bool false, .bool false, .int .i64 0, .int .i64 0] 74)) ⟨xn, xc, xl, xm⟩) from E2.start w ⟨xn, xc, xl, xm⟩)
  clear hx h0 h1
  by_cases hz : n = 0
  · have te : (n == 0) = true := by rw [hz]; rfl
    have HR := (show Hid (repE n ⟨xn, xc, xl, xm⟩ = nothE) from by show repE n _ = _; unfold repE; rw [if_pos hz])
    rw [HR.out]
    clear hz HP1 HP2 HC1 HC2 HR
    go_enter Tryz.func128, Tryz.ntmps128
    go_wp2_with fail
    generalize (w.alloc (.cells #[.bool xn, .bool xc, .int .i64 xl, .int .i64 xm] 74)).alloc (.cells #[.bool false, .bool false, .int .i64 0, .int .i64 0] 74) = w1 at *
    refine (HN.out _).mono ?_
    rintro e w2 ⟨rfl, b2⟩
    have HA2 := (show Hid (E2 w w2 ⟨xn, xc, xl, xm⟩) from HA.out.later b2)
    have f0 := HA2.out.z.fz 0
    have f1 := HA2.out.z.fz 1
    have f2 := HA2.out.z.fz 2
    have f3 := HA2.out.z.fz 3
    have z0 : w2.cell? ⟨w.heap.size + 1, 0, none⟩ = some (.bool false) := HA2.out.z.eb.c0
    have z1 : w2.cell? ⟨w.heap.size + 1, 1, none⟩ = some (.bool false) := HA2.out.z.eb.c1
    have z2 : w2.cell? ⟨w.heap.size + 1, 2, none⟩ = some (.int .i64 0) := HA2.out.z.eb.c2
    have z3 : w2.cell? ⟨w.heap.size + 1, 3, none⟩ = some (.int .i64 0) := HA2.out.z.eb.c3
    have HR := (show Hid _ from HA2.out.ret nothE)
    clear HA HA2 b2 HN
    go_wp2_with fail
    refine ret_ex (s := 4) (k := w.heap.size + 1) (by rfl) (by rfl) (by rfl) HR.out.1 ?_
    exact ⟨rfl, HR.out.2⟩
  · have te : (n == 0) = false := by rw [beq_eq_false_iff_ne]; exact hz
    have HR := (show Hid (repE n ⟨xn, xc, xl, xm⟩ = ⟨xn, xc, leC (timE n xl), moC (timE n xm)⟩) from by show repE n _ = _; unfold repE; rw [if_neg hz])
    rw [HR.out]
    clear hz HN HR
    generalize timE n xl = tl at *
    generalize timE n xm = tm at *
    generalize leC tl = cl at *
    generalize moC tm = cm at *
    have q2 : _ = some (Value.int .i64 xl) := HA.out.x.eb.c2
    go_enter Tryz.func128, Tryz.ntmps128
    go_wp2_with fail
    generalize (w.alloc (.cells #[.bool xn, .bool xc, .int .i64 xl, .int .i64 xm] 74)).alloc (.cells #[.bool false, .bool false, .int .i64 0, .int .i64 0] 74) = w1 at *
    clear q2
    have q2 : w1.cell? ⟨w.heap.size, 2, none⟩ = some (.int .i64 xl) := HA.out.x.eb.c2
    go_wp2_with fail
    refine (HP1.out _).mono ?_
    rintro e w2 ⟨rfl, rfl⟩
    go_wp2_with fail
    refine (HC1.out _).mono ?_
    rintro e w2 ⟨rfl, rfl⟩
    have f2 := HA.out.x.fz 2
    obtain ⟨w3, hw3⟩ : ∃ w3, w3 = w2.setCell ⟨w.heap.size, 2, none⟩ (.int .i64 cl) := ⟨_, rfl⟩
    have HE3 := (show Hid (w2.setCell ⟨w.heap.size, 2, none⟩ (.int .i64 cl) = w3) from hw3.symm)
    have HA3 := (show Hid (E2 w w3 ⟨xn, xc, cl, xm⟩) from by rw [hw3]; exact HA.out.put2 cl)
    have q3 : w3.cell? ⟨w.heap.size, 3, none⟩ = some (.int .i64 xm) := HA3.out.x.eb.c3
    clear HA HP1 HC1 hw3
    go_wp2_with (rw [HE3.out])
    refine (HP2.out _).mono ?_
    rintro e w4 ⟨rfl, rfl⟩
    go_wp2_with fail
    refine (HC2.out _).mono ?_
    rintro e w4 ⟨rfl, rfl⟩
    have f3 := HA3.out.x.fz 3
    obtain ⟨w5, hw5⟩ : ∃ w5, w5 = w4.setCell ⟨w.heap.size, 3, none⟩ (.int .i64 cm) := ⟨_, rfl⟩
    have HE5 := (show Hid (w4.setCell ⟨w.heap.size, 3, none⟩ (.int .i64 cm) = w5) from hw5.symm)
    have HA5 := (show Hid (E2 w w5 ⟨xn, xc, cl, cm⟩) from by rw [hw5]; exact HA3.out.put3 cm)
    have x0 : w5.cell? ⟨w.heap.size, 0, none⟩ = some (.bool xn) := HA5.out.x.eb.c0
    have x1 : w5.cell? ⟨w.heap.size, 1, none⟩ = some (.bool xc) := HA5.out.x.eb.c1
    have x2 : w5.cell? ⟨w.heap.size, 2, none⟩ = some (.int .i64 cl) := HA5.out.x.eb.c2
    have x3 : w5.cell? ⟨w.heap.size, 3, none⟩ = some (.int .i64 cm) := HA5.out.x.eb.c3
    have g0 := HA5.out.z.fz 0
    have g1 := HA5.out.z.fz 1
    have g2 := HA5.out.z.fz 2
    have g3 := HA5.out.z.fz 3
    have z0 : w5.cell? ⟨w.heap.size + 1, 0, none⟩ = some (.bool false) := HA5.out.z.eb.c0
    have z1 : w5.cell? ⟨w.heap.size + 1, 1, none⟩ = some (.bool false) := HA5.out.z.eb.c1
    have z2 : w5.cell? ⟨w.heap.size + 1, 2, none⟩ = some (.int .i64 0) := HA5.out.z.eb.c2
    have z3 : w5.cell? ⟨w.heap.size + 1, 3, none⟩ = some (.int .i64 0) := HA5.out.z.eb.c3
    have HR := (show Hid _ from HA5.out.ret ⟨xn, xc, cl, cm⟩)
    clear HA3 HP2 HC2 hw5 HE3 HA5
    go_wp2_with (rw [HE5.out])
    refine ret_ex (s := 4) (k := w.heap.size + 1) (by rfl) (by rfl) (by rfl) HR.out.1 ?_
    exact ⟨rfl, HR.out.2⟩
end Go.Proofs.YtbnihflihelimaaGreat.N

namespace Go.Proofs.YtbnihflihelimaaGreat.N
open Go.RowKit Go.Maps
open Go.Proofs.YtbnihflihelimaaGreat.T
theorem fldE (a b : Bool) (c d : Int) (W : World) : (Instr.field 74 (.agg #[.bool a, .bool b, .int .i64 c, .int .i64 d]) 3).run Tryz.prog W = .ok (.int .i64 d) W := by simp [Instr.field, run_underlying Tryz.underlying74, asAgg, go_sem]
set_option maxRecDepth 100000 in
set_option maxHeartbeats 8000000 in
theorem atMost_any (n : Int) (x : Em) (h0 : 0 ≤ n) (h1 : n ≤ 50) (hx : OkE x) (w : World) : Calls Tryz.prog 127 #[.int .i64 n, emG x] w fun e w' => e = .returned (emG (atME n x)) ∧ Below w.heap.size w w' := by
  have HR := (show Hid (∀ w, Calls Tryz.prog 128 #[.int .i64 n, emG x] w fun e w' => e = .returned (emG (repE n x)) ∧ Below w.heap.size w w') from fun w => repeated_any n x h0 h1 hx w)
  have HE := (show Hid (atME n x = ⟨true, false, 0, (repE n x).mo⟩) from rfl)
  rw [HE.out]
  clear HE
  generalize repE n x = rr at *
  obtain ⟨xn, xc, xl, xm⟩ := x
  obtain ⟨rn, rc, rl, rm⟩ := rr
  simp only [emG] at HR
  have HA := (show Hid (E2 w ((w.alloc (.cells #[.bool xn, .bool xc, .int .i64 xl, .int .i64 xm] 74)).alloc (.cells #[.bool false, .bool false, .int .i64 0, .int .i64 0] 74)) ⟨xn, xc, xl, xm⟩) from E2.start w ⟨xn, xc, xl, xm⟩)
  clear hx h0 h1
  go_enter Tryz.func127, Tryz.ntmps127
  go_wp2_with fail
  generalize (w.alloc (.cells #[.bool xn, .bool xc, .int .i64 xl, .int .i64 xm] 74)).alloc (.cells #[.bool false, .bool false, .int .i64 0, .int .i64 0] 74) = w1 at *
  have x0 : w1.cell? ⟨w.heap.size, 0, none⟩ = some (.bool xn) := HA.out.x.eb.c0
  have x1 : w1.cell? ⟨w.heap.size, 1, none⟩ = some (.bool xc) := HA.out.x.eb.c1
  have x2 : w1.cell? ⟨w.heap.size, 2, none⟩ = some (.int .i64 xl) := HA.out.x.eb.c2
  have x3 : w1.cell? ⟨w.heap.size, 3, none⟩ = some (.int .i64 xm) := HA.out.x.eb.c3
  try go_wp2_with fail
  refine (HR.out _).mono ?_
  rintro e w2 ⟨rfl, b2⟩
  have HA2 := (show Hid (E2 w w2 ⟨xn, xc, xl, xm⟩) from HA.out.later b2)
  have f0 := HA2.out.z.fz 0
  have f1 := HA2.out.z.fz 1
  have f2 := HA2.out.z.fz 2
  have f3 := HA2.out.z.fz 3
  have z0 : w2.cell? ⟨w.heap.size + 1, 0, none⟩ = some (.bool false) := HA2.out.z.eb.c0
  have z1 : w2.cell? ⟨w.heap.size + 1, 1, none⟩ = some (.bool false) := HA2.out.z.eb.c1
  have z2 : w2.cell? ⟨w.heap.size + 1, 2, none⟩ = some (.int .i64 0) := HA2.out.z.eb.c2
  have z3 : w2.cell? ⟨w.heap.size + 1, 3, none⟩ = some (.int .i64 0) := HA2.out.z.eb.c3
  have HZ := (show Hid _ from HA2.out.ret ⟨true, false, 0, rm⟩)
  clear HA HA2 b2 HR x0 x1 x2 x3
  have hf := fldE rn rc rl rm
  go_wp2_with fail
  refine ret_ex (s := 4) (k := w.heap.size + 1) (by rfl) (by rfl) (by rfl) HZ.out.1 ?_
  exact ⟨rfl, HZ.out.2⟩
set_option maxRecDepth 100000 in
set_option maxHeartbeats 8000000 in
theorem atLeast_0 (n : Int) (x : Em) (h0 : 0 ≤ n) (h1 : n ≤ 50) (hx : OkE x) (hm : x.mo = 0) (w : World) : Calls Tryz.prog 126 #[.int .i64 n, emG x] w fun e w' => e = .returned (emG (repE n x)) ∧ Below w.heap.size w w' := by
  have HR := (show Hid (∀ w, Calls Tryz.prog 128 #[.int .i64 n, emG x] w fun e w' => e = .returned (emG (repE n x)) ∧ Below w.heap.size w w') from fun w => repeated_any n x h0 h1 hx w)
  have te : (x.mo != 0) = false := by rw [hm]; rfl
  clear hm
  generalize repE n x = rr at *
  obtain ⟨xn, xc, xl, xm⟩ := x
  obtain ⟨rn, rc, rl, rm⟩ := rr
  simp only [emG] at HR
  simp only at te
  have HA := (show Hid (E2 w ((w.alloc (.cells #[.bool xn, .bool xc, .int .i64 xl, .int .i64 xm] 74)).alloc (.cells #[.bool false, .bool false, .int .i64 0, .int .i64 0] 74)) ⟨xn, xc, xl, xm⟩) from E2.start w ⟨xn, xc, xl, xm⟩)
  clear hx h0 h1
  go_enter Tryz.func126, Tryz.ntmps126
  go_wp2_with fail
  generalize (w.alloc (.cells #[.bool xn, .bool xc, .int .i64 xl, .int .i64 xm] 74)).alloc (.cells #[.bool false, .bool false, .int .i64 0, .int .i64 0] 74) = w1 at *
  have x0 : w1.cell? ⟨w.heap.size, 0, none⟩ = some (.bool xn) := HA.out.x.eb.c0
  have x1 : w1.cell? ⟨w.heap.size, 1, none⟩ = some (.bool xc) := HA.out.x.eb.c1
  have x2 : w1.cell? ⟨w.heap.size, 2, none⟩ = some (.int .i64 xl) := HA.out.x.eb.c2
  have x3 : w1.cell? ⟨w.heap.size, 3, none⟩ = some (.int .i64 xm) := HA.out.x.eb.c3
  try go_wp2_with fail
  refine (HR.out _).mono ?_
  rintro e w2 ⟨rfl, b2⟩
  obtain ⟨w3, hw3⟩ : ∃ w3, w3 = w2.alloc (.cells #[.bool rn, .bool rc, .int .i64 rl, .int .i64 rm] 74) := ⟨_, rfl⟩
  have HE3 := (show Hid (w2.alloc (.cells #[.bool rn, .bool rc, .int .i64 rl, .int .i64 rm] 74) = w3) from hw3.symm)
  have HA3 := (show Hid (E2 w w3 ⟨xn, xc, xl, xm⟩) from by rw [hw3]; exact (HA.out.later b2).later (below_box _ _))
  have HY := (show Hid (EX w3 w2.heap.size ⟨rn, rc, rl, rm⟩) from by rw [hw3]; exact EX.new w2 ⟨rn, rc, rl, rm⟩)
  have HL := (show Hid (w.heap.size + 1 < w2.heap.size) from (HA.out.later b2).z.lt)
  have q3 : w3.cell? ⟨w.heap.size, 3, none⟩ = some (.int .i64 xm) := HA3.out.x.eb.c3
  clear HA b2 HR x0 x1 x2 x3 hw3
  have y0 : w3.cell? ⟨w2.heap.size, 0, none⟩ = some (.bool rn) := HY.out.eb.c0
  have y1 : w3.cell? ⟨w2.heap.size, 1, none⟩ = some (.bool rc) := HY.out.eb.c1
  have y2 : w3.cell? ⟨w2.heap.size, 2, none⟩ = some (.int .i64 rl) := HY.out.eb.c2
  have y3 : w3.cell? ⟨w2.heap.size, 3, none⟩ = some (.int .i64 rm) := HY.out.eb.c3
  have f0 := HA3.out.z.fz 0
  have f1 := HA3.out.z.fz 1
  have f2 := HA3.out.z.fz 2
  have f3 := HA3.out.z.fz 3
  have z0 : w3.cell? ⟨w.heap.size + 1, 0, none⟩ = some (.bool false) := HA3.out.z.eb.c0
  have z1 : w3.cell? ⟨w.heap.size + 1, 1, none⟩ = some (.bool false) := HA3.out.z.eb.c1
  have z2 : w3.cell? ⟨w.heap.size + 1, 2, none⟩ = some (.int .i64 0) := HA3.out.z.eb.c2
  have z3 : w3.cell? ⟨w.heap.size + 1, 3, none⟩ = some (.int .i64 0) := HA3.out.z.eb.c3
  have HZ := (show Hid _ from HA3.out.ret ⟨rn, rc, rl, rm⟩)
  clear HA3 HY HL
  go_wp2_with (rw [HE3.out])
  refine ret_ex (s := 4) (k := w.heap.size + 1) (by rfl) (by rfl) (by rfl) HZ.out.1 ?_
  exact ⟨rfl, HZ.out.2⟩
set_option maxRecDepth 100000 in
set_option maxHeartbeats 8000000 in
theorem atLeast_1 (n : Int) (x : Em) (h0 : 0 ≤ n) (h1 : n ≤ 50) (hx : OkE x) (hm : ¬ x.mo = 0) (w : World) : Calls Tryz.prog 126 #[.int .i64 n, emG x] w fun e w' => e = .returned (emG { repE n x with mo := -1 }) ∧ Below w.heap.size w w' := by
  have HR := (show Hid (∀ w, Calls Tryz.prog 128 #[.int .i64 n, emG x] w fun e w' => e = .returned (emG (repE n x)) ∧ Below w.heap.size w w') from fun w => repeated_any n x h0 h1 hx w)
  have te : (x.mo != 0) = true := by rw [bne, beq_eq_false_iff_ne.2 hm]; rfl
  clear hm
  generalize repE n x = rr at *
  obtain ⟨xn, xc, xl, xm⟩ := x
  obtain ⟨rn, rc, rl, rm⟩ := rr
  simp only [emG] at HR
  simp only at te
  have HA := (show Hid (E2 w ((w.alloc (.cells #[.bool xn, .bool xc, .int .i64 xl, .int .i64 xm] 74)).alloc (.cells #[.bool false, .bool false, .int .i64 0, .int .i64 0] 74)) ⟨xn, xc, xl, xm⟩) from E2.start w ⟨xn, xc, xl, xm⟩)
  clear hx h0 h1
  go_enter Tryz.func126, Tryz.ntmps126
  go_wp2_with fail
  generalize (w.alloc (.cells #[.bool xn, .bool xc, .int .i64 xl, .int .i64 xm] 74)).alloc (.cells #[.bool false, .bool false, .int .i64 0, .int .i64 0] 74) = w1 at *
  have x0 : w1.cell? ⟨w.heap.size, 0, none⟩ = some (.bool xn) := HA.out.x.eb.c0
  have x1 : w1.cell? ⟨w.heap.size, 1, none⟩ = some (.bool xc) := HA.out.x.eb.c1
  have x2 : w1.cell? ⟨w.heap.size, 2, none⟩ = some (.int .i64 xl) := HA.out.x.eb.c2
  have x3 : w1.cell? ⟨w.heap.size, 3, none⟩ = some (.int .i64 xm) := HA.out.x.eb.c3
  try go_wp2_with fail
  refine (HR.out _).mono ?_
  rintro e w2 ⟨rfl, b2⟩
  obtain ⟨w3, hw3⟩ : ∃ w3, w3 = w2.alloc (.cells #[.bool rn, .bool rc, .int .i64 rl, .int .i64 rm] 74) := ⟨_, rfl⟩
  have HE3 := (show Hid (w2.alloc (.cells #[.bool rn, .bool rc, .int .i64 rl, .int .i64 rm] 74) = w3) from hw3.symm)
  have HA3 := (show Hid (E2 w w3 ⟨xn, xc, xl, xm⟩) from by rw [hw3]; exact (HA.out.later b2).later (below_box _ _))
  have HY := (show Hid (EX w3 w2.heap.size ⟨rn, rc, rl, rm⟩) from by rw [hw3]; exact EX.new w2 ⟨rn, rc, rl, rm⟩)
  have HL := (show Hid (w.heap.size + 1 < w2.heap.size) from (HA.out.later b2).z.lt)
  have q3 : w3.cell? ⟨w.heap.size, 3, none⟩ = some (.int .i64 xm) := HA3.out.x.eb.c3
  clear HA b2 HR x0 x1 x2 x3 hw3
  have fy := HY.out.fz 3
  have cy : w3.cell? ⟨w2.heap.size, 3, none⟩ = some (.int .i64 rm) := HY.out.eb.c3
  obtain ⟨w4, hw4⟩ : ∃ w4, w4 = w3.setCell ⟨w2.heap.size, 3, none⟩ (.int .i64 (-1)) := ⟨_, rfl⟩
  have HE4 := (show Hid (w3.setCell ⟨w2.heap.size, 3, none⟩ (.int .i64 (-1)) = w4) from hw4.symm)
  have HY4 := (show Hid (EX w4 w2.heap.size ⟨rn, rc, rl, -1⟩) from by rw [hw4]; exact HY.out.set3 (-1))
  have HA4 := (show Hid (E2 w w4 ⟨xn, xc, xl, xm⟩) from by
    have hl := HL.out
    have key : ∀ (j : Nat), j ≠ w2.heap.size → (w3.setCell ⟨w2.heap.size, 3, none⟩ (.int .i64 (-1))).heap[j]? = w3.heap[j]? := fun j hj => Below.heap_setCell _ _ _ _ hj
    rw [hw4]
    exact ⟨HA3.out.b.setCell (p := ⟨w2.heap.size, 3, none⟩) (by show w.heap.size ≤ w2.heap.size; omega) _, HA3.out.x.same (key _ (by omega)), HA3.out.z.same (key _ (by omega))⟩)
  have y0 : w4.cell? ⟨w2.heap.size, 0, none⟩ = some (.bool rn) := HY4.out.eb.c0
  have y1 : w4.cell? ⟨w2.heap.size, 1, none⟩ = some (.bool rc) := HY4.out.eb.c1
  have y2 : w4.cell? ⟨w2.heap.size, 2, none⟩ = some (.int .i64 rl) := HY4.out.eb.c2
  have y3 : w4.cell? ⟨w2.heap.size, 3, none⟩ = some (.int .i64 (-1)) := HY4.out.eb.c3
  have f0 := HA4.out.z.fz 0
  have f1 := HA4.out.z.fz 1
  have f2 := HA4.out.z.fz 2
  have f3 := HA4.out.z.fz 3
  have z0 : w4.cell? ⟨w.heap.size + 1, 0, none⟩ = some (.bool false) := HA4.out.z.eb.c0
  have z1 : w4.cell? ⟨w.heap.size + 1, 1, none⟩ = some (.bool false) := HA4.out.z.eb.c1
  have z2 : w4.cell? ⟨w.heap.size + 1, 2, none⟩ = some (.int .i64 0) := HA4.out.z.eb.c2
  have z3 : w4.cell? ⟨w.heap.size + 1, 3, none⟩ = some (.int .i64 0) := HA4.out.z.eb.c3
  have HZ := (show Hid _ from HA4.out.ret ⟨rn, rc, rl, -1⟩)
  clear HA3 HY HY4 HA4 HL hw4
  go_wp2_with (first | rw [HE3.out] | rw [HE4.out])
  refine ret_ex (s := 4) (k := w.heap.size + 1) (by rfl) (by rfl) (by rfl) HZ.out.1 ?_
  exact ⟨rfl, HZ.out.2⟩
theorem atLeast_any (n : Int) (x : Em) (h0 : 0 ≤ n) (h1 : n ≤ 50) (hx : OkE x) (w : World) : Calls Tryz.prog 126 #[.int .i64 n, emG x] w fun e w' => e = .returned (emG (atLE n x)) ∧ Below w.heap.size w w' := by
  unfold atLE
  by_cases hm : x.mo = 0
  · rw [if_pos hm]; exact atLeast_0 n x h0 h1 hx hm w
  · rw [if_neg hm]; exact atLeast_1 n x h0 h1 hx hm w
end Go.Proofs.YtbnihflihelimaaGreat.N

namespace Go.Proofs.YtbnihflihelimaaGreat.T
open Go.RowKit
def asText (l : List Int) : ByteArray := l.foldl (fun r n => r.push (UInt8.ofNat n.toNat)) ByteArray.empty
theorem asText_data (l : List Int) : (asText l).data.toList = l.map (fun n => UInt8.ofNat n.toNat) := by
  have key : ∀ (l : List Int) (s : ByteArray), (l.foldl (fun r n => r.push (UInt8.ofNat n.toNat)) s).data.toList = s.data.toList ++ l.map (fun n => UInt8.ofNat n.toNat) := by
    intro l
    induction l with
    | nil => intro s; simp
    | cons b l ih => intro s; rw [List.foldl_cons, ih]; simp [ByteArray.push]
  have := key l ByteArray.empty
  simpa [asText] using this
theorem asText_eq (l : List Int) : asText l = ⟨(l.map fun n => UInt8.ofNat n.toNat).toArray⟩ := by
  have h := asText_data l
  cases ht : asText l with
  | mk d =>
    rw [ht] at h
    cases d with
    | mk x => simp at h; rw [h]
def byl (s : ByteArray) : List Int := s.data.toList.map fun c => (c.toNat : Int)
theorem byl_len (s : ByteArray) : (byl s).length = s.size := by unfold byl; rw [List.length_map]; rfl
theorem byl_get (s : ByteArray) (k : Nat) (h : k < s.size) : (byl s)[k]? = some (s[k].toNat : Int) := by
  unfold byl
  rw [List.getElem?_map, List.getElem?_eq_getElem (by simpa using h)]
  rfl
theorem asText_byl (s : ByteArray) : asText (byl s) = s := by
  rw [asText_eq]
  unfold byl
  rw [List.map_map]
  have : (List.map ((fun n : Int => UInt8.ofNat n.toNat) ∘ fun c : UInt8 => (c.toNat : Int)) s.data.toList) = s.data.toList := by
    conv => rhs; rw [← List.map_id s.data.toList]
    refine List.map_congr_left fun c _ => ?_
    simp
  rw [this]
theorem conv_bytes (s : ByteArray) (w : World) : (convert 9 141 (.string s)).run Tryz.prog w = .ok (.slice (some ⟨w.heap.size, 0, none⟩) s.size (grownCap w s.size 0 5)) (Lib.bytesWorld w 5 s) :=
  Lib.run_convert_string_bytes w 9 141 5 s Tryz.underlying9 Tryz.underlying141 Tryz.underlying5
theorem conv_again (s : ByteArray) (w : World) (c : Nat) : (convert 141 9 (.slice (some ⟨w.heap.size, 0, none⟩) s.size c)).run Tryz.prog (Lib.bytesWorld w 5 s) = .ok (.string s) (Lib.bytesWorld w 5 s) := by
  rw [run_convert_bytes_string _ 141 9 5 _ _ _ Tryz.underlying141 Tryz.underlying5 Tryz.underlying9]
  have h := run_bytesToString (P := Tryz.prog) (Lib.bytesWorld w 5 s) ⟨w.heap.size, 0, none⟩ s.size c (byl s) ?_
  · rw [h]; exact congrArg (fun x => Result.ok (Value.string x) _) (asText_byl s)
  · have h2 := run_loadCells_list (P := Tryz.prog) (w := Lib.bytesWorld w 5 s) ⟨w.heap.size, 0, none⟩ ((byl s).map (Value.int .u8)) (fun j u hj => by
      rw [List.getElem?_map] at hj
      have hlt : j < s.size := by
        by_cases q : j < s.size
        · exact q
        · rw [List.getElem?_eq_none (by rw [byl_len]; omega)] at hj; cases hj
      rw [byl_get s j hlt] at hj
      cases hj
      have h3 := Lib.bytesWorld_cell w 5 s j hlt
      rw [Addr.add_lit, Nat.zero_add, h3]
      have : s.data.toList.getD j 0 = s[j] := by
        rw [List.getD_eq_getElem?_getD, List.getElem?_eq_getElem (by simpa using hlt)]; rfl
      rw [this])
    rwa [List.length_map, byl_len] at h2

/-- A node in a box that is the call's own. -/
structure NX (W : World) (b : Nat) (n : Nd) : Prop where
  heap : W.heap[b]? = some (.cells #[.int .i64 n.op, .int .i64 n.nn, .string n.tx, .int .u64 n.s0, .int .u64 n.s1, .int .u64 n.s2, .int .u64 n.s3] 70 (0, 0))
theorem NX.lt {W : World} {b : Nat} {n : Nd} (h : NX W b n) : b < W.heap.size := (Array.getElem?_eq_some_iff.1 h.heap).1
theorem NX.same {W W' : World} {b : Nat} {n : Nd} (h : NX W b n) (hb : W'.heap[b]? = W.heap[b]?) : NX W' b n := ⟨hb.trans h.heap⟩
theorem NX.nb {W : World} {b : Nat} {n : Nd} (h : NX W b n) : NB W b 0 n := by
  have key : ∀ (j : Nat) u, (#[Value.int .i64 n.op, .int .i64 n.nn, .string n.tx, .int .u64 n.s0, .int .u64 n.s1, .int .u64 n.s2, .int .u64 n.s3] : Array Value)[j]? = some u → W.cell? ⟨b, j, none⟩ = some u := fun j u hu => by
    rw [cell_of_row W b j _ 70 (0, 0) h.heap]
    exact hu
  exact ⟨key 0 _ rfl, key 1 _ rfl, key 2 _ rfl, key 3 _ rfl, key 4 _ rfl, key 5 _ rfl, key 6 _ rfl⟩
theorem NX.fz {W : World} {b : Nat} {n : Nd} (h : NX W b n) (j : Nat) : W.frozen? ⟨b, j, none⟩ = false := frozen_of_row W b j _ 70 h.heap
theorem NX.tx {W : World} {b : Nat} {n : Nd} (h : NX W b n) : NX (W.setCell ⟨b, 2, none⟩ (.string n.tx)) b n := ⟨by rw [heap_setCell_same W b 2 _ 70 _ h.heap]; rfl⟩

set_option maxRecDepth 100000 in
set_option maxHeartbeats 4000000 in
theorem copied_any (n : Nd) (w : World) : Calls Tryz.prog 68 #[ndG n] w fun e w' => e = .returned (ndG n) ∧ Below w.heap.size w w' := by
  obtain ⟨W2, hW2⟩ : ∃ W2, W2 = (w.alloc (.cells #[.int .i64 n.op, .int .i64 n.nn, .string n.tx, .int .u64 n.s0, .int .u64 n.s1, .int .u64 n.s2, .int .u64 n.s3] 70)).alloc (.cells #[.int .i64 0, .int .i64 0, .string ⟨#[]⟩, .int .u64 0, .int .u64 0, .int .u64 0, .int .u64 0] 70) := ⟨_, rfl⟩
  have hx1 : NX W2 w.heap.size n := by
    rw [hW2]
    exact NX.same ⟨heap_alloc_new w _⟩ ((below_box (w.alloc (ndO n)) _).block _ (by simp))
  have hx2 : NX W2 (w.heap.size + 1) (zN 0) := by
    rw [hW2]
    have h := heap_alloc_new (w.alloc (ndO n)) (ndO (zN 0))
    rw [World.size_alloc] at h
    exact ⟨h⟩
  have hB : Below w.heap.size w W2 := by rw [hW2]; exact (below_box w _).alloc (below_box w _).size _
  have hs2 : W2.heap.size = w.heap.size + 2 := by rw [hW2]; simp
  have hb3 := Lib.bytesWorld_below W2 5 n.tx
  have hx1' : NX (Lib.bytesWorld W2 5 n.tx) w.heap.size n := hx1.same (hb3.block _ hx1.lt)
  have hx2' : NX (Lib.bytesWorld W2 5 n.tx) (w.heap.size + 1) (zN 0) := hx2.same (hb3.block _ hx2.lt)
  have HB3 := (show Hid (Below w.heap.size w (Lib.bytesWorld W2 5 n.tx)) from hB.trans (hb3.mono (by omega)))
  have hc1 := conv_bytes n.tx
  have hc2 : ∀ c, (convert 141 9 (.slice (some ⟨w.heap.size + 1 + 1, 0, none⟩) n.tx.size c)).run Tryz.prog (Lib.bytesWorld W2 5 n.tx) = .ok (.string n.tx) (Lib.bytesWorld W2 5 n.tx) := fun c => by
    have h := conv_again n.tx W2 c
    rw [hs2] at h
    exact h
  have HX1 := (show Hid (NX (Lib.bytesWorld W2 5 n.tx) w.heap.size n) from hx1')
  have HX2 := (show Hid (NX (Lib.bytesWorld W2 5 n.tx) (w.heap.size + 1) (zN 0)) from hx2')
  have HY1 := (show Hid (NX ((Lib.bytesWorld W2 5 n.tx).setCell ⟨w.heap.size, 2, none⟩ (.string n.tx)) w.heap.size n) from HX1.out.tx)
  have HY2 := (show Hid (NX ((Lib.bytesWorld W2 5 n.tx).setCell ⟨w.heap.size, 2, none⟩ (.string n.tx)) (w.heap.size + 1) (zN 0)) from HX2.out.same (heap_setCell_other _ _ _ _ (by simp)))
  have HY3 := (show Hid (NX (((((((((Lib.bytesWorld W2 5 n.tx).setCell ⟨w.heap.size, 2, none⟩ (.string n.tx)).setCell ⟨w.heap.size + 1, 0, none⟩ (.int .i64 n.op)).setCell ⟨w.heap.size + 1, 1, none⟩ (.int .i64 n.nn)).setCell ⟨w.heap.size + 1, 2, none⟩ (.string n.tx)).setCell ⟨w.heap.size + 1, 3, none⟩ (.int .u64 n.s0)).setCell ⟨w.heap.size + 1, 4, none⟩ (.int .u64 n.s1)).setCell ⟨w.heap.size + 1, 5, none⟩ (.int .u64 n.s2)).setCell ⟨w.heap.size + 1, 6, none⟩ (.int .u64 n.s3)) (w.heap.size + 1) n) from ⟨by
    have h := HY2.out.heap
    have h0 := heap_setCell_same _ (w.heap.size + 1) 0 _ 70 (.int .i64 n.op) h
    have h1 := heap_setCell_same _ (w.heap.size + 1) 1 _ 70 (.int .i64 n.nn) h0
    have h2 := heap_setCell_same _ (w.heap.size + 1) 2 _ 70 (.string n.tx) h1
    have h3 := heap_setCell_same _ (w.heap.size + 1) 3 _ 70 (.int .u64 n.s0) h2
    have h4 := heap_setCell_same _ (w.heap.size + 1) 4 _ 70 (.int .u64 n.s1) h3
    have h5 := heap_setCell_same _ (w.heap.size + 1) 5 _ 70 (.int .u64 n.s2) h4
    have h6 := heap_setCell_same _ (w.heap.size + 1) 6 _ 70 (.int .u64 n.s3) h5
    rw [h6]; rfl⟩)
  have HU := (show Hid (Below w.heap.size w (((((((((Lib.bytesWorld W2 5 n.tx).setCell ⟨w.heap.size, 2, none⟩ (.string n.tx)).setCell ⟨w.heap.size + 1, 0, none⟩ (.int .i64 n.op)).setCell ⟨w.heap.size + 1, 1, none⟩ (.int .i64 n.nn)).setCell ⟨w.heap.size + 1, 2, none⟩ (.string n.tx)).setCell ⟨w.heap.size + 1, 3, none⟩ (.int .u64 n.s0)).setCell ⟨w.heap.size + 1, 4, none⟩ (.int .u64 n.s1)).setCell ⟨w.heap.size + 1, 5, none⟩ (.int .u64 n.s2)).setCell ⟨w.heap.size + 1, 6, none⟩ (.int .u64 n.s3))) from (((((((HB3.out.setCell (by simp) _).setCell (by simp) _).setCell (by simp) _).setCell (by simp) _).setCell (by simp) _).setCell (by simp) _).setCell (by simp) _).setCell (by simp) _)
  have k2 := HX1.out.nb.c2
  have f2 := HX1.out.fz 2
  rw [Nat.zero_add] at k2
  obtain ⟨c0, c1, c2, c3, c4, c5, c6⟩ := HY1.out.nb
  obtain ⟨d0, d1, d2, d3, d4, d5, d6⟩ := HY2.out.nb
  simp only [Nat.zero_add, zN] at c0 c1 c2 c3 c4 c5 c6 d0 d1 d2 d3 d4 d5 d6
  have g0 := HY2.out.fz 0
  have g1 := HY2.out.fz 1
  have g2 := HY2.out.fz 2
  have g3 := HY2.out.fz 3
  have g4 := HY2.out.fz 4
  have g5 := HY2.out.fz 5
  have g6 := HY2.out.fz 6
  clear hx1 hx2 hB hb3 hx1' hx2' hs2 HX1 HX2 HB3 HY1 HY2
  subst hW2
  go_enter Tryz.func68, Tryz.ntmps68
  go_wp2_with fail
  generalize (((((((((Lib.bytesWorld ((w.alloc (.cells #[.int .i64 n.op, .int .i64 n.nn, .string n.tx, .int .u64 n.s0, .int .u64 n.s1, .int .u64 n.s2, .int .u64 n.s3] 70)).alloc (.cells #[.int .i64 0, .int .i64 0, .string ⟨#[]⟩, .int .u64 0, .int .u64 0, .int .u64 0, .int .u64 0] 70)) 5 n.tx).setCell ⟨w.heap.size, 2, none⟩ (.string n.tx)).setCell ⟨w.heap.size + 1, 0, none⟩ (.int .i64 n.op)).setCell ⟨w.heap.size + 1, 1, none⟩ (.int .i64 n.nn)).setCell ⟨w.heap.size + 1, 2, none⟩ (.string n.tx)).setCell ⟨w.heap.size + 1, 3, none⟩ (.int .u64 n.s0)).setCell ⟨w.heap.size + 1, 4, none⟩ (.int .u64 n.s1)).setCell ⟨w.heap.size + 1, 5, none⟩ (.int .u64 n.s2)).setCell ⟨w.heap.size + 1, 6, none⟩ (.int .u64 n.s3)) = W9 at *
  clear c0 c1 c2 c3 c4 c5 c6 d0 d1 d2 d3 d4 d5 d6 g0 g1 g2 g3 g4 g5 g6 k2 f2 hc1 hc2
  obtain ⟨c0, c1, c2, c3, c4, c5, c6⟩ := HY3.out.nb
  simp only [Nat.zero_add] at c0 c1 c2 c3 c4 c5 c6
  refine bodyPost_ret (v := ndG n) (by simp [results, Tryz.results68, go_sem, c0, c1, c2, c3, c4, c5, c6]) rfl ⟨rfl, HU.out⟩
end Go.Proofs.YtbnihflihelimaaGreat.T
