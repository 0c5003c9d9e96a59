/- DERIVED. Walks: Least, Single, by the program. -/
import Derived.Test.YtlcmlipldkpliaaEach
import Derived.Test.YtlcmlipldkpliaaCount
import Derived.Test.YtlcmlipldkpliaaRefs
namespace Go.Proofs.Ytlcmlipldkpliaa
open Go.RowKit Go.Shelf

attribute [local go_sem] Oper.semAt_some

/-- A box of one cell: what it holds, and that it may be written. -/
structure Box1 (W : World) (b : Nat) (v : Value) : Prop where
  c : W.cell? ⟨b, 0, none⟩ = some v
  f : W.frozen? ⟨b, 0, none⟩ = false
theorem Box1.new (W : World) (v : Value) (t : TypeId) : Box1 (W.alloc (.cells #[v] t)) W.heap.size v := by
  have h := World.alloc_heap_new W (.cells #[v] t)
  exact ⟨by unfold World.cell?; rw [h]; rfl, by unfold World.frozen?; rw [h]; rfl⟩
theorem Box1.kept {W W' : World} {b : Nat} {v : Value} {row : Option Nat} (h : Box1 W b v) (hg : W.grownBy W' row) (hr : ∀ r, row = some r → ∃ o : Obj, W.heap[r]? = some o ∧ o.isCells = false) : Box1 W' b v :=
  ⟨cell_kept h.1 hg hr, (frozen_kept h.1 hg hr).trans h.2⟩
theorem Box1.alloc {W : World} {b : Nat} {v : Value} (h : Box1 W b v) (o : Obj) : Box1 (W.alloc o) b v := h.kept (World.grownBy_alloc W o none) (fun r e => by cases e)
theorem Box1.set {W : World} {b : Nat} {v : Value} (h : Box1 W b v) (u : Value) : Box1 (W.setCell ⟨b, 0, none⟩ u) b u :=
  ⟨World.cell?_setCell_same' _ _ _ (by rw [h.1]; rfl), by rw [World.frozen?_setCell]; exact h.2⟩
theorem Box1.other {W : World} {b c : Nat} {v : Value} (h : Box1 W b v) (hne : b ≠ c) (u : Value) : Box1 (W.setCell ⟨c, 0, none⟩ u) b v := by
  obtain ⟨h1, h2⟩ := h
  constructor <;> simp [go_sem, *]

/-- The least byte of a set. -/
def lst (x : BitVec 256) : Int × Bool := match byf x 256 with
  | b :: _ => ((b.val : Int), true)
  | [] => (0, false)

theorem least_w3 (w : World) (o p q : Obj) : (((w.alloc o).alloc p).alloc q).heap.size = w.heap.size + 1 + 1 + 1 := by simp

set_option maxRecDepth 100000 in
set_option maxHeartbeats 2000000 in
theorem least_in (n : Nat) (hn : 3 ≤ n) (x : BitVec 256) (w : World) :
    CallsIn Fence.wide n Try.prog 27 #[sv x] w fun e W' => e = .returned (.tuple #[.int .i64 (lst x).1, .bool (lst x).2]) ∧ Below w.heap.size w W' := by
  have h1 : 1 ≤ n := by omega
  refine callsIn_of_wp_marks Try.func27 rfl trivial ?_ rfl
  simp only [Try.ntmps27, List.size_toArray, List.length_cons, List.length_nil, Nat.reduceAdd, Nat.reduceSub, Array.replicate_succ, Array.replicate_zero, List.push_toArray, List.append_toArray, List.nil_append, List.cons_append]
  gi_wp2_with fail
  refine ⟨trivial, (each_in (n - 1) x _).mono ?_⟩
  rintro e w' ⟨rfl, rfl⟩
  gi_wp2_with fail
  have hw4 := least_w3 w (c4 x) (.cells #[.int .i64 0] 3) (.cells #[.bool false] 4)
  have hX := Holds.new (((w.alloc (c4 x)).alloc (.cells #[.int .i64 0] 3)).alloc (.cells #[.bool false] 4)) x
  rw [hw4] at hX
  have b1 := ((Box1.new (w.alloc (c4 x)) (.int .i64 0) 3).alloc (.cells #[.bool false] 4)).alloc (c4 x)
  rw [size1] at b1
  have b2 := (Box1.new ((w.alloc (c4 x)).alloc (.cells #[.int .i64 0] 3)) (.bool false) 4).alloc (c4 x)
  rw [size2] at b2
  have hB0 : Below w.heap.size w ((((w.alloc (c4 x)).alloc (.cells #[.int .i64 0] 3)).alloc (.cells #[.bool false] 4)).alloc (c4 x)) := (below3 _ _ _ _).alloc (by simp; omega) _
  refine wpIn_rangeFunc_ownF rfl h1 (gf := 78) (lb := #[.pointer (some ⟨w.heap.size + 1 + 1 + 1, 0, none⟩)]) rfl trivial (enters_of Try.func78 (by kernel_rfl) rfl)
    (each_stops (n - 1) (by omega) (w.heap.size + 1 + 1 + 1) x _ hX) KeepB.trans (KeepB.put hX.lt) (Below.refl _ _) (fun _ => rfl)
    (fun pre W => (pre = [] ∧ (Box1 W (w.heap.size + 1) (.int .i64 0) ∧ Box1 W (w.heap.size + 1 + 1) (.bool false))) ∧ Below w.heap.size w W)
    (fun c pre W => (c = .ret ∧ ∃ b : Fin 256, pre = [b] ∧ (Box1 W (w.heap.size + 1) (.int .i64 (b.val : Int)) ∧ Box1 W (w.heap.size + 1 + 1) (.bool true))) ∧ Below w.heap.size w W)
    (OwnFrom.and (Own.from (fun s A B row hs hg hr => ⟨hs.1, hs.2.1.kept hg hr, hs.2.2.kept hg hr⟩) _) (ownFrom_below (Nat.le_refl _) (by simp; omega)))
    (fun c => OwnFrom.and (Own.from (fun s A B row hs hg hr => ⟨hs.1, let ⟨b, hb, h2, h3⟩ := hs.2; ⟨b, hb, h2.kept hg hr, h3.kept hg hr⟩⟩) _) (ownFrom_below (Nat.le_refl _) (by simp; omega)))
    ⟨⟨rfl, b1, b2⟩, hB0⟩
    (fun b => { tmps := #[sv x, .pointer (some ⟨w.heap.size, 0, none⟩), .pointer (some ⟨w.heap.size + 1, 0, none⟩), .pointer (some ⟨w.heap.size + 1 + 1, 0, none⟩), .int .i64 (b.val : Int), sv x, .func (.func 78) #[] #[.pointer (some ⟨w.heap.size + 1 + 1 + 1, 0, none⟩)], .int .i64 (b.val : Int), undef], defers := [] }) ?assign ?body ?done ?stop
  case assign =>
    intro l b W K hK
    gi_wp2
    exact hK
  case body =>
    rintro l pre b W ⟨⟨rfl, h1, h2⟩, hB⟩ _
    have H1 := (show Hid _ from h1)
    have H2 := (show Hid _ from h2)
    obtain ⟨c1, f1⟩ := h1
    obtain ⟨c2, f2⟩ := h2
    gi_wp2
    exact ⟨(KeepsOthers.setCell _ _ _).trans (KeepsOthers.setCell _ _ _), ⟨rfl, b, rfl, (H1.out.set _).other (by omega) _, (H2.out.other (by omega) _).set _⟩, (hB.setCell (p := ⟨w.heap.size + 1, 0, none⟩) (by simp) _).setCell (p := ⟨w.heap.size + 1 + 1, 0, none⟩) (by simp; omega) _⟩
  case done =>
    rintro D ys W hD rfl ⟨⟨he, h1, h2⟩, hB⟩ hK
    have H1 := (show Hid _ from h1)
    have H2 := (show Hid _ from h2)
    have HE : Hid (lst x = (0, false)) := (by show lst x = _; unfold lst; rw [he])
    obtain ⟨c1, f1⟩ := h1
    obtain ⟨c2, f2⟩ := h2
    clear he
    gi_wp2
    have hK' := ((KeepsOthers.setCell W ⟨w.heap.size + 1, 0, none⟩ (.int .i64 0)).trans (KeepsOthers.setCell _ ⟨w.heap.size + 1 + 1, 0, none⟩ (.bool false))).same D _ hK rfl
    refine ⟨by simp, .inl ⟨_, _, rfl, run_takeDeferred hK', ?_⟩⟩
    have g1 := ((H1.out.set (.int .i64 0)).other (show w.heap.size + 1 ≠ w.heap.size + 1 + 1 by omega) (.bool false)).kept (grownBy_putObj' _ D (.deferred none)) (fun r e => by cases e; exact ⟨_, hK', rfl⟩)
    have g2 := ((H2.out.other (show w.heap.size + 1 + 1 ≠ w.heap.size + 1 by omega) (.int .i64 0)).set (.bool false)).kept (grownBy_putObj' _ D (.deferred none)) (fun r e => by cases e; exact ⟨_, hK', rfl⟩)
    obtain ⟨g1, _⟩ := g1
    obtain ⟨g2, _⟩ := g2
    refine ⟨.tuple #[.int .i64 0, .bool false], ?_, by rw [HE.out], ((hB.setCell (p := ⟨w.heap.size + 1, 0, none⟩) (by simp) _).setCell (p := ⟨w.heap.size + 1 + 1, 0, none⟩) (by simp; omega) _).trans (belowK_b (w := w) (Nat.le_refl _) _ D _ _ (by simp at hD; omega) hK' rfl rfl)⟩
    simp [results, Try.results27, go_sem, g1, g2]
  case stop =>
    rintro D c pre W hD hpre ⟨⟨rfl, b, rfl, h1, h2⟩, hB⟩ hK
    have HE : Hid (lst x = ((b.val : Int), true)) := (by
      show lst x = _
      obtain ⟨t, ht⟩ := hpre
      unfold lst; rw [← ht]; rfl)
    gi_wp2
    refine ⟨by simp, .inl ⟨_, _, rfl, run_takeDeferred hK, ?_⟩⟩
    obtain ⟨g1, _⟩ := h1.kept (grownBy_putObj' _ D (.deferred none)) (fun r e => by cases e; exact ⟨_, hK, rfl⟩)
    obtain ⟨g2, _⟩ := h2.kept (grownBy_putObj' _ D (.deferred none)) (fun r e => by cases e; exact ⟨_, hK, rfl⟩)
    refine ⟨.tuple #[.int .i64 (b.val : Int), .bool true], ?_, by rw [HE.out], hB.trans (belowK_b (w := w) (Nat.le_refl _) W D _ _ (by simp at hD; omega) hK rfl rfl)⟩
    simp [results, Try.results27, go_sem, g1, g2]

theorem least_any (x : BitVec 256) (w : World) :
    Calls Try.prog 27 #[sv x] w fun e w' => e = .returned (.tuple #[.int .i64 (lst x).1, .bool (lst x).2]) ∧ Below w.heap.size w w' :=
  (callsIn_wide (n := 3)).1 (least_in 3 (by omega) x w)
end Go.Proofs.Ytlcmlipldkpliaa
