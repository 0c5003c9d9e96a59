/- DERIVED. Walks: Bytes, by the program. -/
import Derived.RangeFuncBox
import Derived.Test.YtlcmlipldkpliaaLeast
namespace Go.Proofs.Ytlcmlipldkpliaa
open Go.RowKit Go.Shelf

attribute [local go_sem] Oper.semAt_some

theorem own_base {w : World} {base base' e size : Nat} {v : Value} {n : Nat} {xs : List Value} (h : w.ownsRow base e size v n xs) (hb : base' ≤ base) : w.ownsRow base' e size v n xs := by
  refine ⟨h.1, h.2.imp id ?_⟩
  rintro ⟨g, cap, cur, h1, h2, h3⟩
  exact ⟨g, cap, cur, h1, by omega, h3⟩

/-- Behind 'l = append(l, ..)' in a box B below the row's base R: what was below R, but for the box, is as it was. -/
theorem append_keep {W w1 : World} {R B b : Nat} {v : Value} {tmp : Obj} {v' : Value} (hlt : ∀ k, v.ownBlock = some k → R ≤ k) (hgrow : (W.alloc tmp).grownBy w1 v.ownBlock) (hb : b < W.heap.size) (hR : b < R) (hne : b ≠ B) :
    KeepB b W (w1.setCell ⟨B, 0, none⟩ v') := by
  refine (KeepB.alloc hb tmp).trans ((KeepB.grown hgrow (by simp; omega) (fun e => ?_)).trans (KeepB.setCell (p := ⟨B, 0, none⟩) hne _))
  have := hlt _ e
  omega

/-- The numbers of a list of bytes. -/
def nums (l : List (Fin 256)) : List Int := l.map (fun b => (b.val : Int))
theorem nums_snoc (l : List (Fin 256)) (b : Fin 256) : nums (l ++ [b]) = nums l ++ [(b.val : Int)] := by unfold nums; rw [List.map_append]; rfl
theorem nums_len (l : List (Fin 256)) : (nums l).length = l.length := List.length_map _

set_option maxRecDepth 100000 in
set_option maxHeartbeats 2000000 in
theorem bytes_in (n : Nat) (hn : 3 ≤ n) (x : BitVec 256) (w : World) :
    CallsIn Fence.wide n Try.prog 37 #[sv x] w fun e W' => e = .returned (.string (asText (bys x))) ∧ Below w.heap.size w W' := by
  have h1 : 1 ≤ n := by omega
  obtain ⟨i0, hi, hz0, hz1, hz2⟩ := info_parts Try.info5
  refine callsIn_of_wp_marks Try.func37 rfl trivial ?_ rfl
  simp only [Try.ntmps37, List.size_toArray, List.length_cons, List.length_nil, Nat.reduceAdd, Nat.reduceSub, Array.replicate_succ, Array.replicate_zero, List.push_toArray, List.append_toArray, List.nil_append, List.cons_append]
  gi_wp2_with fail
  refine ⟨trivial, (each_in (n - 1) x _).mono ?_⟩
  rintro e w' ⟨rfl, rfl⟩
  gi_wp2_with fail
  have hX := Holds.new ((w.alloc (c4 x)).alloc (.cells #[.slice none 0 0] 75)) x
  rw [size2] at hX
  have bO := (Boxed.new (w.alloc (c4 x)) 75 (.slice none 0 0)).alloc (c4 x)
  rw [size1] at bO
  have hB0 := below3 w (c4 x) (.cells #[.slice none 0 0] 75) (c4 x)
  refine wpIn_rangeFunc_ownG rfl h1 (gf := 78) (lb := #[.pointer (some ⟨w.heap.size + 1 + 1, 0, none⟩)]) rfl trivial (enters_of Try.func78 (by kernel_rfl) rfl)
    (each_stops (n - 1) (by omega) (w.heap.size + 1 + 1) x _ hX) KeepB.trans (KeepB.put hX.lt) (Below.refl _ _) (fun _ => rfl)
    (fun pre W => (∃ v, Boxed W (w.heap.size + 1) 75 v ∧ W.ownsRow (w.heap.size + 1 + 1 + 1) 5 1 v (nums pre).length ((nums pre).map (Value.int .u8)) ∧ True) ∧ (Below w.heap.size w W ∧ Hid (w.heap.size + 1 + 1 + 1 ≤ W.heap.size)))
    (fun _ _ _ => False)
    (OwnFrom.and (Own.from (holdsRow_own (w.heap.size + 1 + 1 + 1) (w.heap.size + 1) 75 5 1 (fun pre => (nums pre).length) (fun pre => (nums pre).map (Value.int .u8)) (fun _ _ => True)) _) (OwnFrom.and (ownFrom_below (Nat.le_refl _) (by simp; omega)) (fun s W W' row hs hg hr => Nat.le_trans hs hg.size)))
    (fun _ _ _ _ _ hs _ _ => hs)
    ⟨⟨_, bO, World.ownsRow_nil _ _ _ _, trivial⟩, hB0, (show w.heap.size + 1 + 1 + 1 ≤ _ by simp)⟩
    (fun b => { tmps := #[sv x, .pointer (some ⟨w.heap.size, 0, none⟩), .string ⟨#[]⟩, .pointer (some ⟨w.heap.size + 1, 0, none⟩), .int .i64 (b.val : Int), sv x, .func (.func 78) #[] #[.pointer (some ⟨w.heap.size + 1 + 1, 0, none⟩)], .int .i64 (b.val : Int), undef, undef, undef, undef, undef, undef, undef], defers := [] }) ?assign ?body ?done ?stop
  case assign =>
    intro l b W K hK
    gi_wp2
    exact hK
  case body =>
    rintro l pre b W ⟨⟨v, hv, hrow, _⟩, hB, HZ⟩ hlt
    have hc := hv.cell
    have hw8 : IntKind.u8.wrap (b.val : Int) = (b.val : Int) := by have := b.isLt; rw [IntKind.wrap_u8']; omega
    have hlen : (nums pre).length < 256 := by rw [nums_len]; exact hlt
    have hle := fun k e => (hrow.lt k e).1
    gi_wp2_with (gi_at_builtin; refine wpListIn_append_own _ rfl _ _ 75 rfl (w.heap.size + 1 + 1 + 1) 5 i0 (.int .u8 0) 1 1 Try.underlying75 hi hz0 hz1 hz2 rfl (by decide) _ _ _ rfl (hrow.alloc _) ⟨W.heap.size, 0, none⟩ 1 1 [.int .u8 (b.val : Int)] rfl rfl (cell_one_new _ _ _) (by simp [Value.oneCell']) (by unfold maxLen; omega) (by omega) (by have := HZ.out; simp; omega) ?_; intro v' w1 hown' hgrow _; obtain ⟨g', cap', rfl⟩ := ownsRow_succ hown'; obtain ⟨hv1, hv2, hr2, hk2, hb2⟩ := hv.appended (n₀ := w.heap.size + 1) (by decide) (own_base hrow (by omega)) (by have := HZ.out; omega) (Nat.le_refl _) (own_base hown' (by omega)) hgrow; have hr3 := hown'.kept (grownBy_setCell' w1 (w.heap.size + 1) (.slice (some ⟨g', 0, none⟩) ((nums pre).length + 1) cap')) (.inr (hv1.not_row (by decide) hown').symm); have hc1 := hv1.cell; have hf1 := hv1.frozen)
    refine ⟨hk2.from _, append_keep hle hgrow (by have := HZ.out; omega) (by omega) (by omega), ⟨_, hv2, ?_, trivial⟩, hB.trans (hb2.mono (by omega)), Nat.le_trans HZ.out hb2.size⟩
    rw [nums_snoc]; simpa using hr3
  case done =>
    rintro D ys W hD rfl ⟨⟨v, hv, hrow, _⟩, hB, _⟩ hK
    have hc := hv.cell
    have ht := text_own hrow
    have HT : Hid (nums (byf x 256) = bys x) := byf_val x 256 (Nat.le_refl _)
    gi_wp2
    refine ⟨by simp, .inl ⟨_, _, rfl, run_takeDeferred hK, ?_⟩⟩
    exact ⟨_, results_tmp rfl _ _ _, by rw [← HT.out]; rfl, hB.trans (belowK_b (w := w) (Nat.le_refl _) W D _ _ (by simp at hD; omega) hK rfl rfl)⟩
  case stop =>
    rintro D c pre W _ _ h _
    exact h.elim

theorem bytes_any (x : BitVec 256) (w : World) :
    Calls Try.prog 37 #[sv x] w fun e w' => e = .returned (.string (asText (bys x))) ∧ Below w.heap.size w w' :=
  (callsIn_wide (n := 3)).1 (bytes_in 3 (by omega) x w)
end Go.Proofs.Ytlcmlipldkpliaa
