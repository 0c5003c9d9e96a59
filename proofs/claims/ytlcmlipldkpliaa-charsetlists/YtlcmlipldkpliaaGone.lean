/- DERIVED. Walks: gone: the members that are gone over, at most so many. -/
import Derived.Test.YtlcmlipldkpliaaBytesA
namespace Go.Proofs.Ytlcmlipldkpliaa
open Go.RowKit Go.Shelf

attribute [local go_sem] Oper.semAt_some

theorem Try.info3 : (Try.prog.info? 3).map (fun i => (i.zero, i.size, i.bytes)) = some (some (.int .i64 0), 1, 8) := by kernel_rfl

set_option maxRecDepth 100000 in
set_option maxHeartbeats 2000000 in
theorem gone_in (n : Nat) (hn : 3 ≤ n) (x : BitVec 256) (most : Nat) (w : World) :
    CallsIn Fence.wide n Try.prog 36 #[sv x, .int .i64 most] w fun e W' => ∃ v, e = .returned (.tuple #[v, .bool true]) ∧ W'.ownsRow (w.heap.size + 1) 3 1 v (nums ((byf x 256).take most)).length ((nums ((byf x 256).take most)).map (Value.int .i64)) ∧ Below w.heap.size w W' := by
  have h1 : 1 ≤ n := by omega
  have hfn : ∀ (a : Value) (w : World), (binOp .eql 77 (.func (.func 78) #[] #[a]) .nilFunc).run Try.prog w = .ok (.bool false) w := fun _ _ => by kernel_rfl
  obtain ⟨i0, hi, hz0, hz1, hz2⟩ := info_parts Try.info3
  refine callsIn_of_wp_marks Try.func36 rfl trivial ?_ rfl
  simp only [Try.ntmps36, List.size_toArray, List.length_cons, List.length_nil, Nat.reduceAdd, Nat.reduceSub, Array.replicate_succ, Array.replicate_zero, List.push_toArray, List.append_toArray, List.nil_append, List.cons_append]
  gi_wp2_with fail
  refine ⟨trivial, (each_in (n - 1) x _).mono ?_⟩
  rintro e w' ⟨rfl, rfl⟩
  gi_wp2_with fail
  have hX := Holds.new (((w.alloc (c4 x)).alloc (.cells #[.int .i64 most] 3)).alloc (.cells #[.slice none 0 0] 45)) x
  rw [size3] at hX
  have bO := (Boxed.new ((w.alloc (c4 x)).alloc (.cells #[.int .i64 most] 3)) 45 (.slice none 0 0)).alloc (c4 x)
  rw [size2] at bO
  have bM := ((Box1.new (w.alloc (c4 x)) (.int .i64 most) 3).alloc (.cells #[.slice none 0 0] 45)).alloc (c4 x)
  rw [size1] at bM
  have hB0 : Below w.heap.size w ((((w.alloc (c4 x)).alloc (.cells #[.int .i64 most] 3)).alloc (.cells #[.slice none 0 0] 45)).alloc (c4 x)) := (below3 w _ _ _).alloc (by simp; omega) _
  refine wpIn_rangeFunc_ownG rfl h1 (gf := 78) (lb := #[.pointer (some ⟨w.heap.size + 1 + 1 + 1, 0, none⟩)]) rfl trivial (enters_of Try.func78 (by kernel_rfl) rfl)
    (each_stops (n - 1) (by omega) (w.heap.size + 1 + 1 + 1) x _ hX) KeepB.trans (KeepB.put hX.lt) (Below.refl _ _) (fun _ => rfl)
    (fun pre W => (∃ v, Boxed W (w.heap.size + 1 + 1) 45 v ∧ W.ownsRow (w.heap.size + 1 + 1 + 1 + 1) 3 1 v (nums pre).length ((nums pre).map (Value.int .i64)) ∧ pre.length ≤ most) ∧ (Box1 W (w.heap.size + 1) (.int .i64 most) ∧ (Below w.heap.size w W ∧ Hid (w.heap.size + 1 + 1 + 1 + 1 ≤ W.heap.size))))
    (fun c pre W => (∃ v, Boxed W (w.heap.size + 1 + 1) 45 v ∧ W.ownsRow (w.heap.size + 1 + 1 + 1 + 1) 3 1 v (nums (pre.take most)).length ((nums (pre.take most)).map (Value.int .i64)) ∧ (c = .exit 0 ∧ most ≤ pre.length)) ∧ (Below w.heap.size w W))
    (OwnFrom.and (Own.from (holdsRow_own (w.heap.size + 1 + 1 + 1 + 1) (w.heap.size + 1 + 1) 45 3 1 (fun pre => (nums pre).length) (fun pre => (nums pre).map (Value.int .i64)) (fun pre _ => pre.length ≤ most)) _) (OwnFrom.and (Own.from (fun s A B row hs hg hr => hs.kept hg hr) _) (OwnFrom.and (ownFrom_below (Nat.le_refl _) (by simp; omega)) (fun s W W' row hs hg hr => Nat.le_trans hs hg.size))))
    (fun c => OwnFrom.and (Own.from (holdsRow_own (w.heap.size + 1 + 1 + 1 + 1) (w.heap.size + 1 + 1) 45 3 1 (fun (pre : List (Fin 256)) => (nums (pre.take most)).length) (fun (pre : List (Fin 256)) => (nums (pre.take most)).map (Value.int .i64)) (fun (pre : List (Fin 256)) _ => c = .exit 0 ∧ most ≤ pre.length)) _) (ownFrom_below (Nat.le_refl _) (by simp; omega)))
    ⟨⟨_, bO, World.ownsRow_nil _ _ _ _, Nat.zero_le _⟩, bM, hB0, (show w.heap.size + 1 + 1 + 1 + 1 ≤ _ by simp)⟩
    (fun b => { tmps := #[sv x, .int .i64 most, .pointer (some ⟨w.heap.size, 0, none⟩), .pointer (some ⟨w.heap.size + 1, 0, none⟩), .slice none 0 0, .bool false, .pointer (some ⟨w.heap.size + 1 + 1, 0, none⟩), .func (.func 78) #[] #[.pointer (some ⟨w.heap.size + 1 + 1 + 1, 0, none⟩)], .int .i64 (b.val : Int), sv x, .func (.func 78) #[] #[.pointer (some ⟨w.heap.size + 1 + 1 + 1, 0, none⟩)], .func (.func 78) #[] #[.pointer (some ⟨w.heap.size + 1 + 1 + 1, 0, none⟩)], .bool false, .func (.func 78) #[] #[.pointer (some ⟨w.heap.size + 1 + 1 + 1, 0, none⟩)], .int .i64 (b.val : Int), undef, undef, undef, undef, undef, undef, undef, undef, undef], defers := [] }) ?assign ?body ?done ?stop
  case assign =>
    intro l b W K hK
    gi_wp2
    exact hK
  case body =>
    rintro l pre b W ⟨⟨v, hv, hrow, hle0⟩, hbm, hB, HZ⟩ hlt
    have hc := hv.cell
    have hcm := hbm.c
    have HBM := (show Hid _ from hbm)
    clear hbm
    have hlen : (nums pre).length < 256 := by rw [nums_len]; exact hlt
    have HNL := (show Hid _ from nums_len pre)
    have hle := fun k e => (hrow.lt k e).1
    obtain ⟨a, cap, rfl⟩ : ∃ a cap, v = .slice a (nums pre).length cap := by
      rcases hrow.2 with ⟨rfl, h0⟩ | ⟨g, cap, cur, rfl, _⟩
      · exact ⟨none, 0, by rw [h0]⟩
      · exact ⟨_, _, rfl⟩
    by_cases he : pre.length = most
    · have heb : (((nums pre).length : Int) == (most : Int)) = true := by rw [HNL.out, he]; exact beq_self_eq_true _
      gi_wp2_with fail
      refine ⟨KeepsFrom.refl _ _, ⟨_, hv, ?_, rfl, by simp; omega⟩, hB⟩
      rw [List.take_left' he]; exact hrow
    · have heb : (((nums pre).length : Int) == (most : Int)) = false := by rw [HNL.out]; exact beq_eq_false_iff_ne.2 (by omega)
      gi_wp2_with (gi_at_builtin; refine wpListIn_append_own _ rfl _ _ 45 rfl (w.heap.size + 1 + 1 + 1 + 1) 3 i0 (.int .i64 0) 1 8 Try.underlying45 hi hz0 hz1 hz2 rfl (by decide) _ _ _ rfl (hrow.alloc _) ⟨W.heap.size, 0, none⟩ 1 1 [.int .i64 (b.val : Int)] rfl rfl (cell_one_new _ _ _) (by simp [Value.oneCell']) (by unfold maxLen; omega) (by omega) (by have := HZ.out; simp; omega) ?_; intro v' w1 hown' hgrow _; obtain ⟨g', cap', rfl⟩ := ownsRow_succ hown'; obtain ⟨hv1, hv2, hr2, hk2, hb2⟩ := hv.appended (n₀ := w.heap.size + 1 + 1) (by decide) (own_base hrow (by omega)) (by have := HZ.out; omega) (Nat.le_refl _) (own_base hown' (by omega)) hgrow; have hr3 := hown'.kept (grownBy_setCell' w1 (w.heap.size + 1 + 1) (.slice (some ⟨g', 0, none⟩) ((nums pre).length + 1) cap')) (.inr (hv1.not_row (by decide) hown').symm); have hc1 := hv1.cell; have hf1 := hv1.frozen)
      have hkm := append_keep (B := w.heap.size + 1 + 1) (b := w.heap.size + 1) (v' := .slice (some ⟨g', 0, none⟩) ((nums pre).length + 1) cap') hle hgrow (by have := HZ.out; omega) (by omega) (by omega)
      refine ⟨hk2.from _, append_keep hle hgrow (by have := HZ.out; omega) (by omega) (by omega), ⟨_, hv2, ?_, ?_⟩, ?_, hB.trans (hb2.mono (by omega)), Nat.le_trans HZ.out hb2.size⟩
      · rw [nums_snoc]; simpa using hr3
      · rw [List.length_append, List.length_singleton]; omega
      · exact ⟨(World.cell?_of_block (a := ⟨w.heap.size + 1, 0, none⟩) hkm).trans HBM.out.c, (World.frozen?_of_block (a := ⟨w.heap.size + 1, 0, none⟩) hkm).trans HBM.out.f⟩
  case done =>
    rintro D ys W hD rfl ⟨⟨v, hv, hrow, hle0⟩, _, hB, _⟩ hK
    have hc := hv.cell
    rw [← List.take_of_length_le hle0] at hrow
    gi_wp2
    refine ⟨by simp, .inl ⟨_, _, rfl, run_takeDeferred hK, ?_⟩⟩
    exact ⟨.tuple #[v, .bool true], by simp [results, Try.results36, go_sem], v, rfl, own_base (ownsRow_putObj hrow _ hK rfl) (by omega), hB.trans (belowK_b (w := w) (Nat.le_refl _) W D _ _ (by simp at hD; omega) hK rfl rfl)⟩
  case stop =>
    rintro D c pre W hD hpre ⟨⟨v, hv, hrow, rfl, hlen⟩, hB⟩ hK
    have hc := hv.cell
    obtain ⟨t, ht⟩ := hpre
    have HT : Hid (pre.take most = (byf x 256).take most) := (by show _ = _; rw [← ht, List.take_append_of_le_length hlen])
    rw [HT.out] at hrow
    clear ht HT
    gi_wp2
    refine ⟨by simp, .inl ⟨_, _, rfl, run_takeDeferred hK, ?_⟩⟩
    exact ⟨.tuple #[v, .bool true], by simp [results, Try.results36, go_sem], v, rfl, own_base (ownsRow_putObj hrow _ hK rfl) (by omega), hB.trans (belowK_b (w := w) (Nat.le_refl _) W D _ _ (by simp at hD; omega) hK rfl rfl)⟩

theorem gone_any (x : BitVec 256) (most : Nat) (w : World) :
    Calls Try.prog 36 #[sv x, .int .i64 most] w fun e W' => ∃ v, e = .returned (.tuple #[v, .bool true]) ∧ W'.ownsRow (w.heap.size + 1) 3 1 v (nums ((byf x 256).take most)).length ((nums ((byf x 256).take most)).map (Value.int .i64)) ∧ Below w.heap.size w W' :=
  (callsIn_wide (n := 3)).1 (gone_in 3 (by omega) x most w)
end Go.Proofs.Ytlcmlipldkpliaa
