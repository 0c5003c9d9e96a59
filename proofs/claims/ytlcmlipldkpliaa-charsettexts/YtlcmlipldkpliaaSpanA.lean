/- DERIVED. Walks: Spans, by the program. -/
import Derived.Test.YtlcmlipldkpliaaSpanP
import Derived.Test.YtlcmlipldkpliaaFold
namespace Go.Proofs.Ytlcmlipldkpliaa
open Go.RowKit Go.Shelf

attribute [local go_sem] Oper.semAt_some

theorem nums_bd (l : List (Fin 256)) (c : Int) (h : c ∈ nums l) : 0 ≤ c ∧ c ≤ 255 := by
  obtain ⟨b, _, rfl⟩ := List.mem_map.1 h
  have := b.isLt
  omega
theorem Try.info52 : (Try.prog.info? 52).map (fun i => (i.zero, i.size, i.bytes)) = some (some (.agg #[.int .i64 0, .int .i64 0]), 2, 16) := by kernel_rfl

set_option maxRecDepth 100000 in
set_option maxHeartbeats 2000000 in
theorem spans_in (n : Nat) (hn : 3 ≤ n) (x : BitVec 256) (w : World) :
    CallsIn Fence.wide n Try.prog 38 #[sv x] w fun e W' => ∃ v, e = .returned v ∧ W'.ownsRow (w.heap.size + 1) 52 2 v (spL (bys x)).length (spc (spL (bys x))) ∧ (spL (bys x) = [] → v = .slice none 0 0) ∧ Below w.heap.size w W' := by
  have h1 : 1 ≤ n := by omega
  obtain ⟨i0, hi, hz0, hz1, hz2⟩ := info_parts Try.info52
  refine callsIn_of_wp_marks Try.func38 rfl trivial ?_ rfl
  simp only [Try.ntmps38, List.size_toArray, List.length_cons, List.length_nil, Nat.reduceAdd, Nat.reduceSub, Array.replicate_succ, Array.replicate_zero, List.push_toArray, List.append_toArray, List.nil_append, List.cons_append]
  gi_wp2_with fail
  refine ⟨trivial, (each_in (n - 1) x _).mono ?_⟩
  rintro e w' ⟨rfl, rfl⟩
  gi_wp2_with fail
  have hX := Holds.new ((w.alloc (c4 x)).alloc (.cells #[.slice none 0 0] 48)) x
  rw [size2] at hX
  have bO := (Boxed.new (w.alloc (c4 x)) 48 (.slice none 0 0)).alloc (c4 x)
  rw [size1] at bO
  have hB0 := below3 w (c4 x) (.cells #[.slice none 0 0] 48) (c4 x)
  refine wpIn_rangeFunc_ownG rfl h1 (gf := 78) (lb := #[.pointer (some ⟨w.heap.size + 1 + 1, 0, none⟩)]) rfl trivial (enters_of Try.func78 (by kernel_rfl) rfl)
    (each_stops (n - 1) (by omega) (w.heap.size + 1 + 1) x _ hX) KeepB.trans (KeepB.put hX.lt) (Below.refl _ _) (fun _ => rfl)
    (fun pre W => (∃ v, Boxed W (w.heap.size + 1) 48 v ∧ W.ownsRow (w.heap.size + 1 + 1 + 1) 52 2 v (spL (nums pre)).length (spc (spL (nums pre))) ∧ (spL (nums pre) = [] → v = .slice none 0 0)) ∧ (Below w.heap.size w W ∧ Hid (w.heap.size + 1 + 1 + 1 ≤ W.heap.size)))
    (fun _ _ _ => False)
    (OwnFrom.and (Own.from (holdsRow_own (w.heap.size + 1 + 1 + 1) (w.heap.size + 1) 48 52 2 (fun pre => (spL (nums pre)).length) (fun pre => spc (spL (nums pre))) (fun pre v => spL (nums pre) = [] → v = .slice none 0 0)) _) (OwnFrom.and (ownFrom_below (Nat.le_refl _) (by simp; omega)) (fun s W W' row hs hg hr => Nat.le_trans hs hg.size)))
    (fun _ _ _ _ _ hs _ _ => hs)
    ⟨⟨_, bO, World.ownsRow_nil _ _ _ _, fun _ => rfl⟩, hB0, (show w.heap.size + 1 + 1 + 1 ≤ _ by simp)⟩
    (fun b => { tmps := #[sv x, .pointer (some ⟨w.heap.size, 0, none⟩), .slice none 0 0, .pointer (some ⟨w.heap.size + 1, 0, none⟩), .int .i64 (b.val : Int), undef, sv x, .func (.func 78) #[] #[.pointer (some ⟨w.heap.size + 1 + 1, 0, none⟩)], .int .i64 (b.val : Int), undef, undef, undef, undef, undef, undef, undef, undef, undef, undef, undef, undef, undef, undef, undef, undef, undef, undef, undef, undef, undef, undef, undef, undef, undef, undef, undef, undef], defers := [] }) ?assign ?body ?done ?stop
  case assign =>
    intro l b W K hK
    gi_wp2
    exact hK
  case body =>
    rintro l pre b W ⟨⟨v, hv, hrow, hnil⟩, hB, HZ⟩ hlt
    have hc := hv.cell
    have hf := hv.frozen
    have hb8 : b.val < 256 := b.isLt
    have hle := fun k e => (hrow.lt k e).1
    have HS := (show Hid _ from nums_snoc pre b)
    have HM := (show Hid _ from fun p hp => spL_mem (nums pre) p hp)
    have hlen : (spL (nums pre)).length < 256 := Nat.lt_of_le_of_lt (spL_len _) (by rw [nums_len]; exact hlt)
    have HSS := (show Hid _ from spL_snoc (nums pre) (b.val : Int))
    generalize hq : spL (nums pre) = q at *
    have HQ := (show Hid _ from hq)
    clear hq
    rcases snoc_cases q with rfl | ⟨m, ⟨lo, up⟩, rfl⟩
    · obtain rfl := hnil rfl
      clear hnil HM
      have HE := (show Hid _ from HSS.out.trans (spStep_nil (b.val : Int)))
      gi_wp2_with (gi_at_builtin; refine wpListIn_append_own _ rfl _ _ 48 rfl (w.heap.size + 1 + 1 + 1) 52 i0 (.agg #[.int .i64 0, .int .i64 0]) 2 16 Try.underlying48 hi hz0 hz1 hz2 rfl (by decide) _ _ _ rfl (hrow.alloc _) ⟨W.heap.size, 0, none⟩ 1 1 [.int .i64 (b.val : Int), .int .i64 (b.val : Int)] rfl rfl (cell_two_new _ _ _ _) (by simp [Value.oneCell']) (by unfold maxLen; omega) (by omega) (by have := HZ.out; simp; omega) ?_; intro v' w1 hown' hgrow _; obtain ⟨g', cap', rfl⟩ := ownsRow_succ hown'; obtain ⟨hv1, hv2, hr2, hk2, hb2⟩ := hv.appended (n₀ := w.heap.size + 1) (by decide) (own_base hrow (by omega)) (by have := HZ.out; omega) (Nat.le_refl _) (own_base hown' (by omega)) hgrow; have hr3 := hown'.kept (grownBy_setCell' w1 (w.heap.size + 1) (.slice (some ⟨g', 0, none⟩) (0 + 1) cap')) (.inr (hv1.not_row (by decide) hown').symm); have hc1 := hv1.cell; have hf1 := hv1.frozen)
      refine ⟨hk2.from _, append_keep hle hgrow (by have := HZ.out; omega) (by omega) (by omega), ⟨_, hv2, ?_, ?_⟩, hB.trans (hb2.mono (by omega)), Nat.le_trans HZ.out hb2.size⟩
      · rw [HS.out, HE.out]; exact hr3
      · rw [HS.out, HE.out]; intro h; cases h
    · obtain ⟨hml, hmu⟩ := HM.out (lo, up) (by simp)
      clear hnil HM
      have hbd := fun c (hc : c ∈ nums pre) => nums_bd pre c hc
      have hlo := hbd lo hml
      have hup := hbd up hmu
      clear hbd hml hmu
      rw [List.length_append, List.length_singleton] at hrow hlen
      obtain ⟨g, cap, rfl⟩ := ownsRow_succ hrow
      have hcu := hrow.cellAt (m.length * 2 + 1) (by omega)
      rw [spc_append, List.getElem?_append_right (by rw [spc_len]; omega), spc_len, show m.length * 2 + 1 - m.length * 2 = 1 from by omega] at hcu
      replace hcu : W.cell? ⟨g, m.length * 2 + 1, none⟩ = some (.int .i64 up) := hcu
      have hfu := hrow.frozenAt (m.length * 2 + 1)
      by_cases he : up + 1 = (b.val : Int)
      · have HE := (show Hid _ from HSS.out.trans (spStep_hit m lo up _ he))
        have heb : (up + 1 == (b.val : Int)) = true := beq_iff_eq.2 he
        have HEE := (show Hid _ from he)
        clear he
        gi_wp2_with fail
        obtain ⟨hst, hgs⟩ := hrow.stored (m.length * 2 + 1) (.int .i64 (b.val : Int))
        rw [spc_set] at hst
        have hg0 : w.heap.size + 1 + 1 + 1 ≤ g := hle g rfl
        refine ⟨(KeepsOthers.setCell _ _ _).from _, KeepB.setCell (p := ⟨g, m.length * 2 + 1, none⟩) (by simp; omega) _, ⟨_, hv.kept hgs (fun e => by cases e; omega), ?_, ?_⟩, hB.setCell (p := ⟨g, m.length * 2 + 1, none⟩) (by simp; omega) _, Nat.le_trans HZ.out hgs.size⟩
        · rw [HS.out, HE.out, List.length_append, List.length_singleton]; exact hst
        · rw [HS.out, HE.out]; intro h; simp at h
      · have HE := (show Hid _ from HSS.out.trans (spStep_miss m lo up _ he))
        have heb : (up + 1 == (b.val : Int)) = false := beq_eq_false_iff_ne.2 he
        clear he
        gi_wp2_with (gi_at_builtin; refine wpListIn_append_own _ rfl _ _ 48 rfl (w.heap.size + 1 + 1 + 1) 52 i0 (.agg #[.int .i64 0, .int .i64 0]) 2 16 Try.underlying48 hi hz0 hz1 hz2 rfl (by decide) _ _ _ rfl (hrow.alloc _) ⟨W.heap.size, 0, none⟩ 1 1 [.int .i64 (b.val : Int), .int .i64 (b.val : Int)] rfl rfl (cell_two_new _ _ _ _) (by simp [Value.oneCell']) (by unfold maxLen; omega) (by omega) (by have := HZ.out; simp; omega) ?_; intro v' w1 hown' hgrow _; obtain ⟨g', cap', rfl⟩ := ownsRow_succ hown'; obtain ⟨hv1, hv2, hr2, hk2, hb2⟩ := hv.appended (n₀ := w.heap.size + 1) (by decide) (own_base hrow (by omega)) (by have := HZ.out; omega) (Nat.le_refl _) (own_base hown' (by omega)) hgrow; have hr3 := hown'.kept (grownBy_setCell' w1 (w.heap.size + 1) (.slice (some ⟨g', 0, none⟩) (m.length + 1 + 1) cap')) (.inr (hv1.not_row (by decide) hown').symm); have hc1 := hv1.cell; have hf1 := hv1.frozen)
        refine ⟨hk2.from _, append_keep hle hgrow (by have := HZ.out; omega) (by omega) (by omega), ⟨_, hv2, ?_, ?_⟩, hB.trans (hb2.mono (by omega)), Nat.le_trans HZ.out hb2.size⟩
        · rw [HS.out, HE.out, List.length_append, List.length_append, List.length_singleton, List.length_singleton, spc_append]; exact hr3
        · rw [HS.out, HE.out]; intro h; simp at h
  case done =>
    rintro D ys W hD rfl ⟨⟨v, hv, hrow, hnil⟩, hB, _⟩ hK
    have hc := hv.cell
    have HT : Hid (nums (byf x 256) = bys x) := byf_val x 256 (Nat.le_refl _)
    gi_wp2
    refine ⟨by simp, .inl ⟨_, _, rfl, run_takeDeferred hK, ?_⟩⟩
    rw [HT.out] at hrow hnil
    exact ⟨_, results_tmp rfl _ _ _, v, rfl, own_base (ownsRow_putObj hrow _ hK rfl) (by omega), hnil, hB.trans (belowK_b (w := w) (Nat.le_refl _) W D _ _ (by simp at hD; omega) hK rfl rfl)⟩
  case stop =>
    rintro D c pre W _ _ h _
    exact h.elim

theorem spans_any (x : BitVec 256) (w : World) :
    Calls Try.prog 38 #[sv x] w fun e W' => ∃ v, e = .returned v ∧ W'.ownsRow (w.heap.size + 1) 52 2 v (spL (bys x)).length (spc (spL (bys x))) ∧ (spL (bys x) = [] → v = .slice none 0 0) ∧ Below w.heap.size w W' :=
  (callsIn_wide (n := 3)).1 (spans_in 3 (by omega) x w)
end Go.Proofs.Ytlcmlipldkpliaa
