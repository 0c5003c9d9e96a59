/- DERIVED. Plain mathematics and walks, laid together (2). -/
import Derived.RangeFuncBox
import Derived.Lib.Builder
import Derived.Lib.ItoaNum
import Derived.Test.YthffklhojdldkaaGreatDoorTb01
namespace Go.Proofs.YthffklhojdldkaaGreatDoor
open Go.RowKit
set_option maxHeartbeats 1000000 in
theorem fill_any (x : BitVec 256) (lo hi : Int) (w : World) (h0 : 0 ≤ lo) (hle : lo ≤ hi) (h1 : hi ≤ 255) :
    Calls Tryz.prog 113 #[sv x, .int .i64 lo, .int .i64 hi] w fun e w' => e = .returned (sv (x ||| spn lo hi)) ∧ Below w.heap.size w w' := by
  go_enter Tryz.func113, Tryz.ntmps113
  go_wp2
  go_loopw [7] (fun t wr => ∃ b : Int, lo ≤ b ∧ b ≤ hi + 1 ∧ t = .int .i64 b ∧ Holds wr w.heap.size (x ||| spn lo (b - 1)) ∧ (∃ z, Holds wr (w.heap.size + 1) z) ∧ Below w.heap.size w wr) (fun t _ => (hi + 1 - intOf t).toNat)
  case atStart =>
    refine ⟨lo, by omega, by omega, rfl, ?_, ⟨0#256, Holds.zero' w _⟩, ?_⟩
    · rw [spn_nil lo h0 (by omega), BitVec.or_zero]; exact (Holds.new w x).alloc _
    · exact ((Below.refl _ _).alloc (Nat.le_refl _) _).alloc (by simp) _
  case round =>
    obtain ⟨b, hb0, hb1, rfl, hx, ⟨z, hz⟩, hbel⟩ := hrel
    have hsz : w.heap.size + 1 < wr.heap.size := hz.lt
    by_cases hlt : b ≤ hi
    · have HS := (show Hid _ from spn_snoc lo b h0 hb0 (by omega))
      generalize hy : x ||| spn lo (b - 1) = y at hx
      have HY := (show Hid _ from hy)
      clear hy
      have HX := (show Hid _ from hx)
      have HZ := (show Hid _ from hz)
      have HB := (show Hid _ from hbel)
      obtain ⟨l0, c0, c1, c2, c3, f0, f1, f2, f3⟩ := hx
      clear hz hbel
      go_wp2_with fail
      refine (with_any y b _ (by omega) (by omega)).mono ?_
      rintro e w1 ⟨rfl, hb⟩
      obtain ⟨l0, c0, c1, c2, c3, f0, f1, f2, f3⟩ := HX.out.below hb l0
      go_wp2
      go_roundw
      case rel =>
        refine ⟨b + 1, by omega, by omega, rfl, ?_, ⟨z, ?_⟩, ?_⟩
        · rw [show b + 1 - 1 = b from by omega, HS.out, ← BitVec.or_assoc, HY.out]
          exact (HX.out.below hb (by omega)).put _
        · exact (HZ.out.below hb (by omega)).put_other (by omega) _
        · exact ((((HB.out.trans (hb.mono (by omega))).setCell (Nat.le_refl _) _).setCell (Nat.le_refl _) _).setCell (Nat.le_refl _) _).setCell (Nat.le_refl _) _
      case measure => simp [intOf]; omega
    · have hbe : b - 1 = hi := by omega
      rw [hbe] at hx
      generalize hy : x ||| spn lo hi = y at hx
      have HY := (show Hid _ from hy)
      clear hy
      have HZ := (show Hid _ from hz)
      have HB := (show Hid _ from hbel)
      obtain ⟨l0, c0, c1, c2, c3, f0, f1, f2, f3⟩ := hx
      obtain ⟨l1, d0, d1, d2, d3, g0, g1, g2, g3⟩ := hz
      clear hbel
      go_wp2
      rw [HY.out]
      refine bodyPost_ret (v := sv y) (by simp [results, Tryz.results113, go_sem, *]) rfl ⟨rfl, ?_⟩
      exact (((HB.out.setCell (by simp) _).setCell (by simp) _).setCell (by simp) _).setCell (by simp) _
end Go.Proofs.YthffklhojdldkaaGreatDoor

namespace Go.Proofs.YthffklhojdldkaaGreatDoor
open Go.RowKit
theorem below1 (w : World) (a : Obj) : Below w.heap.size w (w.alloc a) := (Below.refl _ _).alloc (Nat.le_refl _) _

theorem fill0_any (lo hi : Int) (w : World) (h0 : 0 ≤ lo) (hle : lo ≤ hi) (h1 : hi ≤ 255) :
    Calls Tryz.prog 113 #[.agg #[.int .u64 0, .int .u64 0, .int .u64 0, .int .u64 0], .int .i64 lo, .int .i64 hi] w fun e w' => e = .returned (sv (spn lo hi)) ∧ Below w.heap.size w w' := by
  have h := fill_any 0#256 lo hi w h0 hle h1
  rw [BitVec.zero_or, sv, wd_zero, wd_zero, wd_zero, wd_zero] at h
  exact h

/-- Is it a capital letter? -/
def capB (b : Int) : Bool := decide (65 ≤ b) && decide (b ≤ 90)
set_option maxHeartbeats 400000 in
theorem isCapital_any (b : Int) (w : World) :
    Calls Tryz.prog 87 #[.int .i64 b] w fun e w' => e = .returned (.bool (capB b)) ∧ w' = w := by
  by_cases h0 : 65 ≤ b
  · have hd : decide (65 ≤ b) = true := by simpa using h0
    go_enter Tryz.func87, Tryz.ntmps87
    go_wp2
    go_ret
    exact ⟨by simp [capB, h0], rfl⟩
  · have hd : decide (65 ≤ b) = false := by simpa using h0
    go_enter Tryz.func87, Tryz.ntmps87
    go_wp2
    go_ret
    exact ⟨by unfold capB; rw [hd]; rfl, rfl⟩

set_option maxHeartbeats 400000 in
theorem bytesFrom_any (lo hi : Int) (w : World) (h0 : 0 ≤ lo) (hle : lo ≤ hi) (h1 : hi ≤ 255) :
    Calls Tryz.prog 110 #[.int .i64 lo, .int .i64 hi] w fun e w' => e = .returned (sv (spn lo hi)) ∧ Below w.heap.size w w' := by
  have HH := (show Hid _ from Holds.zero w)
  have HR := (show Hid _ from below1 w z4)
  have HQ : Hid (Below (w.heap.size + 1) (w.alloc z4) (w.alloc z4)) := Below.refl _ _
  go_enter Tryz.func110, Tryz.ntmps110
  go_wp2_with fail
  refine (fill0_any lo hi _ h0 hle h1).mono ?_
  rintro e w1 ⟨rfl, hb⟩
  replace HQ := (show Hid _ from HQ.out.trans (hb.mono (by first | exact HQ.out.size | (have h := HQ.out.size; simp at h; omega) | simp)))
  have HR1 := (show Hid _ from HR.out.trans (HQ.out.mono (by omega)))
  obtain ⟨l0, c0, c1, c2, c3, f0, f1, f2, f3⟩ := HH.out.below HQ.out (by omega)
  generalize hr : spn lo hi = r
  have Hr := (show Hid _ from hr)
  clear hr
  go_wp2
  exact bodyPost_ret (v := sv r) (by simp [results, Tryz.results110, go_sem, *]) rfl ⟨by rw [Hr.out], (((HR1.out.setCell (by simp) _).setCell (by simp) _).setCell (by simp) _).setCell (by simp) _⟩

set_option maxHeartbeats 400000 in
theorem letters_any (w : World) :
    Calls Tryz.prog 108 #[] w fun e w' => e = .returned (sv (spn 65 90 ||| spn 97 122)) ∧ Below w.heap.size w w' := by
  have HH := (show Hid _ from Holds.zero w)
  have HR := (show Hid _ from below1 w z4)
  have HQ : Hid (Below (w.heap.size + 1) (w.alloc z4) (w.alloc z4)) := Below.refl _ _
  go_enter Tryz.func108, Tryz.ntmps108
  go_wp2_with fail
  refine (bytesFrom_any 65 90 _ (by omega) (by omega) (by omega)).mono ?_
  rintro e w1 ⟨rfl, hb⟩
  replace HQ := (show Hid _ from HQ.out.trans (hb.mono (by first | exact HQ.out.size | (have h := HQ.out.size; simp at h; omega) | simp)))
  go_wp2_with fail
  refine (fill_any _ 97 122 _ (by omega) (by omega) (by omega)).mono ?_
  rintro e w1 ⟨rfl, hb⟩
  replace HQ := (show Hid _ from HQ.out.trans (hb.mono (by first | exact HQ.out.size | (have h := HQ.out.size; simp at h; omega) | simp)))
  have HR1 := (show Hid _ from HR.out.trans (HQ.out.mono (by omega)))
  obtain ⟨l0, c0, c1, c2, c3, f0, f1, f2, f3⟩ := HH.out.below HQ.out (by omega)
  generalize hr : spn 65 90 ||| spn 97 122 = r
  have Hr := (show Hid _ from hr)
  clear hr
  go_wp2
  exact bodyPost_ret (v := sv r) (by simp [results, Tryz.results108, go_sem, *]) rfl ⟨by rw [Hr.out], (((HR1.out.setCell (by simp) _).setCell (by simp) _).setCell (by simp) _).setCell (by simp) _⟩

set_option maxHeartbeats 400000 in
theorem lettersDigits_any (w : World) :
    Calls Tryz.prog 112 #[] w fun e w' => e = .returned (sv (spn 65 90 ||| spn 97 122 ||| spn 48 57)) ∧ Below w.heap.size w w' := by
  have HH := (show Hid _ from Holds.zero w)
  have HR := (show Hid _ from below1 w z4)
  have HQ : Hid (Below (w.heap.size + 1) (w.alloc z4) (w.alloc z4)) := Below.refl _ _
  go_enter Tryz.func112, Tryz.ntmps112
  go_wp2_with fail
  refine (letters_any _).mono ?_
  rintro e w1 ⟨rfl, hb⟩
  replace HQ := (show Hid _ from HQ.out.trans (hb.mono (by first | exact HQ.out.size | (have h := HQ.out.size; simp at h; omega) | simp)))
  go_wp2_with fail
  refine (fill_any _ 48 57 _ (by omega) (by omega) (by omega)).mono ?_
  rintro e w1 ⟨rfl, hb⟩
  replace HQ := (show Hid _ from HQ.out.trans (hb.mono (by first | exact HQ.out.size | (have h := HQ.out.size; simp at h; omega) | simp)))
  have HR1 := (show Hid _ from HR.out.trans (HQ.out.mono (by omega)))
  obtain ⟨l0, c0, c1, c2, c3, f0, f1, f2, f3⟩ := HH.out.below HQ.out (by omega)
  generalize hr : spn 65 90 ||| spn 97 122 ||| spn 48 57 = r
  have Hr := (show Hid _ from hr)
  clear hr
  go_wp2
  exact bodyPost_ret (v := sv r) (by simp [results, Tryz.results112, go_sem, *]) rfl ⟨by rw [Hr.out], (((HR1.out.setCell (by simp) _).setCell (by simp) _).setCell (by simp) _).setCell (by simp) _⟩
end Go.Proofs.YthffklhojdldkaaGreatDoor

namespace Go.Proofs.YthffklhojdldkaaGreatDoor
open Go.RowKit Go.Shelf
attribute [local go_sem] Oper.semAt_some
end Go.Proofs.YthffklhojdldkaaGreatDoor

namespace Go.Proofs.YthffklhojdldkaaGreatDoor
open Go.RowKit Go.Shelf
attribute [local go_sem] Oper.semAt_some

theorem nums_bd (l : List (Fin 256)) (c : Int) (h : c ∈ nums l) : 0 ≤ c ∧ c ≤ 255 := by
  obtain ⟨b, _, rfl⟩ := List.mem_map.1 h
  have := b.isLt
  omega
theorem Tryz.info52 : (Tryz.prog.info? 93).map (fun i => (i.zero, i.size, i.bytes)) = some (some (.agg #[.int .i64 0, .int .i64 0]), 2, 16) := by kernel_rfl

set_option maxRecDepth 100000 in
set_option maxHeartbeats 2000000 in
theorem spans_in (n : Nat) (hn : 3 ≤ n) (x : BitVec 256) (w : World) :
    CallsIn Fence.wide n Tryz.prog 68 #[sv x] w fun e W' => ∃ v, e = .returned v ∧ W'.ownsRow (w.heap.size + 1) 93 2 v (spL (bys x)).length (spc (spL (bys x))) ∧ (spL (bys x) = [] → v = .slice none 0 0) ∧ Below w.heap.size w W' := by
  have h1 : 1 ≤ n := by omega
  obtain ⟨i0, hi, hz0, hz1, hz2⟩ := info_parts Tryz.info52
  refine callsIn_of_wp_marks Tryz.func68 rfl trivial ?_ rfl
  simp only [Tryz.ntmps68, List.size_toArray, List.length_cons, List.length_nil, Nat.reduceAdd, Nat.reduceSub, Array.replicate_succ, Array.replicate_zero, List.push_toArray, List.append_toArray, List.nil_append, List.cons_append]
  gi_wp2_with fail
  refine ⟨trivial, (each_in (n - 1) x _).mono ?_⟩
  rintro e w' ⟨rfl, rfl⟩
  gi_wp2_with fail
  have hX := Holds.new ((w.alloc (c4 x)).alloc (.cells #[.slice none 0 0] 90)) x
  rw [size2] at hX
  have bO := (Boxed.new (w.alloc (c4 x)) 90 (.slice none 0 0)).alloc (c4 x)
  rw [size1] at bO
  have hB0 := below3 w (c4 x) (.cells #[.slice none 0 0] 90) (c4 x)
  refine wpIn_rangeFunc_ownG rfl h1 (gf := 114) (lb := #[.pointer (some ⟨w.heap.size + 1 + 1, 0, none⟩)]) rfl trivial (enters_of Tryz.func114 (by kernel_rfl) rfl)
    (each_stops (n - 1) (by omega) (w.heap.size + 1 + 1) x _ hX) KeepB.trans (KeepB.put hX.lt) (Below.refl _ _) (fun _ => rfl)
    (fun pre W => (∃ v, Boxed W (w.heap.size + 1) 90 v ∧ W.ownsRow (w.heap.size + 1 + 1 + 1) 93 2 v (spL (nums pre)).length (spc (spL (nums pre))) ∧ (spL (nums pre) = [] → v = .slice none 0 0)) ∧ (Below w.heap.size w W ∧ Hid (w.heap.size + 1 + 1 + 1 ≤ W.heap.size)))
    (fun _ _ _ => False)
    (OwnFrom.and (Own.from (holdsRow_own (w.heap.size + 1 + 1 + 1) (w.heap.size + 1) 90 93 2 (fun pre => (spL (nums pre)).length) (fun pre => spc (spL (nums pre))) (fun pre v => spL (nums pre) = [] → v = .slice none 0 0)) _) (OwnFrom.and (ownFrom_below (Nat.le_refl _) (by simp; omega)) (fun s W W' row hs hg hr => Nat.le_trans hs hg.size)))
    (fun _ _ _ _ _ hs _ _ => hs)
    ⟨⟨_, bO, World.ownsRow_nil _ _ _ _, fun _ => rfl⟩, hB0, (show w.heap.size + 1 + 1 + 1 ≤ _ by simp)⟩
    (fun b => { tmps := #[sv x, .pointer (some ⟨w.heap.size, 0, none⟩), .slice none 0 0, .pointer (some ⟨w.heap.size + 1, 0, none⟩), .int .i64 (b.val : Int), undef, sv x, .func (.func 114) #[] #[.pointer (some ⟨w.heap.size + 1 + 1, 0, none⟩)], .int .i64 (b.val : Int), undef, undef, undef, undef, undef, undef, undef, undef, undef, undef, undef, undef, undef, undef, undef, undef, undef, undef, undef, undef, undef, undef, undef, undef, undef, undef, undef, undef], defers := [] }) ?assign ?body ?done ?stop
  case assign =>
    intro l b W K hK
    gi_wp2
    exact hK
  case body =>
    rintro l pre b W ⟨⟨v, hv, hrow, hnil⟩, hB, HZ⟩ hlt
    have hc := hv.cell
    have hf := hv.frozen
    have hb8 : b.val < 256 := b.isLt
    have hle := fun k e => (hrow.lt k e).1
    have HS := (show Hid _ from nums_snoc pre b)
    have HM := (show Hid _ from fun p hp => spL_mem (nums pre) p hp)
    have hlen : (spL (nums pre)).length < 256 := Nat.lt_of_le_of_lt (spL_len _) (by rw [nums_len]; exact hlt)
    have HSS := (show Hid _ from spL_snoc (nums pre) (b.val : Int))
    generalize hq : spL (nums pre) = q at *
    have HQ := (show Hid _ from hq)
    clear hq
    rcases snoc_cases q with rfl | ⟨m, ⟨lo, up⟩, rfl⟩
    · obtain rfl := hnil rfl
      clear hnil HM
      have HE := (show Hid _ from HSS.out.trans (spStep_nil (b.val : Int)))
      gi_wp2_with (gi_at_builtin; refine wpListIn_append_own _ rfl _ _ 90 rfl (w.heap.size + 1 + 1 + 1) 93 i0 (.agg #[.int .i64 0, .int .i64 0]) 2 16 Tryz.underlying90 hi hz0 hz1 hz2 rfl (by decide) _ _ _ rfl (hrow.alloc _) ⟨W.heap.size, 0, none⟩ 1 1 [.int .i64 (b.val : Int), .int .i64 (b.val : Int)] rfl rfl (cell_two_new _ _ _ _) (by simp [Value.oneCell']) (by unfold maxLen; omega) (by omega) (by have := HZ.out; simp; omega) ?_; intro v' w1 hown' hgrow _; obtain ⟨g', cap', rfl⟩ := ownsRow_succ hown'; obtain ⟨hv1, hv2, hr2, hk2, hb2⟩ := hv.appended (n₀ := w.heap.size + 1) (by decide) (own_base hrow (by omega)) (by have := HZ.out; omega) (Nat.le_refl _) (own_base hown' (by omega)) hgrow; have hr3 := hown'.kept (grownBy_setCell' w1 (w.heap.size + 1) (.slice (some ⟨g', 0, none⟩) (0 + 1) cap')) (.inr (hv1.not_row (by decide) hown').symm); have hc1 := hv1.cell; have hf1 := hv1.frozen)
      refine ⟨hk2.from _, append_keep hle hgrow (by have := HZ.out; omega) (by omega) (by omega), ⟨_, hv2, ?_, ?_⟩, hB.trans (hb2.mono (by omega)), Nat.le_trans HZ.out hb2.size⟩
      · rw [HS.out, HE.out]; exact hr3
      · rw [HS.out, HE.out]; intro h; cases h
    · obtain ⟨hml, hmu⟩ := HM.out (lo, up) (by simp)
      clear hnil HM
      have hbd := fun c (hc : c ∈ nums pre) => nums_bd pre c hc
      have hlo := hbd lo hml
      have hup := hbd up hmu
      clear hbd hml hmu
      rw [List.length_append, List.length_singleton] at hrow hlen
      obtain ⟨g, cap, rfl⟩ := ownsRow_succ hrow
      have hcu := hrow.cellAt (m.length * 2 + 1) (by omega)
      rw [spc_append, List.getElem?_append_right (by rw [spc_len]; omega), spc_len, show m.length * 2 + 1 - m.length * 2 = 1 from by omega] at hcu
      replace hcu : W.cell? ⟨g, m.length * 2 + 1, none⟩ = some (.int .i64 up) := hcu
      have hfu := hrow.frozenAt (m.length * 2 + 1)
      by_cases he : up + 1 = (b.val : Int)
      · have HE := (show Hid _ from HSS.out.trans (spStep_hit m lo up _ he))
        have heb : (up + 1 == (b.val : Int)) = true := beq_iff_eq.2 he
        have HEE := (show Hid _ from he)
        clear he
        gi_wp2_with fail
        obtain ⟨hst, hgs⟩ := hrow.stored (m.length * 2 + 1) (.int .i64 (b.val : Int))
        rw [spc_set] at hst
        have hg0 : w.heap.size + 1 + 1 + 1 ≤ g := hle g rfl
        refine ⟨(KeepsOthers.setCell _ _ _).from _, KeepB.setCell (p := ⟨g, m.length * 2 + 1, none⟩) (by simp; omega) _, ⟨_, hv.kept hgs (fun e => by cases e; omega), ?_, ?_⟩, hB.setCell (p := ⟨g, m.length * 2 + 1, none⟩) (by simp; omega) _, Nat.le_trans HZ.out hgs.size⟩
        · rw [HS.out, HE.out, List.length_append, List.length_singleton]; exact hst
        · rw [HS.out, HE.out]; intro h; simp at h
      · have HE := (show Hid _ from HSS.out.trans (spStep_miss m lo up _ he))
        have heb : (up + 1 == (b.val : Int)) = false := beq_eq_false_iff_ne.2 he
        clear he
        gi_wp2_with (gi_at_builtin; refine wpListIn_append_own _ rfl _ _ 90 rfl (w.heap.size + 1 + 1 + 1) 93 i0 (.agg #[.int .i64 0, .int .i64 0]) 2 16 Tryz.underlying90 hi hz0 hz1 hz2 rfl (by decide) _ _ _ rfl (hrow.alloc _) ⟨W.heap.size, 0, none⟩ 1 1 [.int .i64 (b.val : Int), .int .i64 (b.val : Int)] rfl rfl (cell_two_new _ _ _ _) (by simp [Value.oneCell']) (by unfold maxLen; omega) (by omega) (by have := HZ.out; simp; omega) ?_; intro v' w1 hown' hgrow _; obtain ⟨g', cap', rfl⟩ := ownsRow_succ hown'; obtain ⟨hv1, hv2, hr2, hk2, hb2⟩ := hv.appended (n₀ := w.heap.size + 1) (by decide) (own_base hrow (by omega)) (by have := HZ.out; omega) (Nat.le_refl _) (own_base hown' (by omega)) hgrow; have hr3 := hown'.kept (grownBy_setCell' w1 (w.heap.size + 1) (.slice (some ⟨g', 0, none⟩) (m.length + 1 + 1) cap')) (.inr (hv1.not_row (by decide) hown').symm); have hc1 := hv1.cell; have hf1 := hv1.frozen)
        refine ⟨hk2.from _, append_keep hle hgrow (by have := HZ.out; omega) (by omega) (by omega), ⟨_, hv2, ?_, ?_⟩, hB.trans (hb2.mono (by omega)), Nat.le_trans HZ.out hb2.size⟩
        · rw [HS.out, HE.out, List.length_append, List.length_append, List.length_singleton, List.length_singleton, spc_append]; exact hr3
        · rw [HS.out, HE.out]; intro h; simp at h
  case done =>
    rintro D ys W hD rfl ⟨⟨v, hv, hrow, hnil⟩, hB, _⟩ hK
    have hc := hv.cell
    have HT : Hid (nums (byf x 256) = bys x) := byf_val x 256 (Nat.le_refl _)
    gi_wp2
    refine ⟨by simp, .inl ⟨_, _, rfl, run_takeDeferred hK, ?_⟩⟩
    rw [HT.out] at hrow hnil
    exact ⟨_, results_tmp rfl _ _ _, v, rfl, own_base (ownsRow_putObj hrow _ hK rfl) (by omega), hnil, hB.trans (belowK_b (w := w) (Nat.le_refl _) W D _ _ (by simp at hD; omega) hK rfl rfl)⟩
  case stop =>
    rintro D c pre W _ _ h _
    exact h.elim

theorem spans_any (x : BitVec 256) (w : World) :
    Calls Tryz.prog 68 #[sv x] w fun e W' => ∃ v, e = .returned v ∧ W'.ownsRow (w.heap.size + 1) 93 2 v (spL (bys x)).length (spc (spL (bys x))) ∧ (spL (bys x) = [] → v = .slice none 0 0) ∧ Below w.heap.size w W' :=
  (callsIn_wide (n := 3)).1 (spans_in 3 (by omega) x w)
end Go.Proofs.YthffklhojdldkaaGreatDoor

namespace Go.Proofs.YthffklhojdldkaaGreatDoor
open Go.RowKit
theorem Tryz.sizeB : (Tryz.prog.info? 50).map (·.size) = some 2 := by kernel_rfl

set_option maxHeartbeats 1000000 in
set_option maxRecDepth 100000 in
theorem check_used (b : Nat) (w : World) (h0 : w.cell? ⟨b, 0, none⟩ = some (.pointer (some ⟨b, 0, none⟩))) :
    Calls Tryz.prog 34 #[.pointer (some ⟨b, 0, none⟩)] w fun e w' => e = .returned (.tuple #[]) ∧ w' = w := by
  obtain ⟨j, hj, hjs⟩ := Option.map_eq_some_iff.1 Tryz.sizeB
  go_enter Tryz.func34, Tryz.ntmps34
  go_wp2
  rw [Lib.run_neq_ptr_same w _ Tryz.underlying47 hj]
  go_wp2
  go_end0
  exact ⟨rfl, rfl⟩

set_option maxHeartbeats 1000000 in
set_option maxRecDepth 100000 in
theorem check_fresh (b : Nat) (w : World) (h0 : w.cell? ⟨b, 0, none⟩ = some (.pointer none)) (hsh : w.shape? b = some (50, 2)) (hfz : w.frozen? ⟨b, 0, none⟩ = false) :
    Calls Tryz.prog 34 #[.pointer (some ⟨b, 0, none⟩)] w fun e w' => e = .returned (.tuple #[]) ∧ w' = w.setCell ⟨b, 0, none⟩ (.pointer (some ⟨b, 0, none⟩)) := by
  obtain ⟨j, hj, hjs⟩ := Option.map_eq_some_iff.1 Tryz.sizeB
  go_enter Tryz.func34, Tryz.ntmps34
  go_wp2
  rw [Lib.run_to_unsafe w ⟨b, 0, none⟩ Tryz.underlying47 Tryz.underlying86 hj (by rw [hjs]; decide) hsh (Nat.zero_lt_succ 1)]
  simp only [Result.andThen]
  rw [Oper.upon_value]
  go_wp2
  rw [run_callFunc_extern Tryz.func64 (by kernel_rfl) (by kernel_rfl) (by kernel_rfl) (e := Extern.AbiNoEscape.same) (by kernel_rfl)]
  rw [Lib.run_noEscape]
  simp only [Result.andThen]
  rw [Oper.upon_value]
  go_wp2
  rw [Lib.run_from_unsafe w ⟨b, 0, none⟩ Tryz.underlying86 Tryz.underlying47 hj hsh (by kernel_rfl)]
  simp only [Result.andThen]
  rw [Oper.upon_value]
  go_wp2
  go_end0
  exact ⟨rfl, rfl⟩

/-- Whatever is no row of bytes, and not block b, is as it was. -/
structure KeepT (b : Nat) (w w' : World) : Prop where
  size : w.heap.size ≤ w'.heap.size
  block : ∀ k, k < w.heap.size → k ≠ b → (∀ c fr, w.heap[k]? ≠ some (.cells c 5 fr)) → w'.heap[k]? = w.heap[k]?
theorem KeepT.refl (b : Nat) (w : World) : KeepT b w w := ⟨Nat.le_refl _, fun _ _ _ _ => rfl⟩
theorem KeepT.trans {b : Nat} {x y z : World} (h : KeepT b x y) (k : KeepT b y z) : KeepT b x z :=
  ⟨Nat.le_trans h.size k.size, fun j hj hb ht => by
    have e := h.block j hj hb ht
    exact (k.block j (Nat.lt_of_lt_of_le hj h.size) hb (fun c fr => by rw [e]; exact ht c fr)).trans e⟩
theorem KeepT.setCell (b j : Nat) (w : World) (u : Value) : KeepT b w (w.setCell ⟨b, j, none⟩ u) :=
  ⟨by simp [World.setCell], fun k _ hk _ => Below.heap_setCell _ _ _ _ hk⟩
theorem KeepT.alloc (b : Nat) (w : World) (o : Obj) : KeepT b w (w.alloc o) := ⟨by simp, fun k hk _ _ => Below.heap_alloc _ _ _ hk⟩
theorem KeepT.grown {b : Nat} {w w' : World} {base : Nat} {v : Value} {n : Nat} {xs : List Value} (ho : w.ownsRow base 5 1 v n xs) (hg : w.grownBy w' v.ownBlock) : KeepT b w w' :=
  ⟨hg.size, fun k hk _ ht => hg.block k hk (fun e => by
    rcases ho.2 with ⟨rfl, _⟩ | ⟨g, cap, cur, rfl, _, hgb, _⟩
    · cases e
    · obtain rfl : k = g := by simpa [Value.ownBlock] using e
      exact ht _ _ hgb)⟩
theorem KeepT.below {b : Nat} {w w' : World} (h : Below w.heap.size w w') : KeepT b w w' := ⟨h.size, fun k hk _ _ => h.block k hk⟩

theorem check_any (b : Nat) (bs : List Value) (w : World) (h : Lib.IsBuilder 50 5 b b bs w) :
    Calls Tryz.prog 34 #[.pointer (some ⟨b, 0, none⟩)] w fun e w' => e = .returned (.tuple #[]) ∧ Lib.BuilderAt 50 5 b b (.pointer (some ⟨b, 0, none⟩)) bs w' ∧ Below b w w' ∧ KeepT b w w' := by
  rcases h with h | h
  · refine (check_fresh b w h.cell0 h.shape h.frozen0).mono ?_
    rintro e w' ⟨rfl, rfl⟩
    exact ⟨rfl, h.used _, (Below.refl b w).setCell (p := ⟨b, 0, none⟩) h.1 _, KeepT.setCell b 0 w _⟩
  · refine (check_used b w h.cell0).mono ?_
    rintro e w' ⟨rfl, rfl⟩
    exact ⟨rfl, h, Below.refl b _, KeepT.refl b _⟩

set_option maxHeartbeats 1000000 in
set_option maxRecDepth 100000 in
theorem writeByte_any (b : Nat) (bs : List Value) (c : Int) (w : World) (h : Lib.IsBuilder 50 5 b b bs w) (hlen : bs.length + 1 ≤ 140737488355328) :
    Calls Tryz.prog 16 #[.pointer (some ⟨b, 0, none⟩), .int .u8 c] w fun e w' => e = .returned .nilIface ∧ Lib.IsBuilder 50 5 b b (bs ++ [.int .u8 c]) w' ∧ Below b w w' ∧ KeepT b w w' := by
  obtain ⟨i0, hi, hz0, hz1, hz2⟩ := info_parts Tryz.info5
  go_enter Tryz.func16, Tryz.ntmps16
  go_wp2_with fail
  refine (check_any b bs _ h).mono ?_
  rintro e w1 ⟨rfl, h1, hb1, hk1⟩
  have hlt := h1.lt
  obtain ⟨hB, v, hbk, hown, hne⟩ := h1
  have c0 : w1.cell? ⟨b, 0, none⟩ = some (.pointer (some ⟨b, 0, none⟩)) := by rw [Lib.cell_of_heap hbk]; rfl
  have c1 : w1.cell? ⟨b, 1, none⟩ = some v := by rw [Lib.cell_of_heap hbk]; rfl
  go_wp2_with (at_builtin; refine wpList_append_own _ rfl _ _ 48 rfl b 5 i0 (.int .u8 0) 1 1 Tryz.underlying48 hi hz0 hz1 hz2 rfl (by decide) _ _ _ rfl (hown.alloc _) ⟨w1.heap.size, 0, none⟩ 1 1 [.int .u8 c] rfl rfl (cell_one_new _ _ _) ?c2 ?c3 ?c4 ?c5 ?_)
  case c2 => intro u hu; simp at hu; subst hu; rfl
  case c3 => unfold maxLen; omega
  case c4 => omega
  case c5 => simp; omega
  intro v' w2 hown' hgrow _
  have hb2 : w2.heap[b]? = some (.cells #[.pointer (some ⟨b, 0, none⟩), v] 50 (0, 0)) := by
    rw [hgrow.block b (by simp; omega) (fun e => hne e.symm), Lib.alloc_old w1 _ b hlt]
    exact hbk
  have d0 : w2.cell? ⟨b, 0, none⟩ = some (.pointer (some ⟨b, 0, none⟩)) := by rw [Lib.cell_of_heap hb2]; rfl
  have d1 : w2.cell? ⟨b, 1, none⟩ = some v := by rw [Lib.cell_of_heap hb2]; rfl
  have f1 : w2.frozen? ⟨b, 1, none⟩ = false := Lib.frozen_of_heap hb2 1
  obtain ⟨g, cap, rfl⟩ := ownsRow_succ hown'
  go_wp2
  go_ret
  refine ⟨rfl, .inr ?_, ?_, ?_⟩
  · exact Lib.BuilderAt.put (T := 50) (e := 5) hB hb2 (bs' := bs ++ [.int .u8 c]) (by simpa using hown') (by decide)
  · exact ((hb1.alloc (by omega) _).grown hgrow (by simp; omega) (fun k hk => (hown.lt k hk).1)).setCell (p := ⟨b, 1, none⟩) hB _
  · exact ((hk1.trans (KeepT.alloc b w1 _)).trans (KeepT.grown (hown.alloc _) hgrow)).trans (KeepT.setCell b 1 w2 _)

set_option maxHeartbeats 1000000 in
set_option maxRecDepth 100000 in
theorem writeString_any (b : Nat) (bs : List Value) (s : ByteArray) (w : World) (h : Lib.IsBuilder 50 5 b b bs w) (hlen : bs.length + s.size ≤ 140737488355328) :
    Calls Tryz.prog 17 #[.pointer (some ⟨b, 0, none⟩), .string s] w fun e w' => e = .returned (.tuple #[.int .i64 s.size, .nilIface]) ∧ Lib.IsBuilder 50 5 b b (bs ++ Lib.strCells s) w' ∧ Below b w w' ∧ KeepT b w w' := by
  obtain ⟨i0, hi, hz0, hz1, hz2⟩ := info_parts Tryz.info5
  go_enter Tryz.func17, Tryz.ntmps17
  go_wp2_with fail
  refine (check_any b bs _ h).mono ?_
  rintro e w1 ⟨rfl, h1, hb1, hk1⟩
  have hlt := h1.lt
  obtain ⟨hB, v, hbk, hown, hne⟩ := h1
  have c0 : w1.cell? ⟨b, 0, none⟩ = some (.pointer (some ⟨b, 0, none⟩)) := by rw [Lib.cell_of_heap hbk]; rfl
  have c1 : w1.cell? ⟨b, 1, none⟩ = some v := by rw [Lib.cell_of_heap hbk]; rfl
  go_wp2_with (at_builtin; refine Lib.wpList_append_own_string _ rfl _ _ 48 9 rfl b 5 i0 Tryz.underlying48 Tryz.underlying9 hi hz0 hz1 hz2 _ _ _ rfl hown s rfl ?c3 ?c4 ?c5 ?_)
  case c3 => unfold maxLen; omega
  case c4 => omega
  case c5 => omega
  intro v' w2 hown' hgrow _
  have hb2 : w2.heap[b]? = some (.cells #[.pointer (some ⟨b, 0, none⟩), v] 50 (0, 0)) := by
    rw [hgrow.block b hlt (fun e => hne e.symm)]
    exact hbk
  have d0 : w2.cell? ⟨b, 0, none⟩ = some (.pointer (some ⟨b, 0, none⟩)) := by rw [Lib.cell_of_heap hb2]; rfl
  have d1 : w2.cell? ⟨b, 1, none⟩ = some v := by rw [Lib.cell_of_heap hb2]; rfl
  have f1 : w2.frozen? ⟨b, 1, none⟩ = false := Lib.frozen_of_heap hb2 1
  obtain ⟨ao, n', cap, rfl⟩ : ∃ ao n' cap, v' = .slice ao n' cap := by
    rcases hown'.2 with ⟨hv, _⟩ | ⟨g, cap, cur, hv, _⟩
    · exact ⟨_, _, _, hv⟩
    · exact ⟨_, _, _, hv⟩
  go_wp2
  go_ret2
  refine ⟨rfl, .inr ?_, ?_, ?_⟩
  · exact Lib.BuilderAt.put (T := 50) (e := 5) hB hb2 (bs' := bs ++ Lib.strCells s) (by simpa [Lib.strCells_length] using hown') (by decide)
  · exact (hb1.grown hgrow (by omega) (fun k hk => (hown.lt k hk).1)).setCell (p := ⟨b, 1, none⟩) hB _
  · exact (hk1.trans (KeepT.grown hown hgrow)).trans (KeepT.setCell b 1 w2 _)
end Go.Proofs.YthffklhojdldkaaGreatDoor

namespace Go.Proofs.YthffklhojdldkaaGreatDoor
open Go.RowKit
/-- Is it a sign that stands behind a backslash? -/
def signB (b : Int) : Bool := (b == 92) || ((b == 93) || ((b == 91) || ((b == 94) || ((b == 45) || (b == 37)))))
def prnB (b : Int) : Bool := decide (32 ≤ b) && decide (b ≤ 126)

set_option maxRecDepth 100000 in
set_option maxHeartbeats 1000000 in
theorem isPrintable_any (b : Int) (w : World) :
    Calls Tryz.prog 117 #[.int .i64 b] w fun e w' => e = .returned (.bool (prnB b)) ∧ w' = w := by
  by_cases h0 : 32 ≤ b
  · have hd : decide (32 ≤ b) = true := by simpa using h0
    go_enter Tryz.func117, Tryz.ntmps117
    go_wp2
    go_ret
    exact ⟨by simp [prnB, h0], rfl⟩
  · have hd : decide (32 ≤ b) = false := by simpa using h0
    go_enter Tryz.func117, Tryz.ntmps117
    go_wp2
    go_ret
    exact ⟨by unfold prnB; rw [hd]; rfl, rfl⟩

set_option maxRecDepth 100000 in
set_option maxHeartbeats 1000000 in
theorem isSign_any (b : Int) (w : World) :
    Calls Tryz.prog 116 #[.int .i64 b] w fun e w' => e = .returned (.bool (signB b)) ∧ w' = w := by
  cases h1 : (b == 92)
  · cases h2 : (b == 93)
    · cases h3 : (b == 91)
      · cases h4 : (b == 94)
        · cases h5 : (b == 45)
          · cases h6 : (b == 37)
            · have HE : Hid (signB b = false) := (by show signB b = false; unfold signB; rw [h1, h2, h3, h4, h5, h6]; rfl)
              go_enter Tryz.func116, Tryz.ntmps116
              go_wp2
              go_ret
              exact ⟨ret_bool HE.out.symm, rfl⟩
            · have HE : Hid (signB b = true) := (by show signB b = true; unfold signB; rw [h1, h2, h3, h4, h5, h6]; rfl)
              go_enter Tryz.func116, Tryz.ntmps116
              go_wp2
              go_ret
              exact ⟨ret_bool HE.out.symm, rfl⟩
          · have HE : Hid (signB b = true) := (by show signB b = true; unfold signB; rw [h5]; simp)
            go_enter Tryz.func116, Tryz.ntmps116
            go_wp2
            go_ret
            exact ⟨ret_bool HE.out.symm, rfl⟩
        · have HE : Hid (signB b = true) := (by show signB b = true; unfold signB; rw [h4]; simp)
          go_enter Tryz.func116, Tryz.ntmps116
          go_wp2
          go_ret
          exact ⟨ret_bool HE.out.symm, rfl⟩
      · have HE : Hid (signB b = true) := (by show signB b = true; unfold signB; rw [h3]; simp)
        go_enter Tryz.func116, Tryz.ntmps116
        go_wp2
        go_ret
        exact ⟨ret_bool HE.out.symm, rfl⟩
    · have HE : Hid (signB b = true) := (by show signB b = true; unfold signB; rw [h2]; simp)
      go_enter Tryz.func116, Tryz.ntmps116
      go_wp2
      go_ret
      exact ⟨ret_bool HE.out.symm, rfl⟩
  · have HE : Hid (signB b = true) := (by show signB b = true; unfold signB; rw [h1]; simp)
    go_enter Tryz.func116, Tryz.ntmps116
    go_wp2
    go_ret
    exact ⟨ret_bool HE.out.symm, rfl⟩

/-- The digit of a number below 16. -/
def hexD (n : Nat) : UInt8 := (#[48, 49, 50, 51, 52, 53, 54, 55, 56, 57, 97, 98, 99, 100, 101, 102] : Array UInt8).getD n 0
/-- The text of one byte. -/
def itm (b : Nat) : List UInt8 :=
  if b = 10 then [92, 110] else if b = 13 then [92, 114] else if b = 9 then [92, 116] else
  if signB b then [92, UInt8.ofNat b] else if prnB b then [UInt8.ofNat b] else [92, 120, hexD (b / 16), hexD (b % 16)]

theorem ret_str {a b : ByteArray} (h : a = b) : Ending.returned (.string a) = .returned (.string b) := by rw [h]
theorem cat11 (a b : UInt8) : (⟨#[a]⟩ : ByteArray) ++ ⟨#[b]⟩ = ⟨#[a, b]⟩ := by apply ByteArray.ext; simp
theorem cat22 (a b c d : UInt8) : (⟨#[a, b]⟩ : ByteArray) ++ ⟨#[c, d]⟩ = ⟨#[a, b, c, d]⟩ := by apply ByteArray.ext; simp
theorem conv1 (c : Int) (w : World) : (convert 48 9 (.slice (some ⟨w.heap.size, 0, none⟩) 1 1)).run Tryz.prog (w.alloc (.cells #[.int .u8 c] 5)) = .ok (.string ⟨#[UInt8.ofNat c.toNat]⟩) (w.alloc (.cells #[.int .u8 c] 5)) := by
  rw [run_convert_bytes_string _ 48 9 5 _ _ _ Tryz.underlying48 Tryz.underlying5 Tryz.underlying9]
  exact run_bytesToString _ ⟨w.heap.size, 0, none⟩ 1 1 [c] (run_loadCells_list (P := Tryz.prog) _ ⟨w.heap.size, 0, none⟩ [.int .u8 c] (cell_one_new _ _ _))
theorem conv2 (c d : Int) (w : World) : (convert 48 9 (.slice (some ⟨w.heap.size, 0, none⟩) 2 2)).run Tryz.prog (w.alloc (.cells #[.int .u8 c, .int .u8 d] 5)) = .ok (.string ⟨#[UInt8.ofNat c.toNat, UInt8.ofNat d.toNat]⟩) (w.alloc (.cells #[.int .u8 c, .int .u8 d] 5)) := by
  rw [run_convert_bytes_string _ 48 9 5 _ _ _ Tryz.underlying48 Tryz.underlying5 Tryz.underlying9]
  exact run_bytesToString _ ⟨w.heap.size, 0, none⟩ 2 2 [c, d] (run_loadCells_list (P := Tryz.prog) _ ⟨w.heap.size, 0, none⟩ [.int .u8 c, .int .u8 d] (cell_two_new _ _ _ _))

theorem conv2d (c d : Int) (w : World) : (convert 48 9 (.slice (some ⟨w.heap.size, 0, none⟩) 2 2)).run Tryz.prog (w.alloc (.cells #[.int .u8 c, .int .u8 d] 5)).drew = .ok (.string ⟨#[UInt8.ofNat c.toNat, UInt8.ofNat d.toNat]⟩) (w.alloc (.cells #[.int .u8 c, .int .u8 d] 5)).drew := by
  rw [run_convert_bytes_string _ 48 9 5 _ _ _ Tryz.underlying48 Tryz.underlying5 Tryz.underlying9]
  exact run_bytesToString _ ⟨w.heap.size, 0, none⟩ 2 2 [c, d] (run_loadCells_list (P := Tryz.prog) _ ⟨w.heap.size, 0, none⟩ [.int .u8 c, .int .u8 d] (fun j u h => by
    have := cell_two_new w (.int .u8 c) (.int .u8 d) 5 j u h
    exact this))
theorem hex_of (n : Nat) (h : n < 16) : UInt8.ofNat ((((⟨#[48, 49, 50, 51, 52, 53, 54, 55, 56, 57, 97, 98, 99, 100, 101, 102]⟩ : ByteArray)[n]'h).toNat : Int).toNat) = hexD n := by
  rw [Int.toNat_natCast, UInt8.ofNat_toNat]
  unfold hexD; rw [Array.getD_eq_getD_getElem?, Array.getElem?_eq_getElem h]; rfl

set_option maxRecDepth 100000 in
set_option maxHeartbeats 1000000 in
theorem item_sign (b : Nat) (hb : b < 256) (w : World) (h1 : ((b : Int) == 10) = false) (h2 : ((b : Int) == 13) = false) (h3 : ((b : Int) == 9) = false) (h4 : signB (b : Int) = true) :
    Calls Tryz.prog 93 #[.int .i64 b] w fun e w' => e = .returned (.string ⟨#[92, UInt8.ofNat b]⟩) ∧ Below w.heap.size w w' := by
  have hw8 : IntKind.u8.wrap (b : Int) = (b : Int) := by rw [IntKind.wrap_u8']; omega
  have hcv := conv1 b w
  rw [Int.toNat_natCast] at hcv
  go_enter Tryz.func93, Tryz.ntmps93
  go_wp2_with fail
  refine (isSign_any _ _).mono ?_
  rintro e w' ⟨rfl, rfl⟩
  go_wp2
  go_ret
  exact ⟨ret_str (cat11 _ _), below1 _ _⟩

set_option maxRecDepth 100000 in
set_option maxHeartbeats 1000000 in
theorem item_prn (b : Nat) (hb : b < 256) (w : World) (h1 : ((b : Int) == 10) = false) (h2 : ((b : Int) == 13) = false) (h3 : ((b : Int) == 9) = false) (h4 : signB (b : Int) = false) (h5 : prnB (b : Int) = true) :
    Calls Tryz.prog 93 #[.int .i64 b] w fun e w' => e = .returned (.string ⟨#[UInt8.ofNat b]⟩) ∧ Below w.heap.size w w' := by
  have hw8 : IntKind.u8.wrap (b : Int) = (b : Int) := by rw [IntKind.wrap_u8']; omega
  have hcv := conv1 b w
  rw [Int.toNat_natCast] at hcv
  go_enter Tryz.func93, Tryz.ntmps93
  go_wp2_with fail
  refine (isSign_any _ _).mono ?_
  rintro e w' ⟨rfl, rfl⟩
  go_wp2_with fail
  refine (isPrintable_any _ _).mono ?_
  rintro e w' ⟨rfl, rfl⟩
  go_wp2
  go_ret
  exact ⟨rfl, below1 _ _⟩

set_option maxRecDepth 100000 in
set_option maxHeartbeats 1000000 in
theorem item_hex (b : Nat) (hb : b < 256) (w : World) (h1 : ((b : Int) == 10) = false) (h2 : ((b : Int) == 13) = false) (h3 : ((b : Int) == 9) = false) (h4 : signB (b : Int) = false) (h5 : prnB (b : Int) = false) :
    Calls Tryz.prog 93 #[.int .i64 b] w fun e w' => e = .returned (.string ⟨#[92, 120, hexD (b / 16), hexD (b % 16)]⟩) ∧ Below w.heap.size w w' := by
  have t1 : IntKind.i64.wrap ((b : Int) / 16) = ((b / 16 : Nat) : Int) := by rw [IntKind.wrap_i64]; omega
  have t2 : IntKind.i64.wrap ((b : Int) % 16) = ((b % 16 : Nat) : Int) := by rw [IntKind.wrap_i64]; omega
  have t3 : (b : Int) / 16 = ((b / 16 : Nat) : Int) := by omega
  have t4 : (b : Int) % 16 = ((b % 16 : Nat) : Int) := by omega
  have k0 : (0 : Int) ≤ ((b / 16 : Nat) : Int) := by omega
  have k1 : ((b / 16 : Nat) : Int) < 16 := by omega
  have k2 : (0 : Int) ≤ ((b % 16 : Nat) : Int) := by omega
  have k3 : ((b % 16 : Nat) : Int) < 16 := by omega
  have q1 : b / 16 < 16 := by omega
  have q2 : b % 16 < 16 := by omega
  have hcv := conv2d ((⟨#[48, 49, 50, 51, 52, 53, 54, 55, 56, 57, 97, 98, 99, 100, 101, 102]⟩ : ByteArray)[b / 16]'q1).toNat ((⟨#[48, 49, 50, 51, 52, 53, 54, 55, 56, 57, 97, 98, 99, 100, 101, 102]⟩ : ByteArray)[b % 16]'q2).toNat w
  rw [hex_of _ q1, hex_of _ q2] at hcv
  generalize b / 16 = m at *
  generalize b % 16 = n at *
  go_enter Tryz.func93, Tryz.ntmps93
  go_wp2_with fail
  refine (isSign_any _ _).mono ?_
  rintro e w' ⟨rfl, rfl⟩
  go_wp2_with fail
  refine (isPrintable_any _ _).mono ?_
  rintro e w' ⟨rfl, rfl⟩
  go_wp2_with fail
  go_region
  all_goals
    go_wp2
    go_ret
    exact ⟨ret_str (cat22 _ _ _ _), (below1 _ _).drew⟩

theorem item_any (b : Nat) (hb : b < 256) (w : World) :
    Calls Tryz.prog 93 #[.int .i64 b] w fun e w' => e = .returned (.string ⟨(itm b).toArray⟩) ∧ Below w.heap.size w w' := by
  unfold itm
  by_cases h1 : b = 10
  · subst h1; rw [if_pos rfl]
    go_enter Tryz.func93, Tryz.ntmps93
    go_wp2
    go_ret
    exact ⟨rfl, Below.refl _ _⟩
  rw [if_neg h1]
  by_cases h2 : b = 13
  · subst h2; rw [if_pos rfl]
    go_enter Tryz.func93, Tryz.ntmps93
    go_wp2
    go_ret
    exact ⟨rfl, Below.refl _ _⟩
  rw [if_neg h2]
  by_cases h3 : b = 9
  · subst h3; rw [if_pos rfl]
    go_enter Tryz.func93, Tryz.ntmps93
    go_wp2
    go_ret
    exact ⟨rfl, Below.refl _ _⟩
  rw [if_neg h3]
  have e1 : ((b : Int) == 10) = false := beq_eq_false_iff_ne.2 (by omega)
  have e2 : ((b : Int) == 13) = false := beq_eq_false_iff_ne.2 (by omega)
  have e3 : ((b : Int) == 9) = false := beq_eq_false_iff_ne.2 (by omega)
  cases h4 : signB (b : Int)
  · rw [if_neg (by simp)]
    cases h5 : prnB (b : Int)
    · rw [if_neg (by simp)]; exact item_hex b hb w e1 e2 e3 h4 h5
    · rw [if_pos rfl]; exact item_prn b hb w e1 e2 e3 h4 h5
  · rw [if_pos rfl]; exact item_sign b hb w e1 e2 e3 h4
end Go.Proofs.YthffklhojdldkaaGreatDoor

namespace Go.Proofs.YthffklhojdldkaaGreatDoor
open Go.RowKit
def dgs (b : Nat) : Nat → Nat → List UInt8
  | 0, _ => []
  | f + 1, n => if n < b then [hexD n] else dgs b f (n / b) ++ [hexD (n % b)]
def dgT (b n : Nat) : List UInt8 := dgs b (n + 1) n
theorem div_less {b n : Nat} (hb : 2 ≤ b) (h : ¬ n < b) : n / b < n := Nat.div_lt_self (by omega) hb
theorem dgs_fuel (b : Nat) (hb : 2 ≤ b) : ∀ f g n, n < f → n < g → dgs b f n = dgs b g n := by
  intro f
  induction f with
  | zero => intro g n h; omega
  | succ f ih =>
    intro g n h1 h2
    cases g with
    | zero => omega
    | succ g =>
      unfold dgs
      by_cases h : n < b
      · rw [if_pos h, if_pos h]
      · have hd := div_less hb h
        rw [if_neg h, if_neg h, ih g (n / b) (by omega) (by omega)]
theorem dgT_lo {b n : Nat} (h : n < b) : dgT b n = [hexD n] := by
  unfold dgT dgs
  rw [if_pos h]
theorem dgT_hi {b n : Nat} (hb : 2 ≤ b) (h : ¬ n < b) : dgT b n = dgT b (n / b) ++ [hexD (n % b)] := by
  have hd := div_less hb h
  have e : dgT b n = dgs b n (n / b) ++ [hexD (n % b)] := by
    unfold dgT
    conv => lhs; unfold dgs
    rw [if_neg h]
  rw [e, dgs_fuel b hb n (n / b + 1) (n / b) hd (by omega)]
  rfl
theorem dgT_ne (b n : Nat) (hb : 2 ≤ b) : dgT b n ≠ [] := by
  by_cases h : n < b
  · rw [dgT_lo h]; simp
  · rw [dgT_hi hb h]; simp
theorem hexD_dec : ∀ k, k < 10 → hexD k = UInt8.ofNat (48 + k) := by decide
theorem dgT_dec (n : Nat) : dgT 10 n = Lib.decDigits n := by
  induction n using Nat.strongRecOn with
  | _ n ih =>
    by_cases h : n < 10
    · rw [dgT_lo h, Lib.decDigits, dif_pos h, hexD_dec n h]
    · rw [dgT_hi (by omega) h, Lib.decDigits, dif_neg h, ih (n / 10) (by omega), hexD_dec (n % 10) (by omega)]
theorem dgT_len (b : Nat) (hb : 2 ≤ b) : ∀ (k n : Nat), n < b ^ (k + 1) → (dgT b n).length ≤ k + 1 := by
  intro k
  induction k with
  | zero =>
    intro n h
    rw [dgT_lo (by simpa using h)]
    simp
  | succ k ih =>
    intro n h
    by_cases h1 : n < b
    · rw [dgT_lo h1]; simp
    · have h2 : n / b < b ^ (k + 1) := by
        rw [Nat.div_lt_iff_lt_mul (by omega), ← Nat.pow_succ]
        exact h
      rw [dgT_hi hb h1, List.length_append, List.length_singleton]
      have := ih (n / b) h2
      omega
end Go.Proofs.YthffklhojdldkaaGreatDoor

namespace Go.Proofs.YthffklhojdldkaaGreatDoor
/-- The class of a small letter; what it is an error of. -/
def sml (n : Nat) : BitVec 256 × Int :=
  if n = 97 then (spn 65 90 ||| spn 97 122, 0) else
  if n = 99 then (spn 0 31 ||| bt 127, 0) else
  if n = 100 then (spn 48 57, 0) else
  if n = 103 then (spn 33 126, 0) else
  if n = 108 then (spn 97 122, 0) else
  if n = 112 then (spn 33 126 &&& ~~~ (spn 65 90 ||| spn 97 122 ||| spn 48 57), 0) else
  if n = 115 then (spn 9 13 ||| bt 32, 0) else
  if n = 117 then (spn 65 90, 0) else
  if n = 119 then (spn 65 90 ||| spn 97 122 ||| spn 48 57, 0) else
  if n = 120 then (spn 48 57 ||| spn 65 70 ||| spn 97 102, 0) else
  (0#256, 10)
theorem sml97 : sml 97 = (spn 65 90 ||| spn 97 122, 0) := by unfold sml; rw [if_pos rfl]
theorem sml99 : sml 99 = (spn 0 31 ||| bt 127, 0) := by unfold sml; rw [if_neg (by omega), if_pos rfl]
theorem sml100 : sml 100 = (spn 48 57, 0) := by unfold sml; rw [if_neg (by omega), if_neg (by omega), if_pos rfl]
theorem sml103 : sml 103 = (spn 33 126, 0) := by unfold sml; rw [if_neg (by omega), if_neg (by omega), if_neg (by omega), if_pos rfl]
theorem sml108 : sml 108 = (spn 97 122, 0) := by unfold sml; rw [if_neg (by omega), if_neg (by omega), if_neg (by omega), if_neg (by omega), if_pos rfl]
theorem sml112 : sml 112 = (spn 33 126 &&& ~~~ (spn 65 90 ||| spn 97 122 ||| spn 48 57), 0) := by unfold sml; rw [if_neg (by omega), if_neg (by omega), if_neg (by omega), if_neg (by omega), if_neg (by omega), if_pos rfl]
theorem sml115 : sml 115 = (spn 9 13 ||| bt 32, 0) := by unfold sml; rw [if_neg (by omega), if_neg (by omega), if_neg (by omega), if_neg (by omega), if_neg (by omega), if_neg (by omega), if_pos rfl]
theorem sml117 : sml 117 = (spn 65 90, 0) := by unfold sml; rw [if_neg (by omega), if_neg (by omega), if_neg (by omega), if_neg (by omega), if_neg (by omega), if_neg (by omega), if_neg (by omega), if_pos rfl]
theorem sml119 : sml 119 = (spn 65 90 ||| spn 97 122 ||| spn 48 57, 0) := by unfold sml; rw [if_neg (by omega), if_neg (by omega), if_neg (by omega), if_neg (by omega), if_neg (by omega), if_neg (by omega), if_neg (by omega), if_neg (by omega), if_pos rfl]
theorem sml120 : sml 120 = (spn 48 57 ||| spn 65 70 ||| spn 97 102, 0) := by unfold sml; rw [if_neg (by omega), if_neg (by omega), if_neg (by omega), if_neg (by omega), if_neg (by omega), if_neg (by omega), if_neg (by omega), if_neg (by omega), if_neg (by omega), if_pos rfl]
theorem sml_none (n : Nat) (h97 : n ≠ 97) (h99 : n ≠ 99) (h100 : n ≠ 100) (h103 : n ≠ 103) (h108 : n ≠ 108) (h112 : n ≠ 112) (h115 : n ≠ 115) (h117 : n ≠ 117) (h119 : n ≠ 119) (h120 : n ≠ 120) : sml n = (0#256, 10) := by unfold sml; rw [if_neg h97, if_neg h99, if_neg h100, if_neg h103, if_neg h108, if_neg h112, if_neg h115, if_neg h117, if_neg h119, if_neg h120]
/-- The class of a letter, small or capital. -/
def cls (n : Nat) : BitVec 256 × Int :=
  if 65 ≤ n ∧ n ≤ 90 then (if (sml (n + 32)).2 = 0 then (~~~ (sml (n + 32)).1, 0) else (0#256, (sml (n + 32)).2)) else sml n
theorem sml_err (n : Nat) : (sml n).2 = 0 ∨ (sml n).2 = 10 := by
  by_cases h97 : n = 97
  · rw [h97, sml97]; exact .inl rfl
  by_cases h99 : n = 99
  · rw [h99, sml99]; exact .inl rfl
  by_cases h100 : n = 100
  · rw [h100, sml100]; exact .inl rfl
  by_cases h103 : n = 103
  · rw [h103, sml103]; exact .inl rfl
  by_cases h108 : n = 108
  · rw [h108, sml108]; exact .inl rfl
  by_cases h112 : n = 112
  · rw [h112, sml112]; exact .inl rfl
  by_cases h115 : n = 115
  · rw [h115, sml115]; exact .inl rfl
  by_cases h117 : n = 117
  · rw [h117, sml117]; exact .inl rfl
  by_cases h119 : n = 119
  · rw [h119, sml119]; exact .inl rfl
  by_cases h120 : n = 120
  · rw [h120, sml120]; exact .inl rfl
  rw [sml_none n h97 h99 h100 h103 h108 h112 h115 h117 h119 h120]; exact .inr rfl
end Go.Proofs.YthffklhojdldkaaGreatDoor

namespace Go.Proofs.YthffklhojdldkaaGreatDoor
open Go.RowKit
/-- The byte of a text at a place, or -1. -/
def chr (s : ByteArray) (i : Nat) : Int := if h : i < s.size then (s[i].toNat : Int) else -1
theorem chr_in {s : ByteArray} {i : Nat} (h : i < s.size) : chr s i = (s[i].toNat : Int) := by unfold chr; rw [dif_pos h]
theorem chr_out {s : ByteArray} {i : Nat} (h : ¬ i < s.size) : chr s i = -1 := by unfold chr; rw [dif_neg h]
theorem chr_le (s : ByteArray) (i : Nat) : -1 ≤ chr s i ∧ chr s i ≤ 255 := by
  unfold chr
  split
  · have := s[i].toNat_lt; omega
  · omega
theorem chr_lt {s : ByteArray} {i : Nat} (h : 0 ≤ chr s i) : i < s.size := by
  by_cases hi : i < s.size
  · exact hi
  · rw [chr_out hi] at h; omega
/-- What a digit is worth, or -1. -/
def hexV (c : Int) : Int := if 48 ≤ c ∧ c ≤ 57 then c - 48 else if 97 ≤ c ∧ c ≤ 102 then c - 87 else -1
/-- A byte told by its number, behind a backslash. -/
def rdHex (s : ByteArray) (i : Nat) : Option (Nat × Nat) :=
  if 0 ≤ hexV (chr s (i + 2)) ∧ 0 ≤ hexV (chr s (i + 3)) then some ((16 * hexV (chr s (i + 2)) + hexV (chr s (i + 3))).toNat, i + 4) else none
def rdEsc (s : ByteArray) (i : Nat) : Option (Nat × Nat) :=
  if chr s (i + 1) = 110 then some (10, i + 2) else if chr s (i + 1) = 114 then some (13, i + 2) else if chr s (i + 1) = 116 then some (9, i + 2) else
  if chr s (i + 1) = 120 then rdHex s i else if signB (chr s (i + 1)) then some ((chr s (i + 1)).toNat, i + 2) else none
def rdItem (s : ByteArray) (i : Nat) : Option (Nat × Nat) :=
  if chr s i = 92 then rdEsc s i else if chr s i = 93 ∨ chr s i = 45 ∨ chr s i = 37 ∨ prnB (chr s i) = false then none else some ((chr s i).toNat, i + 1)
/-- What is read, or a place and an error. -/
abbrev Rd (α : Type) := Sum α (Nat × Int)
def rdClass (s : ByteArray) (i : Nat) : Rd (BitVec 256 × Nat) :=
  if i + 1 < s.size ∧ (cls (chr s (i + 1)).toNat).2 = 0 then .inl ((cls (chr s (i + 1)).toNat).1, i + 2) else .inr (i, 10)
def rdMember (s : ByteArray) (i : Nat) : Rd (BitVec 256 × Nat) :=
  if chr s i = 37 then rdClass s i else
  match rdItem s i with
  | none => .inr (i, 6)
  | some (lo, n) =>
    if chr s n = 45 then
      match rdItem s (n + 1) with
      | none => .inr ((n + 1), 6)
      | some (hi, e) => if hi < lo then .inr (i, 1) else .inl (spn lo hi, e)
    else .inl (spn lo lo, n)
def rdMembers (s : ByteArray) : Nat → BitVec 256 → Nat → Rd (BitVec 256 × Nat)
  | 0, _, i => .inr (i, 6)
  | f + 1, x, i =>
    if chr s i = 93 then .inl (x, i) else
    match rdMember s i with
    | .inr (a, c) => .inr (a, c)
    | .inl (y, n) => rdMembers s f (x ||| y) n

theorem hexV_bd (c : Int) : -1 ≤ hexV c ∧ hexV c ≤ 15 := by unfold hexV; split; omega; split <;> omega
theorem hexV_chr {s : ByteArray} {i : Nat} (h : 0 ≤ hexV (chr s i)) : i < s.size := by
  by_cases hi : i < s.size
  · exact hi
  · rw [chr_out hi] at h; simp [hexV] at h
theorem rdHex_bd {s : ByteArray} {i b n : Nat} (h : rdHex s i = some (b, n)) : b < 256 ∧ i < n ∧ n ≤ s.size := by
  unfold rdHex at h
  split at h
  · rename_i hh
    have h1 := hexV_bd (chr s (i + 2)); have h2 := hexV_bd (chr s (i + 3)); have h3 := hexV_chr hh.2
    simp at h; omega
  · simp at h
theorem rdEsc_bd {s : ByteArray} {i b n : Nat} (h : rdEsc s i = some (b, n)) : b < 256 ∧ i < n ∧ n ≤ s.size := by
  unfold rdEsc at h
  have hc := chr_le s (i + 1)
  by_cases hi : i + 1 < s.size
  · split at h; (simp at h; omega)
    split at h; (simp at h; omega)
    split at h; (simp at h; omega)
    split at h; (exact rdHex_bd h)
    split at h
    · simp at h; omega
    · simp at h
  · rw [chr_out hi] at h; simp [signB] at h
theorem rdItem_bd {s : ByteArray} {i b n : Nat} (h : rdItem s i = some (b, n)) : b < 256 ∧ i < n ∧ n ≤ s.size := by
  unfold rdItem at h
  split at h
  · exact rdEsc_bd h
  · split at h
    · simp at h
    · rename_i h1
      have hc := chr_le s i
      have hi : i < s.size := by
        by_cases hi : i < s.size
        · exact hi
        · rw [chr_out hi] at h1; simp [prnB] at h1
      simp at h; omega
theorem rdMember_bd {s : ByteArray} {i n : Nat} {y : BitVec 256} (h : rdMember s i = .inl (y, n)) : i < n ∧ n ≤ s.size := by
  unfold rdMember at h
  split at h
  · unfold rdClass at h
    split at h
    · simp at h; omega
    · simp at h
  · split at h
    · simp at h
    · rename_i lo m hm
      have b1 := rdItem_bd hm
      split at h
      · split at h
        · simp at h
        · rename_i hi e he
          have b2 := rdItem_bd he
          split at h
          · simp at h
          · simp at h; omega
      · simp at h; omega
end Go.Proofs.YthffklhojdldkaaGreatDoor

namespace Go.Proofs.YthffklhojdldkaaGreatDoor
open Go.RowKit
def dgB (c : Int) : Bool := decide (48 ≤ c) && decide (c ≤ 57)
def hdB (c : Int) : Bool := (decide (97 ≤ c) && decide (c ≤ 122)) || (decide (65 ≤ c) && decide (c ≤ 90)) || c == 95
def nmB (c : Int) : Bool := hdB c || dgB c
/-- Behind the bytes at a place that a test lets by. -/
def spGo (P : Int → Bool) (s : ByteArray) : Nat → Nat → Nat
  | 0, i => i
  | m + 1, i => if P (chr s i) then spGo P s m (i + 1) else i
def spN (P : Int → Bool) (s : ByteArray) (i : Nat) : Nat := spGo P s (s.size - i) i
theorem spN_stop {P : Int → Bool} {s : ByteArray} {i : Nat} (h : P (chr s i) = false) : spN P s i = i := by
  unfold spN
  cases s.size - i with
  | zero => rfl
  | succ m => rw [spGo, h]; rfl
theorem spN_next {P : Int → Bool} {s : ByteArray} {i : Nat} (hn : P (-1) = false) (h : P (chr s i) = true) : i < s.size ∧ spN P s i = spN P s (i + 1) := by
  have hi : i < s.size := by
    by_cases q : i < s.size
    · exact q
    · rw [chr_out (by omega), hn] at h; cases h
  refine ⟨hi, ?_⟩
  unfold spN
  rw [show s.size - i = (s.size - (i + 1)) + 1 from by omega, spGo, h]
  rfl
theorem spN_spec (P : Int → Bool) (s : ByteArray) (hn : P (-1) = false) : ∀ d i, s.size - i = d → i ≤ spN P s i ∧ (i ≤ s.size → spN P s i ≤ s.size) ∧ P (chr s (spN P s i)) = false ∧ ∀ k, i ≤ k → k < spN P s i → P (chr s k) = true := by
  intro d
  induction d with
  | zero =>
    intro i hi
    have h : P (chr s i) = false := by rw [chr_out (by omega)]; exact hn
    rw [spN_stop h]
    exact ⟨Nat.le_refl _, fun q => q, h, fun k h1 h2 => by omega⟩
  | succ d ih =>
    intro i hi
    cases h : P (chr s i) with
    | false => rw [spN_stop h]; exact ⟨Nat.le_refl _, fun q => q, h, fun k h1 h2 => by omega⟩
    | true =>
      obtain ⟨h1, h2⟩ := spN_next hn h
      obtain ⟨i1, i2, i3, i4⟩ := ih (i + 1) (by omega)
      rw [h2]
      refine ⟨by omega, fun _ => i2 (by omega), i3, fun k k1 k2 => ?_⟩
      by_cases e : k = i
      · subst e; exact h
      · exact i4 k (by omega) k2
theorem spN_ge (P : Int → Bool) (s : ByteArray) (hn : P (-1) = false) (i : Nat) : i ≤ spN P s i := (spN_spec P s hn _ i rfl).1
theorem spN_le (P : Int → Bool) (s : ByteArray) (hn : P (-1) = false) (i : Nat) (h : i ≤ s.size) : spN P s i ≤ s.size := (spN_spec P s hn _ i rfl).2.1 h
/-- The number that k digits to a base tell, from a place on. -/
def wthR (s : ByteArray) (i : Nat) (base : Int) : Nat → Int
  | 0 => 0
  | k + 1 => wthR s i base k * base + hexV (chr s (i + k))
theorem wthR_bd (s : ByteArray) (i : Nat) (base : Int) (hb : 0 ≤ base ∧ base ≤ 16) : ∀ k, -(16 ^ k : Int) ≤ wthR s i base k - 1 ∧ wthR s i base k + 1 ≤ (16 ^ k : Int) := by
  intro k
  induction k with
  | zero => simp [wthR]
  | succ k ih =>
    have h := hexV_bd (chr s (i + k))
    have h16 : (16 : Int) ^ (k + 1) = 16 ^ k * 16 := by rw [Int.pow_succ]
    rw [wthR, h16]
    generalize wthR s i base k = x at *
    generalize (16 : Int) ^ k = p at *
    have hp : (1 : Int) ≤ p := by omega
    constructor
    · by_cases hx : 0 ≤ x
      · have : 0 ≤ x * base := Int.mul_nonneg hx hb.1
        omega
      · have h1 : x * base ≥ x * 16 := by
          have : (-x) * base ≤ (-x) * 16 := Int.mul_le_mul_of_nonneg_left hb.2 (by omega)
          rw [Int.neg_mul, Int.neg_mul] at this
          omega
        omega
    · by_cases hx : 0 ≤ x
      · have h1 : x * base ≤ x * 16 := Int.mul_le_mul_of_nonneg_left hb.2 hx
        omega
      · have h1 : x * base ≤ 0 := by
          have : 0 ≤ (-x) * base := Int.mul_nonneg (by omega) hb.1
          rw [Int.neg_mul] at this
          omega
        omega
theorem chr_ext {s : ByteArray} {a b k : Nat} (h : a + k < b) (hb : b ≤ s.size) : chr (s.extract a b) k = chr s (a + k) := by
  have h1 : k < (s.extract a b).size := by rw [ByteArray.size_extract]; omega
  rw [chr_in h1, chr_in (show a + k < s.size by omega)]
  congr 2
  exact ByteArray.getElem_extract h1
theorem wthR_ext {s : ByteArray} {a b : Nat} {base : Int} (hb : b ≤ s.size) : ∀ k, a + k ≤ b → wthR (s.extract a b) 0 base k = wthR s a base k := by
  intro k
  induction k with
  | zero => intro _; rfl
  | succ k ih =>
    intro h
    rw [wthR, wthR, ih (by omega), Nat.zero_add, chr_ext (by omega) hb]
/-- A number, or what is wrong. -/
def numR (s : ByteArray) (i : Nat) (most : Int) : Sum Int Int :=
  if spN dgB s i - i = 0 ∨ (1 < spN dgB s i - i ∧ chr s i = 48) then .inr 50
  else if 6 < spN dgB s i - i ∨ most < wthR s i 10 (spN dgB s i - i) then .inr 1
  else .inl (wthR s i 10 (spN dgB s i - i))
/-- A token. -/
structure Tk where
  kd : Int
  nn : Int
  fr : Int
  en : Int
  tx : ByteArray
  s0 : Int
  s1 : Int
  s2 : Int
  s3 : Int
abbrev tkG (t : Tk) : Value := .agg #[.int .i64 t.kd, .int .i64 t.nn, .int .i64 t.fr, .int .i64 t.en, .string t.tx, .int .u64 t.s0, .int .u64 t.s1, .int .u64 t.s2, .int .u64 t.s3]
def tk0 : Tk := ⟨0, 0, 0, 0, ⟨#[]⟩, 0, 0, 0, 0⟩
/-- A byte behind a backslash in a literal. -/
def escT (s : ByteArray) (i : Nat) : Option (Nat × Nat) :=
  if chr s (i + 1) = 110 then some (10, i + 2) else if chr s (i + 1) = 114 then some (13, i + 2) else if chr s (i + 1) = 116 then some (9, i + 2)
  else if chr s (i + 1) = 92 ∨ chr s (i + 1) = 39 ∨ chr s (i + 1) = 34 then some ((chr s (i + 1)).toNat, i + 2)
  else if chr s (i + 1) = 120 ∧ 0 ≤ hexV (chr s (i + 2)) ∧ 0 ≤ hexV (chr s (i + 3)) then some ((16 * hexV (chr s (i + 2)) + hexV (chr s (i + 3))).toNat, i + 4)
  else none
def litGo (s : ByteArray) (q : Int) (b : Nat) : Nat → List Int → Nat → Sum Tk (Nat × Int)
  | 0, _, _ => .inr (b, 52)
  | f + 1, out, i =>
    if chr s i < 0 then .inr (b, 52) else if chr s i = q then (if 255 < out.length then .inr (b, 2) else .inl ⟨2, 0, b, i + 1, asText out, 0, 0, 0, 0⟩)
    else if chr s i < 32 ∨ chr s i = 127 then .inr (i, 50) else if chr s i ≠ 92 then litGo s q b f (out ++ [chr s i]) (i + 1)
    else match escT s i with
      | none => .inr (i, 51)
      | some (c, n) => litGo s q b f (out ++ [(c : Int)]) n
def litR (s : ByteArray) (b : Nat) : Sum Tk (Nat × Int) := litGo s (chr s b) b (s.size + 1) [] (b + 1)
end Go.Proofs.YthffklhojdldkaaGreatDoor
