/- DERIVED. Walks: Fold, by the program. -/
import Derived.RangeFuncBox
import Derived.Test.YtlcmlipldkpliaaFoldP
import Derived.Test.YtlcmlipldkpliaaLeast
import Derived.Test.YtlcmlipldkpliaaClass
namespace Go.Proofs.Ytlcmlipldkpliaa
open Go.RowKit Go.Shelf

attribute [local go_sem] Oper.semAt_some

/-- Is it a small letter? -/
def smlB (b : Int) : Bool := decide (97 ≤ b) && decide (b ≤ 122)
set_option maxHeartbeats 400000 in
theorem isSmall_any (b : Int) (w : World) :
    Calls Try.prog 65 #[.int .i64 b] w fun e w' => e = .returned (.bool (smlB b)) ∧ w' = w := by
  by_cases h0 : 97 ≤ b
  · have hd : decide (97 ≤ b) = true := by simpa using h0
    go_enter Try.func65, Try.ntmps65
    go_wp2
    go_ret
    exact ⟨by simp [smlB, h0], rfl⟩
  · have hd : decide (97 ≤ b) = false := by simpa using h0
    go_enter Try.func65, Try.ntmps65
    go_wp2
    go_ret
    exact ⟨by unfold smlB; rw [hd]; rfl, rfl⟩

theorem holds_kept {W W' : World} {b : Nat} {x : BitVec 256} {row : Option Nat} (h : Holds W b x) (hg : W.grownBy W' row) (hr : ∀ r, row = some r → ∃ o : Obj, W.heap[r]? = some o ∧ o.isCells = false) : Holds W' b x :=
  ⟨Nat.lt_of_lt_of_le h.lt hg.size, cell_kept h.c0 hg hr, cell_kept h.c1 hg hr, cell_kept h.c2 hg hr, cell_kept h.c3 hg hr,
    (frozen_kept h.c0 hg hr).trans h.f0, (frozen_kept h.c1 hg hr).trans h.f1, (frozen_kept h.c2 hg hr).trans h.f2, (frozen_kept h.c3 hg hr).trans h.f3⟩
theorem others_below {W W' : World} (hb : Below W.heap.size W W') : KeepsOthers W W' := KeepsOthers.of_grownBy (grown_below hb) (fun j o ej _ => by cases ej)
theorem others_put4 (W : World) (b : Nat) (y : BitVec 256) : KeepsOthers W (put4 W b y) :=
  (((KeepsOthers.setCell _ _ _).trans (KeepsOthers.setCell _ _ _)).trans (KeepsOthers.setCell _ _ _)).trans (KeepsOthers.setCell _ _ _)
theorem keep_put4 {W : World} {b c : Nat} (h : c ≠ b) (y : BitVec 256) : KeepB c W (put4 W b y) :=
  ((((KeepB.setCell (p := ⟨b, 0, none⟩) h _).trans (KeepB.setCell (p := ⟨b, 1, none⟩) h _)).trans (KeepB.setCell (p := ⟨b, 2, none⟩) h _)).trans (KeepB.setCell (p := ⟨b, 3, none⟩) h _))
theorem put4_belowF {B : Nat} {w w' : World} {b : Nat} (h : Below B w w') (hb : B ≤ b) (y : BitVec 256) : Below B w (put4 w' b y) :=
  (((h.setCell (p := ⟨b, 0, none⟩) hb _).setCell (p := ⟨b, 1, none⟩) hb _).setCell (p := ⟨b, 2, none⟩) hb _).setCell (p := ⟨b, 3, none⟩) hb _

set_option maxRecDepth 100000 in
set_option maxHeartbeats 4000000 in
theorem fold_in (n : Nat) (hn : 3 ≤ n) (x : BitVec 256) (w : World) :
    CallsIn Fence.wide n Try.prog 41 #[sv x] w fun e W' => e = .returned (sv (foldP x (byf x 256))) ∧ Below w.heap.size w W' := by
  have h1 : 1 ≤ n := by omega
  refine callsIn_of_wp_marks Try.func41 rfl trivial ?_ rfl
  simp only [Try.ntmps41, List.size_toArray, List.length_cons, List.length_nil, Nat.reduceAdd, Nat.reduceSub, Array.replicate_succ, Array.replicate_zero, List.push_toArray, List.append_toArray, List.nil_append, List.cons_append]
  gi_wp2_with fail
  refine ⟨trivial, (each_in (n - 1) x _).mono ?_⟩
  rintro e w' ⟨rfl, rfl⟩
  gi_wp2_with fail
  have hX := Holds.new (((w.alloc (c4 x)).alloc z4).alloc (c4 x)) x
  rw [size3] at hX
  have hF := (Holds.new ((w.alloc (c4 x)).alloc z4) x).alloc (c4 x)
  rw [size2] at hF
  have hO := ((Holds.zero (w.alloc (c4 x))).alloc (c4 x)).alloc (c4 x)
  rw [size1] at hO
  have hB0 : Below w.heap.size w ((((w.alloc (c4 x)).alloc z4).alloc (c4 x)).alloc (c4 x)) := (below3 w (c4 x) z4 (c4 x)).alloc (by simp; omega) _
  refine wpIn_rangeFunc_ownF rfl h1 (gf := 78) (lb := #[.pointer (some ⟨w.heap.size + 1 + 1 + 1, 0, none⟩)]) rfl trivial (enters_of Try.func78 (by kernel_rfl) rfl)
    (each_stops (n - 1) (by omega) (w.heap.size + 1 + 1 + 1) x _ hX) KeepB.trans (KeepB.put hX.lt) (Below.refl _ _) (fun _ => rfl)
    (fun pre W => (Holds W (w.heap.size + 1 + 1) (foldP x pre) ∧ Holds W (w.heap.size + 1) 0#256) ∧ (Below w.heap.size w W ∧ Hid (w.heap.size + 1 + 1 + 1 < W.heap.size)))
    (fun _ _ _ => False)
    (OwnFrom.and (Own.from (fun s A B row hs hg hr => ⟨holds_kept hs.1 hg hr, holds_kept hs.2 hg hr⟩) _) (OwnFrom.and (ownFrom_below (Nat.le_refl _) (by simp; omega)) (fun s W W' row hs hg hr => Nat.lt_of_lt_of_le hs hg.size)))
    (fun _ _ _ _ _ hs _ _ => hs)
    ⟨⟨hF, hO⟩, hB0, hX.lt⟩
    (fun b => { tmps := #[sv x, .pointer (some ⟨w.heap.size, 0, none⟩), .pointer (some ⟨w.heap.size + 1, 0, none⟩), .pointer (some ⟨w.heap.size + 1 + 1, 0, none⟩), .int .i64 (b.val : Int), sv x, sv x, .func (.func 78) #[] #[.pointer (some ⟨w.heap.size + 1 + 1 + 1, 0, none⟩)], .int .i64 (b.val : Int), undef, undef, undef, undef, undef, undef, undef, undef, undef, undef, undef, undef, undef], defers := [] }) ?assign ?body ?done ?stop
  case assign =>
    intro l b W K hK
    gi_wp2
    exact hK
  case body =>
    rintro l pre b W ⟨⟨hf, ho⟩, hB, HZ⟩ hlt
    have HF := (show Hid _ from hf)
    have HO := (show Hid _ from ho)
    have HB := (show Hid _ from hB)
    have hb8 : b.val < 256 := b.isLt
    have HS := (show Hid _ from foldP_snoc x pre b)
    generalize foldP x pre = y at *
    obtain ⟨l0, c0, c1, c2, c3, f0, f1, f2, f3⟩ := hf
    clear ho hB
    by_cases hcap : 65 ≤ b.val ∧ b.val ≤ 90
    · have hcb : capB (b.val : Int) = true := by simp [capB]; omega
      have HE : Hid (fstep y b = y ||| bt (b.val + 32)) := (by show fstep y b = _; unfold fstep; rw [if_pos hcap])
      have hb90 : (b.val : Int) ≤ 90 := by omega
      gi_wp2_with fail
      refine ⟨trivial, fun h => (by cases h), (CallsIn.inRound l (callsIn_wide.2 (isCapital_any _ _))).mono ?_⟩
      rintro e W1 ⟨rfl, rfl⟩
      gi_wp2_with fail
      refine ⟨trivial, fun h => (by cases h), (CallsIn.inRound l (callsIn_wide.2 (with_any y ((b.val : Int) + 32) _ (by omega) (by omega)))).mono ?_⟩
      rintro e W1 ⟨rfl, hb1⟩
      rw [show ((b.val : Int) + 32).toNat = b.val + 32 from by omega]
      obtain ⟨l0, c0, c1, c2, c3, f0, f1, f2, f3⟩ := HF.out.below hb1 l0
      have HF1 := (show Hid _ from HF.out.below hb1 HF.out.lt)
      have HO1 := (show Hid _ from HO.out.below hb1 HO.out.lt)
      gi_wp2
      exact ⟨(others_below hb1).trans (others_put4 _ _ _), (KeepB.below hb1 HZ.out).trans (keep_put4 (by omega) _), ⟨by rw [HS.out, HE.out]; exact HF1.out.put _, HO1.out.put_other (by omega) _⟩, put4_belowF (HB.out.trans (hb1.mono HB.out.size)) (by omega) _, Nat.lt_of_lt_of_le HZ.out (by have h := hb1.size; simp [World.setCell]; exact h)⟩
    · have hcb : capB (b.val : Int) = false := by simp [capB]; omega
      by_cases hsm : 97 ≤ b.val ∧ b.val ≤ 122
      · have hsb : smlB (b.val : Int) = true := by simp [smlB]; omega
        have HE : Hid (fstep y b = y ||| bt (b.val - 32)) := (by show fstep y b = _; unfold fstep; rw [if_neg hcap, if_pos hsm])
        have hb97 : 97 ≤ (b.val : Int) := by omega
        gi_wp2_with fail
        refine ⟨trivial, fun h => (by cases h), (CallsIn.inRound l (callsIn_wide.2 (isCapital_any _ _))).mono ?_⟩
        rintro e W1 ⟨rfl, rfl⟩
        gi_wp2_with fail
        refine ⟨trivial, fun h => (by cases h), (CallsIn.inRound l (callsIn_wide.2 (isSmall_any _ _))).mono ?_⟩
        rintro e W1 ⟨rfl, rfl⟩
        gi_wp2_with fail
        refine ⟨trivial, fun h => (by cases h), (CallsIn.inRound l (callsIn_wide.2 (with_any y ((b.val : Int) - 32) _ (by omega) (by omega)))).mono ?_⟩
        rintro e W1 ⟨rfl, hb1⟩
        rw [show ((b.val : Int) - 32).toNat = b.val - 32 from by omega]
        obtain ⟨l0, c0, c1, c2, c3, f0, f1, f2, f3⟩ := HF.out.below hb1 l0
        have HF1 := (show Hid _ from HF.out.below hb1 HF.out.lt)
        have HO1 := (show Hid _ from HO.out.below hb1 HO.out.lt)
        gi_wp2
        exact ⟨(others_below hb1).trans (others_put4 _ _ _), (KeepB.below hb1 HZ.out).trans (keep_put4 (by omega) _), ⟨by rw [HS.out, HE.out]; exact HF1.out.put _, HO1.out.put_other (by omega) _⟩, put4_belowF (HB.out.trans (hb1.mono HB.out.size)) (by omega) _, Nat.lt_of_lt_of_le HZ.out (by have h := hb1.size; simp [World.setCell]; exact h)⟩
      · have hsb : smlB (b.val : Int) = false := by simp [smlB]; omega
        have HE : Hid (fstep y b = y) := (by show fstep y b = _; unfold fstep; rw [if_neg hcap, if_neg hsm])
        gi_wp2_with fail
        refine ⟨trivial, fun h => (by cases h), (CallsIn.inRound l (callsIn_wide.2 (isCapital_any _ _))).mono ?_⟩
        rintro e W1 ⟨rfl, rfl⟩
        gi_wp2_with fail
        refine ⟨trivial, fun h => (by cases h), (CallsIn.inRound l (callsIn_wide.2 (isSmall_any _ _))).mono ?_⟩
        rintro e W1 ⟨rfl, rfl⟩
        gi_wp2
        exact ⟨KeepsOthers.refl _, KeepB.refl _ _, ⟨by rw [HS.out, HE.out]; exact HF.out, HO.out⟩, HB.out, HZ.out⟩
  case done =>
    rintro D ys W hD rfl ⟨⟨hf, ho⟩, hB, HZ⟩ hK
    have HF := (show Hid _ from hf)
    have HO := (show Hid _ from ho)
    generalize hy : foldP x (byf x 256) = y at *
    have HY := (show Hid _ from hy)
    clear hy
    obtain ⟨l0, c0, c1, c2, c3, f0, f1, f2, f3⟩ := hf
    obtain ⟨l1, d0, d1, d2, d3, g0, g1, g2, g3⟩ := ho
    gi_wp2
    have hK' := (others_put4 W (w.heap.size + 1) y).same D _ hK rfl
    refine ⟨by simp, .inl ⟨_, _, rfl, run_takeDeferred hK', ?_⟩⟩
    obtain ⟨m0, e0, e1, e2, e3, _, _, _, _⟩ := holds_kept (HO.out.put y) (grownBy_putObj' _ D (.deferred none)) (fun r e => by cases e; exact ⟨_, hK', rfl⟩)
    refine ⟨sv y, ?_, by rw [HY.out], (put4_belowF hB (by omega) y).trans (belowK_b (w := w) (Nat.le_refl _) _ D _ _ (by simp at hD; omega) hK' rfl rfl)⟩
    simp [results, Try.results41, go_sem, e0, e1, e2, e3]
  case stop =>
    rintro D c pre W _ _ h _
    exact h.elim

theorem fold_any (x : BitVec 256) (w : World) :
    Calls Try.prog 41 #[sv x] w fun e w' => e = .returned (sv (foldP x (byf x 256))) ∧ Below w.heap.size w w' :=
  (callsIn_wide (n := 3)).1 (fold_in 3 (by omega) x w)
end Go.Proofs.Ytlcmlipldkpliaa
