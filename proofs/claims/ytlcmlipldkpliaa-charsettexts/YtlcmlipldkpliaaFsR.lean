/- DERIVED. Walks: FromSpans, by the document. -/
import Derived.Test.YtlcmlipldkpliaaFsA
import Derived.Test.YtlcmlipldkpliaaRefs
namespace Go.Proofs.Ytlcmlipldkpliaa
open Go.RowKit

theorem AtF.drew {w wr : World} {x : BitVec 256} (h : AtF w wr x) : AtF w wr.drew x := h.below (Below.refl wr.heap.size wr).drew h.h2.lt

/-- The same, and one span that is read. -/
structure AtG (w wr : World) (x : BitVec 256) (g o : Nat) (lo hi : Int) : Prop where
  h : AtF w wr x
  e0 : wr.cell? ⟨g, o, none⟩ = some (.int .i64 lo)
  e1 : wr.cell? ⟨g, o + 1, none⟩ = some (.int .i64 hi)
  lt : g < wr.heap.size
theorem AtG.below {w wr w1 : World} {x : BitVec 256} {g o : Nat} {lo hi : Int} (h : AtG w wr x g o lo hi) (hb : Below wr.heap.size wr w1) : AtG w w1 x g o lo hi :=
  ⟨h.h.below hb h.h.h2.lt, (hb.cell (p := ⟨g, o, none⟩) h.lt).trans h.e0, (hb.cell (p := ⟨g, o + 1, none⟩) h.lt).trans h.e1, Nat.lt_of_lt_of_le h.lt hb.size⟩
theorem AtG.drew {w wr : World} {x : BitVec 256} {g o : Nat} {lo hi : Int} (h : AtG w wr x g o lo hi) : AtG w wr.drew x g o lo hi := h.below (Below.refl wr.heap.size wr).drew

set_option maxRecDepth 100000 in
set_option maxHeartbeats 2000000 in
theorem fromSpansR_some (g off cap : Nat) (l : List (Int × Int)) (w : World) (hg : g < w.heap.size) (h4 : ¬ 4096 < l.length) (hc : Cells w g off l) :
    Calls Try.prog 44 #[.slice (some ⟨g, off, none⟩) l.length cap] w fun e w' => e = .returned (fsV (frL l 0#256)) ∧ Below w.heap.size w w' := by
  have h4' : ¬ (4096 : Int) < (l.length : Int) := by omega
  have HA := (show Hid _ from AtF.start w)
  have HC := (show Hid _ from hc)
  clear hc
  generalize hR : frL l 0#256 = R
  have HR := (show Hid (frL (l.drop 0) 0#256 = R) from (by rw [List.drop_zero]; exact hR))
  clear hR
  go_enter Try.func44, Try.ntmps44
  go_wp2
  go_loopw [5] (fun t wr => ∃ k : Nat, ∃ x : BitVec 256, k ≤ l.length ∧ t = .int .i64 k ∧ Hid (frL (l.drop k) x = R) ∧ Hid (AtF w wr x)) (fun t _ => l.length - (intOf t).toNat)
  case atStart => exact ⟨0, 0#256, by omega, rfl, HR, HA⟩
  case round =>
    obtain ⟨k, x, hk, rfl, hr, ha⟩ := hrel
    clear HA HR
    by_cases hlt : k < l.length
    · have hk0 : (0 : Int) ≤ (k : Int) := by omega
      have hk1 : (k : Int) < (l.length : Int) := by omega
      obtain ⟨c0, c1⟩ := (Cells.below HC.out ha.out.hb hg) k hlt
      have hl : w.heap.size + 1 < wr.heap.size := ha.out.h2.lt
      have hgr : g < wr.heap.size := Nat.lt_of_lt_of_le hg ha.out.hb.size
      cases hs : spanB (l[k]).1 (l[k]).2
      · have hr' := (show Hid (R = (0#256, 10)) from (hr.out.symm.trans (frL_no hlt hs)))
        clear hr
        generalize (l[k]).1 = lo at *
        generalize (l[k]).2 = hi at *
        go_wp2_with fail
        refine (isSpan_any lo hi _).mono ?_
        rintro e w1 ⟨rfl, hb1⟩
        rw [hs]
        have HA2 := (show Hid (AtF w w1 x) from ha.out.below hb1 hl)
        clear ha c0 c1 hb1
        obtain ⟨_, c0, c1, c2, c3, f0, f1, f2, f3⟩ := HA2.out.h1
        go_wp2_with fail
        rw [hr'.out]
        refine bodyPost_ret (v := fsV (0#256, 10)) (by simp [results, Try.results44, go_sem, fsV, wd_zero, *]) rfl ⟨rfl, ?_⟩
        exact (((HA2.out.hb.setCell (Nat.le_refl _) _).setCell (Nat.le_refl _) _).setCell (Nat.le_refl _) _).setCell (Nat.le_refl _) _
      · have hr' := (show Hid (frL (l.drop (k + 1)) (x ||| spn (l[k]).1 (l[k]).2) = R) from ((frL_yes hlt hs).symm.trans hr.out))
        obtain ⟨b1, b2, b3⟩ := spanB_yes hs
        clear hr
        have HCk : Hid (∀ wz, Below wr.heap.size wr wz → wz.cell? ⟨g, off + k * 2, none⟩ = some (.int .i64 (l[k]).1) ∧ wz.cell? ⟨g, off + k * 2 + 1, none⟩ = some (.int .i64 (l[k]).2)) := fun wz hz => (Cells.below (Cells.below HC.out ha.out.hb hg) hz hgr) k hlt
        generalize (l[k]).1 = lo at *
        generalize (l[k]).2 = hi at *
        go_wp2_with fail
        refine (isSpan_any lo hi _).mono ?_
        rintro e w1 ⟨rfl, hb1⟩
        rw [hs]
        have HA2 := (show Hid (AtG w w1 x g (off + k * 2) lo hi) from ⟨ha.out.below hb1 hl, (HCk.out w1 hb1).1, (HCk.out w1 hb1).2, Nat.lt_of_lt_of_le hgr hb1.size⟩)
        have hl1 : w.heap.size + 1 < w1.heap.size := HA2.out.h.h2.lt
        have hgr1 : g < w1.heap.size := HA2.out.lt
        clear ha hb1 HCk c0 c1
        have c0 := HA2.out.e0
        have c1 := HA2.out.e1
        obtain ⟨_, d0, d1, d2, d3, f0, f1, f2, f3⟩ := HA2.out.h.h2
        go_wp2_with fail
        go_region_with (first | (go_at_call 60; refine (fromTo_any lo hi _ b1 b2 b3).mono ?_; rintro e w2 ⟨rfl, hb⟩; have hA2 := (show AtG w w2 x g (off + k * 2) lo hi from (by first | exact HA2.out.below hb | exact HA2.out.drew.below hb)); replace HA2 := (show Hid _ from hA2); clear hA2 hb c0 c1 d0 d1 d2 d3 f0 f1 f2 f3; obtain ⟨_, d0, d1, d2, d3, f0, f1, f2, f3⟩ := HA2.out.h.h2; have c0 := HA2.out.e0; have c1 := HA2.out.e1) | (go_at_call 15; refine (unionR_any x (spn lo hi) _).mono ?_; rintro e w3 ⟨rfl, hb⟩; have hA2 := (show AtG w w3 x g (off + k * 2) lo hi from (by first | exact HA2.out.below hb | exact HA2.out.drew.below hb)); replace HA2 := (show Hid _ from hA2); clear hA2 hb c0 c1 d0 d1 d2 d3 f0 f1 f2 f3; obtain ⟨_, d0, d1, d2, d3, f0, f1, f2, f3⟩ := HA2.out.h.h2))
        all_goals
          go_wp2
          go_roundw
          case rel => exact ⟨k + 1, _, by omega, by go_num, hr', HA2.out.h.put _⟩
          case measure => simp [intOf]; omega
    · obtain rfl : k = l.length := by omega
      have hr' := (show Hid (R = (x, 0)) from (hr.out.symm.trans frL_end))
      clear hr
      have hl : w.heap.size + 1 < wr.heap.size := ha.out.h2.lt
      obtain ⟨_, c0, c1, c2, c3, f0, f1, f2, f3⟩ := ha.out.h1
      obtain ⟨_, d0, d1, d2, d3, g0, g1, g2, g3⟩ := ha.out.h2
      go_wp2_with fail
      rw [hr'.out]
      refine bodyPost_ret (v := fsV (x, 0)) (by simp [results, Try.results44, go_sem, fsV, wd_zero, *]) rfl ⟨rfl, ?_⟩
      exact put4_below' ha.out.hb (Nat.le_refl _) x

set_option maxHeartbeats 1000000 in
theorem fromSpansR_empty (a : Option Addr) (cap : Nat) (w : World) :
    Calls Try.prog 44 #[.slice a 0 cap] w fun e w' => e = .returned (fsV (0#256, 0)) ∧ Below w.heap.size w w' := by
  go_enter Try.func44, Try.ntmps44
  go_wp2
  refine wp_loop_rounds 1 ?_
  rw [rounds_succ]
  go_wp2
  refine bodyPost_ret (v := fsV (0#256, 0)) (by simp [results, Try.results44, go_sem, fsV, wd_zero]) rfl ⟨rfl, ?_⟩
  exact ((Below.refl _ _).alloc (Nat.le_refl _) _).alloc (by simp) _

set_option maxHeartbeats 1000000 in
theorem fromSpansR_long (a : Option Addr) (n cap : Nat) (w : World) (h : 4096 < n) :
    Calls Try.prog 44 #[.slice a n cap] w fun e w' => e = .returned (fsV (0#256, 2)) ∧ Below w.heap.size w w' := by
  have h4' : (4096 : Int) < (n : Int) := by omega
  go_enter Try.func44, Try.ntmps44
  go_wp2
  refine bodyPost_ret (v := fsV (0#256, 2)) (by simp [results, Try.results44, go_sem, fsV, wd_zero]) rfl ⟨rfl, ?_⟩
  exact (Below.refl _ _).alloc (Nat.le_refl _) _

theorem fromSpansR_any (v : Value) (l : List (Int × Int)) (w : World) (h : Reads w v l) :
    Calls Try.prog 44 #[v] w fun e w' => e = .returned (fsV (frS l)) ∧ Below w.heap.size w w' := by
  rcases h with ⟨rfl, rfl⟩ | ⟨g, off, cap, rfl, hg, hc⟩
  · exact fromSpansR_empty _ _ w
  · unfold frS
    by_cases h4 : 4096 < l.length
    · rw [if_pos h4]; exact fromSpansR_long _ _ _ w h4
    · rw [if_neg h4]; exact fromSpansR_some g off cap l w hg h4 hc
end Go.Proofs.Ytlcmlipldkpliaa
