/- DERIVED. Walks: FromSpans, by the program. -/
import Derived.Test.YtlcmlipldkpliaaRange
import Derived.Test.YtlcmlipldkpliaaSame
namespace Go.Proofs.Ytlcmlipldkpliaa
open Go.RowKit

/-- The set of spans, one behind the other, or an error. -/
def frL : List (Int × Int) → BitVec 256 → BitVec 256 × Int
  | [], s => (s, 0)
  | p :: t, s => if spanB p.1 p.2 then frL t (s ||| spn p.1 p.2) else (0#256, 10)
def frS (l : List (Int × Int)) : BitVec 256 × Int := if 4096 < l.length then (0#256, 2) else frL l 0#256
theorem frL_yes {l : List (Int × Int)} {k : Nat} {s : BitVec 256} (h : k < l.length) (hb : spanB (l[k]).1 (l[k]).2 = true) : frL (l.drop k) s = frL (l.drop (k + 1)) (s ||| spn (l[k]).1 (l[k]).2) := by
  rw [List.drop_eq_getElem_cons h, frL, if_pos hb]
theorem frL_no {l : List (Int × Int)} {k : Nat} {s : BitVec 256} (h : k < l.length) (hb : spanB (l[k]).1 (l[k]).2 = false) : frL (l.drop k) s = (0#256, 10) := by
  rw [List.drop_eq_getElem_cons h, frL, if_neg (by rw [hb]; simp)]
theorem frL_end {l : List (Int × Int)} {s : BitVec 256} : frL (l.drop l.length) s = (s, 0) := by rw [List.drop_length]; rfl

/-- The cells of a slice of spans. -/
def Cells (w : World) (g off : Nat) (l : List (Int × Int)) : Prop :=
  ∀ i (h : i < l.length), w.cell? ⟨g, off + i * 2, none⟩ = some (.int .i64 (l[i]).1) ∧ w.cell? ⟨g, off + i * 2 + 1, none⟩ = some (.int .i64 (l[i]).2)
theorem Cells.below {B : Nat} {w w' : World} {g off : Nat} {l : List (Int × Int)} (h : Cells w g off l) (hb : Below B w w') (hg : g < B) : Cells w' g off l :=
  fun i hi => ⟨(hb.cell (p := ⟨g, off + i * 2, none⟩) hg).trans (h i hi).1, (hb.cell (p := ⟨g, off + i * 2 + 1, none⟩) hg).trans (h i hi).2⟩
/-- What holds while spans are read. -/
structure AtF (w wr : World) (x : BitVec 256) : Prop where
  h1 : Holds wr w.heap.size 0#256
  h2 : Holds wr (w.heap.size + 1) x
  hb : Below w.heap.size w wr
theorem AtF.below {B : Nat} {w wr w1 : World} {x : BitVec 256} (h : AtF w wr x) (hb : Below B wr w1) (hB : w.heap.size + 1 < B) : AtF w w1 x :=
  ⟨h.h1.below hb (by omega), h.h2.below hb hB, h.hb.trans (hb.mono (by omega))⟩
theorem AtF.start (w : World) : AtF w ((w.alloc z4).alloc z4) 0#256 :=
  ⟨(Holds.zero w).alloc _, Holds.zero' w _, ((Below.refl _ _).alloc (Nat.le_refl _) _).alloc (by simp) _⟩
theorem AtF.put {w wr : World} {x : BitVec 256} (h : AtF w wr x) (y : BitVec 256) : AtF w (put4 wr (w.heap.size + 1) y) y :=
  ⟨h.h1.put_other (by omega) y, h.h2.put y, put4_below' h.hb (by omega) y⟩
def fsV (r : BitVec 256 × Int) : Value := .tuple #[sv r.1, .int .i64 r.2]

set_option maxRecDepth 100000 in
set_option maxHeartbeats 2000000 in
theorem fromSpans_some (g off cap : Nat) (l : List (Int × Int)) (w : World) (hg : g < w.heap.size) (h4 : ¬ 4096 < l.length) (hc : Cells w g off l) :
    Calls Try.prog 43 #[.slice (some ⟨g, off, none⟩) l.length cap] w fun e w' => e = .returned (fsV (frL l 0#256)) ∧ Below w.heap.size w w' := by
  have h4' : ¬ (4096 : Int) < (l.length : Int) := by omega
  have HA := (show Hid _ from AtF.start w)
  have HC := (show Hid _ from hc)
  clear hc
  generalize hR : frL l 0#256 = R
  have HR := (show Hid (frL (l.drop 0) 0#256 = R) from (by rw [List.drop_zero]; exact hR))
  clear hR
  go_enter Try.func43, Try.ntmps43
  go_wp2
  go_loopw [13] (fun t wr => ∃ k : Nat, ∃ x : BitVec 256, k ≤ l.length ∧ t = .int .i64 k ∧ Hid (frL (l.drop k) x = R) ∧ Hid (AtF w wr x)) (fun t _ => l.length - (intOf t).toNat)
  case atStart => exact ⟨0, 0#256, by omega, rfl, HR, HA⟩
  case round =>
    obtain ⟨k, x, hk, rfl, hr, ha⟩ := hrel
    clear HA HR
    by_cases hlt : k < l.length
    · have hk0 : (0 : Int) ≤ (k : Int) := by omega
      have hk1 : (k : Int) < (l.length : Int) := by omega
      obtain ⟨c0, c1⟩ := (Cells.below HC.out ha.out.hb hg) k hlt
      have hl : w.heap.size + 1 < wr.heap.size := ha.out.h2.lt
      have hgr : g < wr.heap.size := Nat.lt_of_lt_of_le hg ha.out.hb.size
      cases hs : spanB (l[k]).1 (l[k]).2
      · have hr' := (show Hid (R = (0#256, 10)) from (hr.out.symm.trans (frL_no hlt hs)))
        clear hr
        generalize (l[k]).1 = lo at *
        generalize (l[k]).2 = hi at *
        go_wp2_with fail
        refine (spanOf_any lo hi _).mono ?_
        rintro e w1 ⟨rfl, rfl⟩
        rw [hs]
        have HA2 := (show Hid (AtF w (wr.alloc (.cells #[.int .i64 lo, .int .i64 hi] 52)) x) from ha.out.below (B := wr.heap.size) (below1 _ _) hl)
        clear ha c0 c1
        obtain ⟨_, c0, c1, c2, c3, f0, f1, f2, f3⟩ := HA2.out.h1
        go_wp2_with fail
        rw [hr'.out]
        refine bodyPost_ret (v := fsV (0#256, 10)) (by simp [results, Try.results43, go_sem, fsV, wd_zero, *]) rfl ⟨rfl, ?_⟩
        exact (((HA2.out.hb.setCell (Nat.le_refl _) _).setCell (Nat.le_refl _) _).setCell (Nat.le_refl _) _).setCell (Nat.le_refl _) _
      · have hr' := (show Hid (frL (l.drop (k + 1)) (x ||| spn (l[k]).1 (l[k]).2) = R) from ((frL_yes hlt hs).symm.trans hr.out))
        obtain ⟨b1, b2, b3⟩ := spanB_yes hs
        clear hr
        generalize (l[k]).1 = lo at *
        generalize (l[k]).2 = hi at *
        go_wp2_with fail
        refine (spanOf_any lo hi _).mono ?_
        rintro e w1 ⟨rfl, rfl⟩
        rw [hs]
        have HA2 := (show Hid (AtF w (wr.alloc (.cells #[.int .i64 lo, .int .i64 hi] 52)) x) from ha.out.below (B := wr.heap.size) (below1 _ _) hl)
        clear ha c0 c1
        obtain ⟨_, c0, c1, c2, c3, f0, f1, f2, f3⟩ := HA2.out.h2
        go_wp2_with fail
        refine (fill_any x lo hi _ b1 b2 b3).mono ?_
        rintro e w2 ⟨rfl, hb2⟩
        have HA3 := (show Hid _ from HA2.out.below hb2 HA2.out.h2.lt)
        clear HA2 hb2 c0 c1 c2 c3 f0 f1 f2 f3
        obtain ⟨_, c0, c1, c2, c3, f0, f1, f2, f3⟩ := HA3.out.h2
        go_wp2_with fail
        go_roundw
        case rel => exact ⟨k + 1, _, by omega, by go_num, hr', HA3.out.put _⟩
        case measure => simp [intOf]; omega
    · obtain rfl : k = l.length := by omega
      have hr' := (show Hid (R = (x, 0)) from (hr.out.symm.trans frL_end))
      clear hr
      have hl : w.heap.size + 1 < wr.heap.size := ha.out.h2.lt
      obtain ⟨_, c0, c1, c2, c3, f0, f1, f2, f3⟩ := ha.out.h1
      obtain ⟨_, d0, d1, d2, d3, g0, g1, g2, g3⟩ := ha.out.h2
      go_wp2_with fail
      rw [hr'.out]
      refine bodyPost_ret (v := fsV (x, 0)) (by simp [results, Try.results43, go_sem, fsV, wd_zero, *]) rfl ⟨rfl, ?_⟩
      exact put4_below' ha.out.hb (Nat.le_refl _) x

set_option maxHeartbeats 1000000 in
theorem fromSpans_empty (a : Option Addr) (cap : Nat) (w : World) :
    Calls Try.prog 43 #[.slice a 0 cap] w fun e w' => e = .returned (fsV (0#256, 0)) ∧ Below w.heap.size w w' := by
  go_enter Try.func43, Try.ntmps43
  go_wp2
  refine wp_loop_rounds 1 ?_
  rw [rounds_succ]
  go_wp2
  refine bodyPost_ret (v := fsV (0#256, 0)) (by simp [results, Try.results43, go_sem, fsV, wd_zero]) rfl ⟨rfl, ?_⟩
  exact ((Below.refl _ _).alloc (Nat.le_refl _) _).alloc (by simp) _

set_option maxHeartbeats 1000000 in
theorem fromSpans_long (a : Option Addr) (n cap : Nat) (w : World) (h : 4096 < n) :
    Calls Try.prog 43 #[.slice a n cap] w fun e w' => e = .returned (fsV (0#256, 2)) ∧ Below w.heap.size w w' := by
  have h4' : (4096 : Int) < (n : Int) := by omega
  go_enter Try.func43, Try.ntmps43
  go_wp2
  refine bodyPost_ret (v := fsV (0#256, 2)) (by simp [results, Try.results43, go_sem, fsV, wd_zero]) rfl ⟨rfl, ?_⟩
  exact (Below.refl _ _).alloc (Nat.le_refl _) _

theorem fromSpans_any (v : Value) (l : List (Int × Int)) (w : World) (h : Reads w v l) :
    Calls Try.prog 43 #[v] w fun e w' => e = .returned (fsV (frS l)) ∧ Below w.heap.size w w' := by
  rcases h with ⟨rfl, rfl⟩ | ⟨g, off, cap, rfl, hg, hc⟩
  · exact fromSpans_empty _ _ w
  · unfold frS
    by_cases h4 : 4096 < l.length
    · rw [if_pos h4]; exact fromSpans_long _ _ _ w h4
    · rw [if_neg h4]; exact fromSpans_some g off cap l w hg h4 hc
end Go.Proofs.Ytlcmlipldkpliaa
