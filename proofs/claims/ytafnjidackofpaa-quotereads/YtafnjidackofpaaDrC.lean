/- DERIVED. Walks: Unquote, by the document; the law QuoteReads. -/
import Derived.Test.YtafnjidackofpaaDrB
namespace Go.Proofs.Ytafnjidackofpaa
open Go.RowKit

theorem rdBody_bd {s : ByteArray} {m : Int} {f i : Nat} {l l' : List Int} {e : Nat} (hm : 0 ≤ m) (h : rdBody s m f i l = .inl (l', e)) : i < e ∧ e ≤ s.size := by
  induction f generalizing i l with
  | zero => unfold rdBody at h; cases h
  | succ f ih =>
    unfold rdBody at h
    split at h
    · next q => cases h; have := chr_lt (s := s) (i := i) (by omega); omega
    · split at h
      · cases h
      · split at h
        · cases h
        · next q => have := rdByte_bd q; have := ih h; omega
theorem rdCut_bd {s : ByteArray} {i : Int} {l : List Int} {e : Nat} (h : rdCut s i = .inl (l, e)) : 0 ≤ i ∧ i + 2 ≤ e ∧ e ≤ s.size ∧ s.size ≤ 65536 := by
  unfold rdCut at h
  split at h
  · cases h
  · split at h
    · cases h
    · split at h
      · have := rdBody_bd (by omega) h; omega
      · cases h
theorem rdCut_end {s : ByteArray} {i : Int} {l : List Int} {e : Nat} (h : rdCut s i = .inl (l, e)) : e ≤ s.size := (rdCut_bd h).2.2.1

set_option maxRecDepth 100000 in
set_option maxHeartbeats 4000000 in
theorem unquoteR_any (s : ByteArray) (w : World) :
    Calls Try.prog 15 #[.string s] w fun e w' => e = .returned (unV (rdUnq s)) ∧ Below w.heap.size w w' := by
  have HF := (show Hid _ from FHolds.new w 0 0)
  have HB := (show Hid _ from (Below.refl w.heap.size w).alloc (Nat.le_refl _) (.cells #[.int .i64 0, .int .i64 0] 28))
  have HC : Hid (∀ w, Calls Try.prog 13 #[.string s, .int .i64 0] w fun e w' => e = .returned (cuV (rdCut s 0)) ∧ Below w.heap.size w w') := fun w => cutR_any s 0 w
  cases hR : rdCut s 0 with
  | inr pq =>
    obtain ⟨a, c⟩ := pq
    have hc : (c != 0) = true := bne_iff_ne.2 (rdCut_code hR)
    have HG := (show Hid (rdUnq s = .inr (a, c)) from (by show rdUnq s = _; unfold rdUnq; rw [hR]))
    rw [hR] at HC
    dsimp only [cuV] at HC
    clear hR
    go_enter Try.func15, Try.ntmps15
    go_wp2_with fail
    refine (HC.out _).mono ?_
    rintro e w2 ⟨rfl, hb2⟩
    have HF2 := (show Hid _ from HF.out.below hb2 HF.out.lt)
    have HB2 := (show Hid _ from HB.out.trans (hb2.mono HB.out.size))
    have hl : w.heap.size < w2.heap.size := HF2.out.lt
    clear hb2 HC
    clear HF HB
    obtain ⟨_, c0, c1, f0, f1⟩ := HF2.out
    obtain ⟨_, d0, d1, g0, g1⟩ := FHolds.new w2 a c
    go_wp2_with fail
    go_region
    all_goals
      go_wp2
      rw [HG.out]
      refine bodyPost_ret (v := unV (.inr (a, c))) (by simp [results, Try.results15, go_sem, unV, *]) rfl ⟨rfl, ?_⟩
      exact ((putF_below HB2.out (Nat.le_refl _) _ _).alloc (by simp; omega) _).drew
  | inl p =>
    obtain ⟨l, n⟩ := p
    rw [hR] at HC
    dsimp only [cuV] at HC
    by_cases hn : n = s.size
    · have en : ¬ (n : Int) < (s.size : Int) := by omega
      have HG := (show Hid (rdUnq s = .inl l) from (by show rdUnq s = _; unfold rdUnq; rw [hR]; exact if_pos hn))
      clear hR hn
      go_enter Try.func15, Try.ntmps15
      go_wp2_with fail
      refine (HC.out _).mono ?_
      rintro e w2 ⟨rfl, hb2⟩
      have HF2 := (show Hid _ from HF.out.below hb2 HF.out.lt)
      have HB2 := (show Hid _ from HB.out.trans (hb2.mono HB.out.size))
      have hl : w.heap.size < w2.heap.size := HF2.out.lt
      clear hb2 HC HF HB
      obtain ⟨_, c0, c1, f0, f1⟩ := HF2.out
      go_wp2_with fail
      rw [HG.out]
      refine bodyPost_ret (v := unV (.inl l)) (by simp [results, Try.results15, go_sem, unV, *]) rfl ⟨rfl, ?_⟩
      exact (putF_below HB2.out (Nat.le_refl _) _ _).alloc (by simp; omega) _
    · have en : (n : Int) < (s.size : Int) := by have := rdCut_end hR; omega
      have HG := (show Hid (rdUnq s = .inr (n, 20)) from (by show rdUnq s = _; unfold rdUnq; rw [hR]; exact if_neg hn))
      clear hR hn
      go_enter Try.func15, Try.ntmps15
      go_wp2_with fail
      refine (HC.out _).mono ?_
      rintro e w2 ⟨rfl, hb2⟩
      have HF2 := (show Hid _ from HF.out.below hb2 HF.out.lt)
      have HB2 := (show Hid _ from HB.out.trans (hb2.mono HB.out.size))
      have hl : w.heap.size < w2.heap.size := HF2.out.lt
      clear hb2 HC HF HB
      obtain ⟨_, c0, c1, f0, f1⟩ := HF2.out
      go_wp2_with fail
      rw [HG.out]
      refine bodyPost_ret (v := unV (.inr (n, 20))) (by simp [results, Try.results15, go_sem, unV, *]) rfl ⟨rfl, ?_⟩
      exact (putF_below HB2.out (Nat.le_refl _) _ _).alloc (by simp; omega) _


/-- The boxes of the law. -/
structure At4 (w : World) (b1 b2 b3 b4 : Nat) (a c a' c' : Int) (W : World) : Prop where
  x1 : FHolds W b1 a c
  x2 : FHolds W b2 a c
  x3 : FHolds W b3 a' c'
  x4 : FHolds W b4 a' c'
  h : Below w.heap.size w W
theorem At4.below {w : World} {b1 b2 b3 b4 : Nat} {a c a' c' : Int} {W W' : World} (h : At4 w b1 b2 b3 b4 a c a' c' W) (hb : Below W.heap.size W W') : At4 w b1 b2 b3 b4 a c a' c' W' :=
  ⟨h.x1.below hb h.x1.lt, h.x2.below hb h.x2.lt, h.x3.below hb h.x3.lt, h.x4.below hb h.x4.lt, h.h.trans (hb.mono h.h.size)⟩
theorem cu_some (r : Rd (List Int × Nat)) : ∃ S E A C, cuV r = .tuple #[.string S, .int .i64 E, .agg #[.int .i64 A, .int .i64 C]] := by
  cases r with
  | inl p => obtain ⟨l, n⟩ := p; exact ⟨_, _, _, _, rfl⟩
  | inr pq =>
    obtain ⟨a, c⟩ := pq
    exact ⟨_, _, _, _, rfl⟩
theorem un_some (r : Rd (List Int)) : ∃ S A C, unV r = .tuple #[.string S, .agg #[.int .i64 A, .int .i64 C]] := by
  cases r with
  | inl p => exact ⟨_, _, _, rfl⟩
  | inr pq =>
    obtain ⟨a, c⟩ := pq
    exact ⟨_, _, _, rfl⟩

set_option maxRecDepth 100000 in
set_option maxHeartbeats 4000000 in
theorem reads_any (s : ByteArray) (i : Int) (w : World) :
    Calls Try.prog 4 #[.string s, .int .i64 i] w fun e w' => e = .returned (.bool true) ∧ Below w.heap.size w w' := by
  have heq := eq28w
  obtain ⟨S, E, A, C, hcu⟩ := cu_some (rdCut s i)
  obtain ⟨T, A2, C2, hun⟩ := un_some (rdUnq s)
  have H1 : Hid (∀ w, Calls Try.prog 12 #[.string s, .int .i64 i] w fun e w' => e = .returned (.tuple #[.string S, .int .i64 E, .agg #[.int .i64 A, .int .i64 C]]) ∧ Below w.heap.size w w') := fun w => by rw [← hcu]; exact cut_any s i w
  have H2 : Hid (∀ w, Calls Try.prog 13 #[.string s, .int .i64 i] w fun e w' => e = .returned (.tuple #[.string S, .int .i64 E, .agg #[.int .i64 A, .int .i64 C]]) ∧ Below w.heap.size w w') := fun w => by rw [← hcu]; exact cutR_any s i w
  have H3 : Hid (∀ w, Calls Try.prog 14 #[.string s] w fun e w' => e = .returned (.tuple #[.string T, .agg #[.int .i64 A2, .int .i64 C2]]) ∧ Below w.heap.size w w') := fun w => by rw [← hun]; exact unquote_any s w
  have H4 : Hid (∀ w, Calls Try.prog 15 #[.string s] w fun e w' => e = .returned (.tuple #[.string T, .agg #[.int .i64 A2, .int .i64 C2]]) ∧ Below w.heap.size w w') := fun w => by rw [← hun]; exact unquoteR_any s w
  clear hcu hun
  go_enter Try.func4, Try.ntmps4
  go_wp2_with fail
  refine (H1.out _).mono ?_
  rintro e w1 ⟨rfl, hb1⟩
  have F1 := (show Hid _ from FHolds.new w1 A C)
  have B1 := (show Hid _ from hb1.alloc hb1.size (.cells #[.int .i64 A, .int .i64 C] 28))
  clear hb1 H1
  go_wp2_with fail
  refine (H2.out _).mono ?_
  rintro e w2 ⟨rfl, hb2⟩
  have F12 := (show Hid _ from (F1.out.below hb2 F1.out.lt).alloc (.cells #[.int .i64 A, .int .i64 C] 28))
  have F2 := (show Hid _ from FHolds.new w2 A C)
  have B2 := (show Hid _ from (B1.out.trans (hb2.mono B1.out.size)).alloc (B1.out.trans (hb2.mono B1.out.size)).size (.cells #[.int .i64 A, .int .i64 C] 28))
  clear hb2 H2 F1 B1
  go_wp2_with fail
  refine (H3.out _).mono ?_
  rintro e w3 ⟨rfl, hb3⟩
  have F13 := (show Hid _ from (F12.out.below hb3 F12.out.lt).alloc (.cells #[.int .i64 A2, .int .i64 C2] 28))
  have F23 := (show Hid _ from (F2.out.below hb3 F2.out.lt).alloc (.cells #[.int .i64 A2, .int .i64 C2] 28))
  have F3 := (show Hid _ from FHolds.new w3 A2 C2)
  have B3 := (show Hid _ from (B2.out.trans (hb3.mono B2.out.size)).alloc (B2.out.trans (hb3.mono B2.out.size)).size (.cells #[.int .i64 A2, .int .i64 C2] 28))
  clear hb3 H3 F12 F2 B2
  go_wp2_with fail
  refine (H4.out _).mono ?_
  rintro e w4 ⟨rfl, hb4⟩
  have HA := (show Hid (At4 w w1.heap.size w2.heap.size w3.heap.size w4.heap.size A C A2 C2 (w4.alloc (.cells #[.int .i64 A2, .int .i64 C2] 28))) from
    ⟨(F13.out.below hb4 F13.out.lt).alloc _, (F23.out.below hb4 F23.out.lt).alloc _, (F3.out.below hb4 F3.out.lt).alloc _, FHolds.new w4 A2 C2, (B3.out.trans (hb4.mono B3.out.size)).alloc (B3.out.trans (hb4.mono B3.out.size)).size _⟩)
  clear hb4 H4 F13 F23 F3 B3
  go_wp2_with fail
  refine (lives_any _).mono ?_
  rintro e w5 ⟨rfl, hb5⟩
  have HA2 := (show Hid _ from HA.out.below hb5)
  clear hb5 HA
  obtain ⟨_, a0, a1, _, _⟩ := HA2.out.x1
  obtain ⟨_, b0, b1, _, _⟩ := HA2.out.x2
  obtain ⟨_, c0, c1, _, _⟩ := HA2.out.x3
  obtain ⟨_, d0, d1, _, _⟩ := HA2.out.x4
  go_wp2_with fail
  go_ret
  exact ⟨rfl, HA2.out.h⟩
end Go.Proofs.Ytafnjidackofpaa
