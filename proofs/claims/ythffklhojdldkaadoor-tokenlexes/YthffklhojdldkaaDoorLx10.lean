/- DERIVED. Plain mathematics and walks, laid together (10). -/
import Derived.Test.YthffklhojdldkaaDoorLx09
namespace Go.Proofs.YthffklhojdldkaaDoor
open Go.RowKit
def rdEnd : Rd (BitVec 256 × Nat) → Rd (BitVec 256 × Nat)
  | .inr (a, c) => .inr (a, c)
  | .inl (x, e) => .inl (x, e + 1)
def rdTurn : Rd (BitVec 256 × Nat) → Rd (BitVec 256 × Nat)
  | .inr (a, c) => .inr (a, c)
  | .inl (x, e) => .inl (~~~ x, e + 1)
def rdRead (s : ByteArray) (i : Int) : Rd (BitVec 256 × Nat) :=
  if i < 0 ∨ (s.size : Int) < i then .inr (0, 1) else
  if chr s i.toNat = 91 then
    if chr s (i.toNat + 1) = 94 then rdTurn (rdMembers s (s.size + 1) 0#256 (i.toNat + 2)) else rdEnd (rdMembers s (s.size + 1) 0#256 (i.toNat + 1))
  else .inr (i.toNat, 6)

set_option maxRecDepth 100000 in
set_option maxHeartbeats 2000000 in
theorem read_out (s : ByteArray) (i : Int) (h : i < 0 ∨ (s.size : Int) < i) (w : World) :
    Calls Tryd.prog 50 #[.string s, .int .i64 i] w fun e w' => e = .returned (mbV (rdRead s i)) ∧ Below w.heap.size w w' := by
  have HF := (show Hid (rdRead s i = .inr (0, 1)) from (by show rdRead s i = _; unfold rdRead; rw [if_pos h]))
  rcases h with h | h
  · go_enter Tryd.func50, Tryd.ntmps50
    go_wp2
    rw [HF.out]
    refine bodyPost_ret (v := mbV (.inr (0, 1))) (by simp [results, Tryd.results50, go_sem, mbV, wd_zero, *]) rfl ⟨rfl, ?_⟩
    exact ((Below.refl _ _).alloc (Nat.le_refl _) _).alloc (by simp) _
  · have h0 : ¬ i < 0 := by omega
    go_enter Tryd.func50, Tryd.ntmps50
    go_wp2
    rw [HF.out]
    refine bodyPost_ret (v := mbV (.inr (0, 1))) (by simp [results, Tryd.results50, go_sem, mbV, wd_zero, *]) rfl ⟨rfl, ?_⟩
    exact ((Below.refl _ _).alloc (Nat.le_refl _) _).alloc (by simp) _

set_option maxRecDepth 100000 in
set_option maxHeartbeats 2000000 in
theorem read_none (s : ByteArray) (i : Nat) (hi : i ≤ s.size) (_hs : s.size ≤ 140737488355328) (h : (chr s i == 91) = false) (w : World) :
    Calls Tryd.prog 50 #[.string s, .int .i64 i] w fun e w' => e = .returned (mbV (rdRead s i)) ∧ Below w.heap.size w w' := by
  have HF := (show Hid (rdRead s i = .inr (i, 6)) from (by show rdRead s i = _; unfold rdRead; rw [if_neg (by omega), if_neg (by exact beq_eq_false_iff_ne.1 h)]; rfl))
  go_enter Tryd.func50, Tryd.ntmps50
  go_wp2_with fail
  refine (standsAt_any s i 91 (by omega) _).mono ?_
  rintro e w1 ⟨rfl, rfl⟩
  rw [h]
  clear h
  go_wp2_with fail
  rw [HF.out]
  refine bodyPost_ret (v := mbV (.inr (i, 6))) (by simp [results, Tryd.results50, go_sem, mbV, wd_zero, *]) rfl ⟨rfl, ?_⟩
  exact ((Below.refl _ _).alloc (Nat.le_refl _) _).alloc (by simp) _

structure AtR (w wr : World) : Prop where
  h1 : Holds wr w.heap.size 0#256
  h2 : FHolds wr (w.heap.size + 1) 0 0
  hb : Below w.heap.size w wr
theorem AtR.below {B : Nat} {w wr w1 : World} (h : AtR w wr) (hb : Below B wr w1) (hB : w.heap.size + 1 < B) : AtR w w1 :=
  ⟨h.h1.below hb (by omega), h.h2.below hb hB, h.hb.trans (hb.mono (by omega))⟩
theorem AtR.start (w : World) : AtR w ((w.alloc z4).alloc fz) := ⟨(boxes2 w).1, (boxes2 w).2.1, (boxes2 w).2.2⟩

set_option maxRecDepth 100000 in
set_option maxHeartbeats 2000000 in
theorem read_plain_err (s : ByteArray) (i : Nat) (hi : i + 1 ≤ s.size) (hs : s.size ≤ 140737488355328) (h : (chr s i == 91) = true) (h2 : (chr s (i + 1) == 94) = false) (a : Nat) (c : Int) (hm : rdMembers s (s.size + 1) 0#256 (i + 1) = .inr (a, c)) (w : World) :
    Calls Tryd.prog 50 #[.string s, .int .i64 i] w fun e w' => e = .returned (mbV (rdRead s i)) ∧ Below w.heap.size w w' := by
  have HF := (show Hid (rdRead s i = .inr (a, c)) from (by
    show rdRead s i = _; unfold rdRead
    rw [if_neg (by omega), Int.toNat_natCast, if_pos (beq_iff_eq.1 h), if_neg (beq_eq_false_iff_ne.1 h2), hm]; rfl))
  have HM := (show Hid _ from hm)
  have HA := (show Hid _ from AtR.start w)
  have hcn := rdMembers_code hm
  clear hm
  go_enter Tryd.func50, Tryd.ntmps50
  go_wp2_with fail
  refine (standsAt_any s i 91 (by omega) _).mono ?_
  rintro e w1 ⟨rfl, rfl⟩
  rw [h]
  clear h
  go_wp2_with fail
  rw [show (i : Int) + 1 = ((i + 1 : Nat) : Int) from by omega]
  refine (standsAt_any s (i + 1) 94 (by omega) _).mono ?_
  rintro e w1 ⟨rfl, rfl⟩
  rw [h2]
  clear h2
  go_wp2_with fail
  refine (readMembers_any s (i + 1) hi hs _).mono ?_
  rintro e w1 ⟨rfl, hb1⟩
  rw [HM.out]
  dsimp only [mbV]
  have HA1 := (show Hid _ from HA.out.below hb1 HA.out.h2.lt)
  clear hb1 HA HM
  have hl : w.heap.size + 1 < w1.heap.size := HA1.out.h2.lt
  have HA2 := (show Hid (AtR w ((w1.alloc (c4 0#256)).alloc (.cells #[.int .i64 (a : Int), .int .i64 c] 26))) from HA1.out.below (B := w1.heap.size) (((Below.refl _ _).alloc (Nat.le_refl _) _).alloc (by simp) _) hl)
  clear HA1
  obtain ⟨_, c0, c1, c2, c3, f0, f1, f2, f3⟩ := HA2.out.h1
  obtain ⟨_, d0, d1, g0, g1⟩ := HA2.out.h2
  go_wp2_with fail
  go_region
  all_goals
    go_wp2
    rw [HF.out]
    have HB2 := HA2.out.hb
    simp only [c4, wd_zero] at c0 c1 c2 c3 f0 f1 f2 f3 d0 d1 g0 g1 HB2 ⊢
    refine bodyPost_ret (v := mbV (.inr (a, c))) (by simp [results, Tryd.results50, go_sem, mbV, wd_zero, *]) rfl ⟨rfl, ?_⟩
    first | exact (put6_below HB2 (Nat.le_refl _) (by omega)).drew | exact put6_below HB2 (Nat.le_refl _) (by omega)

set_option maxRecDepth 100000 in
set_option maxHeartbeats 2000000 in
theorem read_turn_err (s : ByteArray) (i : Nat) (hi : i + 2 ≤ s.size) (hs : s.size ≤ 140737488355328) (h : (chr s i == 91) = true) (h2 : (chr s (i + 1) == 94) = true) (a : Nat) (c : Int) (hm : rdMembers s (s.size + 1) 0#256 (i + 2) = .inr (a, c)) (w : World) :
    Calls Tryd.prog 50 #[.string s, .int .i64 i] w fun e w' => e = .returned (mbV (rdRead s i)) ∧ Below w.heap.size w w' := by
  have HF := (show Hid (rdRead s i = .inr (a, c)) from (by
    show rdRead s i = _; unfold rdRead
    rw [if_neg (by omega), Int.toNat_natCast, if_pos (beq_iff_eq.1 h), if_pos (beq_iff_eq.1 h2), hm]; rfl))
  have HM := (show Hid _ from hm)
  have HA := (show Hid _ from AtR.start w)
  have hcn := rdMembers_code hm
  clear hm
  go_enter Tryd.func50, Tryd.ntmps50
  go_wp2_with fail
  refine (standsAt_any s i 91 (by omega) _).mono ?_
  rintro e w1 ⟨rfl, rfl⟩
  rw [h]
  clear h
  go_wp2_with fail
  rw [show (i : Int) + 1 = ((i + 1 : Nat) : Int) from by omega]
  refine (standsAt_any s (i + 1) 94 (by omega) _).mono ?_
  rintro e w1 ⟨rfl, rfl⟩
  rw [h2]
  clear h2
  go_wp2_with fail
  rw [show (i : Int) + 1 + 1 = ((i + 2 : Nat) : Int) from by omega]
  refine (readMembers_any s (i + 2) hi hs _).mono ?_
  rintro e w1 ⟨rfl, hb1⟩
  rw [HM.out]
  dsimp only [mbV]
  have HA1 := (show Hid _ from HA.out.below hb1 HA.out.h2.lt)
  clear hb1 HA HM
  have hl : w.heap.size + 1 < w1.heap.size := HA1.out.h2.lt
  have HA2 := (show Hid (AtR w ((w1.alloc (c4 0#256)).alloc (.cells #[.int .i64 (a : Int), .int .i64 c] 26))) from HA1.out.below (B := w1.heap.size) (((Below.refl _ _).alloc (Nat.le_refl _) _).alloc (by simp) _) hl)
  clear HA1
  obtain ⟨_, c0, c1, c2, c3, f0, f1, f2, f3⟩ := HA2.out.h1
  obtain ⟨_, d0, d1, g0, g1⟩ := HA2.out.h2
  go_wp2_with fail
  go_region
  all_goals
    go_wp2
    rw [HF.out]
    have HB2 := HA2.out.hb
    simp only [c4, wd_zero] at c0 c1 c2 c3 f0 f1 f2 f3 d0 d1 g0 g1 HB2 ⊢
    refine bodyPost_ret (v := mbV (.inr (a, c))) (by simp [results, Tryd.results50, go_sem, mbV, wd_zero, *]) rfl ⟨rfl, ?_⟩
    first | exact (put6_below HB2 (Nat.le_refl _) (by omega)).drew | exact put6_below HB2 (Nat.le_refl _) (by omega)

set_option maxRecDepth 100000 in
set_option maxHeartbeats 2000000 in
theorem read_plain_ok (s : ByteArray) (i : Nat) (hi : i + 1 ≤ s.size) (hs : s.size ≤ 140737488355328) (h : (chr s i == 91) = true) (h2 : (chr s (i + 1) == 94) = false) (x : BitVec 256) (n : Nat) (hm : rdMembers s (s.size + 1) 0#256 (i + 1) = .inl (x, n)) (w : World) :
    Calls Tryd.prog 50 #[.string s, .int .i64 i] w fun e w' => e = .returned (mbV (rdRead s i)) ∧ Below w.heap.size w w' := by
  have HF := (show Hid (rdRead s i = .inl (x, n + 1)) from (by
    show rdRead s i = _; unfold rdRead
    rw [if_neg (by omega), Int.toNat_natCast, if_pos (beq_iff_eq.1 h), if_neg (beq_eq_false_iff_ne.1 h2), hm]; rfl))
  have HM := (show Hid _ from hm)
  have HA := (show Hid _ from AtR.start w)
  obtain ⟨hn1, hn2, -⟩ := rdMembers_ok hm
  clear hm
  go_enter Tryd.func50, Tryd.ntmps50
  go_wp2_with fail
  refine (standsAt_any s i 91 (by omega) _).mono ?_
  rintro e w1 ⟨rfl, rfl⟩
  rw [h]
  clear h
  go_wp2_with fail
  rw [show (i : Int) + 1 = ((i + 1 : Nat) : Int) from by omega]
  refine (standsAt_any s (i + 1) 94 (by omega) _).mono ?_
  rintro e w1 ⟨rfl, rfl⟩
  rw [h2]
  clear h2
  go_wp2_with fail
  refine (readMembers_any s (i + 1) hi hs _).mono ?_
  rintro e w1 ⟨rfl, hb1⟩
  rw [HM.out]
  dsimp only [mbV]
  have HA1 := (show Hid _ from HA.out.below hb1 HA.out.h2.lt)
  clear hb1 HA HM
  have hl : w.heap.size + 1 < w1.heap.size := HA1.out.h2.lt
  have HA2 := (show Hid (AtR w ((w1.alloc (c4 x)).alloc fz)) from HA1.out.below (B := w1.heap.size) (((Below.refl _ _).alloc (Nat.le_refl _) _).alloc (by simp) _) hl)
  clear HA1
  obtain ⟨_, c0, c1, c2, c3, f0, f1, f2, f3⟩ := HA2.out.h1
  obtain ⟨_, d0, d1, g0, g1⟩ := HA2.out.h2
  go_wp2_with fail
  rw [HF.out]
  refine bodyPost_ret (v := mbV (.inl (x, n + 1))) (by simp [results, Tryd.results50, go_sem, mbV, wd_zero, *]) rfl ⟨rfl, ?_⟩
  exact put6_below HA2.out.hb (Nat.le_refl _) (by omega)

set_option maxRecDepth 100000 in
set_option maxHeartbeats 2000000 in
theorem read_turn_ok (s : ByteArray) (i : Nat) (hi : i + 2 ≤ s.size) (hs : s.size ≤ 140737488355328) (h : (chr s i == 91) = true) (h2 : (chr s (i + 1) == 94) = true) (x : BitVec 256) (n : Nat) (hm : rdMembers s (s.size + 1) 0#256 (i + 2) = .inl (x, n)) (w : World) :
    Calls Tryd.prog 50 #[.string s, .int .i64 i] w fun e w' => e = .returned (mbV (rdRead s i)) ∧ Below w.heap.size w w' := by
  have HF := (show Hid (rdRead s i = .inl (~~~ x, n + 1)) from (by
    show rdRead s i = _; unfold rdRead
    rw [if_neg (by omega), Int.toNat_natCast, if_pos (beq_iff_eq.1 h), if_pos (beq_iff_eq.1 h2), hm]; rfl))
  have HM := (show Hid _ from hm)
  have HA := (show Hid _ from AtR.start w)
  obtain ⟨hn1, hn2, -⟩ := rdMembers_ok hm
  clear hm
  go_enter Tryd.func50, Tryd.ntmps50
  go_wp2_with fail
  refine (standsAt_any s i 91 (by omega) _).mono ?_
  rintro e w1 ⟨rfl, rfl⟩
  rw [h]
  clear h
  go_wp2_with fail
  rw [show (i : Int) + 1 = ((i + 1 : Nat) : Int) from by omega]
  refine (standsAt_any s (i + 1) 94 (by omega) _).mono ?_
  rintro e w1 ⟨rfl, rfl⟩
  rw [h2]
  clear h2
  go_wp2_with fail
  rw [show (i : Int) + 1 + 1 = ((i + 2 : Nat) : Int) from by omega]
  refine (readMembers_any s (i + 2) hi hs _).mono ?_
  rintro e w1 ⟨rfl, hb1⟩
  rw [HM.out]
  dsimp only [mbV]
  have HA1 := (show Hid _ from HA.out.below hb1 HA.out.h2.lt)
  clear hb1 HA HM
  have hl : w.heap.size + 1 < w1.heap.size := HA1.out.h2.lt
  have HA2 := (show Hid (AtR w ((w1.alloc (c4 x)).alloc fz)) from HA1.out.below (B := w1.heap.size) (((Below.refl _ _).alloc (Nat.le_refl _) _).alloc (by simp) _) hl)
  clear HA1
  have HX := (show Hid (Holds ((w1.alloc (c4 x)).alloc fz) w1.heap.size x) from (Holds.new w1 x).alloc _)
  go_wp2_with fail
  refine (not_any x _).mono ?_
  rintro e w2 ⟨rfl, hb2⟩
  have HA3 := (show Hid _ from HA2.out.below hb2 HA2.out.h2.lt)
  have HX3 := (show Hid _ from HX.out.below hb2 HX.out.lt)
  have hl2 : w1.heap.size + 1 < w2.heap.size := by have h := hb2.size; simp at h; omega
  clear hb2 HA2 HX
  obtain ⟨_, c0, c1, c2, c3, f0, f1, f2, f3⟩ := HA3.out.h1
  obtain ⟨_, d0, d1, g0, g1⟩ := HA3.out.h2
  obtain ⟨_, e0, e1, e2, e3, k0, k1, k2, k3⟩ := HX3.out
  generalize ~~~ x = y at *
  go_wp2_with fail
  rw [HF.out]
  refine bodyPost_ret (v := mbV (.inl (y, n + 1))) (by simp [results, Tryd.results50, go_sem, mbV, wd_zero, *]) rfl ⟨rfl, ?_⟩
  exact put6_below (put4_below HA3.out.hb (by omega) y) (Nat.le_refl _) (by omega)

theorem read_any (s : ByteArray) (i : Int) (hs : s.size ≤ 140737488355328) (w : World) :
    Calls Tryd.prog 50 #[.string s, .int .i64 i] w fun e w' => e = .returned (mbV (rdRead s i)) ∧ Below w.heap.size w w' := by
  by_cases h : i < 0 ∨ (s.size : Int) < i
  · exact read_out s i h w
  · obtain ⟨n, rfl⟩ : ∃ n : Nat, i = n := ⟨i.toNat, by omega⟩
    have hn : n ≤ s.size := by omega
    cases h1 : (chr s n == 91)
    · exact read_none s n hn hs h1 w
    · have hlt : n < s.size := chr_lt (by rw [beq_iff_eq.1 h1]; omega)
      cases h2 : (chr s (n + 1) == 94)
      · cases hm : rdMembers s (s.size + 1) 0#256 (n + 1) with
        | inr pq =>
          obtain ⟨a, c⟩ := pq
          exact read_plain_err s n hlt hs h1 h2 a c hm w
        | inl p => obtain ⟨x, e⟩ := p; exact read_plain_ok s n hlt hs h1 h2 x e hm w
      · have hlt2 : n + 1 < s.size := chr_lt (by rw [beq_iff_eq.1 h2]; omega)
        cases hm : rdMembers s (s.size + 1) 0#256 (n + 2) with
        | inr pq =>
          obtain ⟨a, c⟩ := pq
          exact read_turn_err s n hlt2 hs h1 h2 a c hm w
        | inl p => obtain ⟨x, e⟩ := p; exact read_turn_ok s n hlt2 hs h1 h2 x e hm w
theorem rdRead_ok {s : ByteArray} {i : Int} {x : BitVec 256} {n : Nat} (h : rdRead s i = .inl (x, n)) : n ≤ s.size := by
  unfold rdRead at h
  split at h
  · simp at h
  · split at h
    · split at h
      · cases hm : rdMembers s (s.size + 1) 0#256 (i.toNat + 2) with
        | inr pq =>
          obtain ⟨a', c'⟩ := pq
          rw [hm] at h; simp [rdTurn] at h
        | inl p => obtain ⟨y, m⟩ := p; have b := rdMembers_ok hm; rw [hm] at h; simp only [rdTurn, Sum.inl.injEq, Prod.mk.injEq] at h; omega
      · cases hm : rdMembers s (s.size + 1) 0#256 (i.toNat + 1) with
        | inr pq =>
          obtain ⟨a', c'⟩ := pq
          rw [hm] at h; simp [rdEnd] at h
        | inl p => obtain ⟨y, m⟩ := p; have b := rdMembers_ok hm; rw [hm] at h; simp only [rdEnd, Sum.inl.injEq, Prod.mk.injEq] at h; omega
    · simp at h
end Go.Proofs.YthffklhojdldkaaDoor

namespace Go.Proofs.YthffklhojdldkaaDoor
open Go.RowKit
/-- Is lo to hi a span of bytes? -/
def spanB (lo hi : Int) : Bool := decide (0 ≤ lo) && (decide (lo ≤ hi) && decide (hi ≤ 255))
theorem put4_below' {B : Nat} {w w' : World} {b : Nat} (h : Below B w w') (hb : B ≤ b) (y : BitVec 256) : Below B w (put4 w' b y) :=
  (((h.setCell hb _).setCell hb _).setCell hb _).setCell hb _
/-- What Range answers. -/
def rng (lo hi : Int) : BitVec 256 × Int := if spanB lo hi then (spn lo hi, 0) else (0#256, 1)
end Go.Proofs.YthffklhojdldkaaDoor

namespace Go.Proofs.YthffklhojdldkaaDoor
open Go.RowKit
/-- The cells of a slice of spans. -/
def Cells (w : World) (g off : Nat) (l : List (Int × Int)) : Prop :=
  ∀ i (h : i < l.length), w.cell? ⟨g, off + i * 2, none⟩ = some (.int .i64 (l[i]).1) ∧ w.cell? ⟨g, off + i * 2 + 1, none⟩ = some (.int .i64 (l[i]).2)
theorem Cells.below {B : Nat} {w w' : World} {g off : Nat} {l : List (Int × Int)} (h : Cells w g off l) (hb : Below B w w') (hg : g < B) : Cells w' g off l :=
  fun i hi => ⟨(hb.cell (p := ⟨g, off + i * 2, none⟩) hg).trans (h i hi).1, (hb.cell (p := ⟨g, off + i * 2 + 1, none⟩) hg).trans (h i hi).2⟩
/-- What holds while spans are read. -/
structure AtF (w wr : World) (x : BitVec 256) : Prop where
  h1 : Holds wr w.heap.size 0#256
  h2 : Holds wr (w.heap.size + 1) x
  hb : Below w.heap.size w wr
theorem AtF.below {B : Nat} {w wr w1 : World} {x : BitVec 256} (h : AtF w wr x) (hb : Below B wr w1) (hB : w.heap.size + 1 < B) : AtF w w1 x :=
  ⟨h.h1.below hb (by omega), h.h2.below hb hB, h.hb.trans (hb.mono (by omega))⟩
theorem AtF.start (w : World) : AtF w ((w.alloc z4).alloc z4) 0#256 :=
  ⟨(Holds.zero w).alloc _, Holds.zero' w _, ((Below.refl _ _).alloc (Nat.le_refl _) _).alloc (by simp) _⟩
theorem AtF.put {w wr : World} {x : BitVec 256} (h : AtF w wr x) (y : BitVec 256) : AtF w (put4 wr (w.heap.size + 1) y) y :=
  ⟨h.h1.put_other (by omega) y, h.h2.put y, put4_below' h.hb (by omega) y⟩
end Go.Proofs.YthffklhojdldkaaDoor

namespace Go.Proofs.YthffklhojdldkaaDoor
open Go.RowKit
theorem AtF.drew {w wr : World} {x : BitVec 256} (h : AtF w wr x) : AtF w wr.drew x := h.below (Below.refl wr.heap.size wr).drew h.h2.lt

/-- The same, and one span that is read. -/
structure AtG (w wr : World) (x : BitVec 256) (g o : Nat) (lo hi : Int) : Prop where
  h : AtF w wr x
  e0 : wr.cell? ⟨g, o, none⟩ = some (.int .i64 lo)
  e1 : wr.cell? ⟨g, o + 1, none⟩ = some (.int .i64 hi)
  lt : g < wr.heap.size
theorem AtG.below {w wr w1 : World} {x : BitVec 256} {g o : Nat} {lo hi : Int} (h : AtG w wr x g o lo hi) (hb : Below wr.heap.size wr w1) : AtG w w1 x g o lo hi :=
  ⟨h.h.below hb h.h.h2.lt, (hb.cell (p := ⟨g, o, none⟩) h.lt).trans h.e0, (hb.cell (p := ⟨g, o + 1, none⟩) h.lt).trans h.e1, Nat.lt_of_lt_of_le h.lt hb.size⟩
theorem AtG.drew {w wr : World} {x : BitVec 256} {g o : Nat} {lo hi : Int} (h : AtG w wr x g o lo hi) : AtG w wr.drew x g o lo hi := h.below (Below.refl wr.heap.size wr).drew
end Go.Proofs.YthffklhojdldkaaDoor

namespace Go.Proofs.YthffklhojdldkaaDoor
open Go.RowKit
theorem idx_str (s : ByteArray) (i : Nat) (h : i < s.size) (w : World) : (Instr.index 9 (.string s) (.int .i64 (i : Int))).run Tryd.prog w = .ok (.int .u8 (s[i].toNat : Int)) w := by
  have h0 : (0 : Int) ≤ (i : Int) := by omega
  have h1 : (i : Int) < (s.size : Int) := by omega
  rw [run_index_string _ _ _ _ _ Tryd.underlying9]
  simp [h0, h1]
/-- What the document's reading of one item answers. -/
def irV (i : Nat) : Option (Nat × Nat) → Value
  | none => .tuple #[.int .i64 (-1), .int .i64 i]
  | some (b, n) => .tuple #[.int .i64 b, .int .i64 n]
theorem ret_ir {b n i : Nat} {b' n' : Int} (hb : b' = b) (hn : n' = n) : Ending.returned (.tuple #[.int .i64 b', .int .i64 n']) = .returned (irV i (some (b, n))) := by rw [hb, hn]; rfl
end Go.Proofs.YthffklhojdldkaaDoor

namespace Go.Proofs.YthffklhojdldkaaDoor
open Go.RowKit
theorem cls_ten (n : Nat) (h : ¬ (cls n).2 = 0) : (cls n).2 = 10 := by
  by_cases hc : 65 ≤ n ∧ n ≤ 90
  · rcases sml_err (n + 32) with he | he
    · rw [cls_yes n hc he] at h; exact absurd rfl h
    · rw [cls_no n hc he]
  · rw [cls_small n hc] at h ⊢
    rcases sml_err n with he | he
    · exact absurd he h
    · exact he
/-- What the document's reading answers. -/
def rrV : Rd (BitVec 256 × Nat) → Value
  | .inl (x, n) => .tuple #[sv x, .int .i64 n, .int .i64 0, .int .i64 0]
  | .inr (a, c) => .tuple #[sv 0#256, .int .i64 0, .int .i64 a, .int .i64 c]
/-- readItem, as it is called. -/
def ItemR : Prop := ∀ (s : ByteArray) (i : Nat), i ≤ s.size → s.size ≤ 140737488355328 → ∀ w : World, Calls Tryd.prog 59 #[.string s, .int .i64 i] w fun e w' => e = .returned (irV i (rdItem s i)) ∧ Below w.heap.size w w'

set_option maxRecDepth 100000 in
set_option maxHeartbeats 2000000 in
theorem readR_out (s : ByteArray) (i : Int) (h : i < 0 ∨ (s.size : Int) < i) (w : World) :
    Calls Tryd.prog 37 #[.string s, .int .i64 i] w fun e w' => e = .returned (rrV (rdRead s i)) ∧ Below w.heap.size w w' := by
  have HF := (show Hid (rdRead s i = .inr (0, 1)) from (by show rdRead s i = _; unfold rdRead; rw [if_pos h]))
  rcases h with h | h
  · go_enter Tryd.func37, Tryd.ntmps37
    go_wp2
    rw [HF.out]
    refine bodyPost_ret (v := rrV (.inr (0, 1))) (by simp [results, Tryd.results37, go_sem, rrV, wd_zero, *]) rfl ⟨rfl, ?_⟩
    exact below1 _ _
  · have h0 : ¬ i < 0 := by omega
    go_enter Tryd.func37, Tryd.ntmps37
    go_wp2
    rw [HF.out]
    refine bodyPost_ret (v := rrV (.inr (0, 1))) (by simp [results, Tryd.results37, go_sem, rrV, wd_zero, *]) rfl ⟨rfl, ?_⟩
    exact below1 _ _

set_option maxRecDepth 100000 in
set_option maxHeartbeats 2000000 in
theorem readR_none (s : ByteArray) (i : Nat) (hi : i ≤ s.size) (h : (chr s i != 91) = true) (w : World) :
    Calls Tryd.prog 37 #[.string s, .int .i64 i] w fun e w' => e = .returned (rrV (rdRead s i)) ∧ Below w.heap.size w w' := by
  have HF := (show Hid (rdRead s i = .inr (i, 6)) from (by show rdRead s i = _; unfold rdRead; rw [if_neg (by omega), if_neg (by exact bne_iff_ne.1 h)]; rfl))
  have HX : Hid (∀ w, Calls Tryd.prog 29 #[.string s, .int .i64 i] w fun e w' => e = .returned (.int .i64 (chr s i)) ∧ w' = w) := fun w => at_any s i w
  generalize chr s i = c at *
  go_enter Tryd.func37, Tryd.ntmps37
  go_wp2_with fail
  refine (HX.out _).mono ?_
  rintro e w1 ⟨rfl, rfl⟩
  go_wp2_with fail
  rw [HF.out]
  refine bodyPost_ret (v := rrV (.inr (i, 6))) (by simp [results, Tryd.results37, go_sem, rrV, wd_zero, *]) rfl ⟨rfl, ?_⟩
  exact below1 _ _
end Go.Proofs.YthffklhojdldkaaDoor

namespace Go.Proofs.YthffklhojdldkaaDoor
open Go.RowKit
set_option maxRecDepth 100000 in
set_option maxHeartbeats 16000000 in
theorem readR_plain (HI : ItemR) (s : ByteArray) (n : Nat) (hn : n < s.size) (hs : s.size ≤ 140737488355328) (h1 : chr s n = 91) (h2 : (chr s (n + 1) == 94) = false) (w : World) :
    Calls Tryd.prog 37 #[.string s, .int .i64 n] w fun e w' => e = .returned (rrV (rdEnd (rdMembers s (s.size + 1) 0#256 (n + 1)))) ∧ Below w.heap.size w w' := by
  have HIT := (show Hid _ from HI)
  clear HI
  have HX : Hid (∀ w, Calls Tryd.prog 29 #[.string s, .int .i64 n] w fun e w' => e = .returned (.int .i64 91) ∧ w' = w) := fun w => by have h := at_any s n w; rw [h1] at h; exact h
  have HY : Hid (∀ w, Calls Tryd.prog 29 #[.string s, .int .i64 ((n : Int) + 1)] w fun e w' => e = .returned (.int .i64 (chr s (n + 1))) ∧ w' = w) := fun w => at_any s (n + 1) w
  have HA := (show Hid _ from AtF.start w)
  generalize hR : rdMembers s (s.size + 1) 0#256 (n + 1) = R
  have HR := (show Hid _ from hR)
  generalize chr s (n + 1) = d at *
  clear hR h1
  go_enter Tryd.func37, Tryd.ntmps37
  go_wp2_with fail
  refine (HX.out _).mono ?_
  rintro e w1 ⟨rfl, rfl⟩
  go_wp2_with fail
  refine (HY.out _).mono ?_
  rintro e w1 ⟨rfl, rfl⟩
  go_wp2_with fail
  go_loopw [8] (fun t wr => ∃ k : Nat, ∃ f : Nat, ∃ x : BitVec 256, k ≤ s.size ∧ t = .int .i64 k ∧ Hid (s.size + 1 ≤ f + k) ∧ Hid (rdMembers s f x k = R) ∧ Hid (AtF w wr x)) (fun t _ => s.size - (intOf t).toNat)
  case atStart => exact ⟨n + 1, s.size + 1, 0#256, by omega, by go_num, show _ ≤ _ by omega, HR, HA⟩
  case round =>
    obtain ⟨k, f, x, hk, rfl, hf, hr, ha⟩ := hrel
    obtain ⟨g, rfl⟩ : ∃ g, f = g + 1 := ⟨f - 1, by have h := hf.out; omega⟩
    clear HA HR HX HY h2
    have HC : Hid (∀ w, Calls Tryd.prog 29 #[.string s, .int .i64 k] w fun e w' => e = .returned (.int .i64 (chr s k)) ∧ w' = w) := fun w => at_any s k w
    by_cases h93 : chr s k = 93
    · have hr' := (show Hid (R = .inl (x, k)) from (hr.out.symm.trans (rdMembers_end h93)))
      rw [h93] at HC
      clear hr hf h93 HIT
      have hl : w.heap.size + 1 < wr.heap.size := ha.out.h2.lt
      obtain ⟨_, c0, c1, c2, c3, f0, f1, f2, f3⟩ := ha.out.h1
      obtain ⟨_, d0, d1, d2, d3, g0, g1, g2, g3⟩ := ha.out.h2
      go_wp2_with fail
      refine (HC.out _).mono ?_
      rintro e w1 ⟨rfl, rfl⟩
      go_wp2_with fail
      rw [hr'.out]
      refine bodyPost_ret (v := rrV (.inl (x, k + 1))) (by simp [results, Tryd.results37, go_sem, rrV, wd_zero, *]) rfl ⟨rfl, ?_⟩
      exact put4_below' ha.out.hb (Nat.le_refl _) x
    have e93 : (chr s k != 93) = true := bne_iff_ne.2 h93
    by_cases h37 : chr s k = 37
    · have HM := (show Hid (rdMember s k = rdClass s k) from (by show rdMember s k = _; unfold rdMember; rw [if_pos h37]))
      have HD : Hid (∀ w, Calls Tryd.prog 29 #[.string s, .int .i64 ((k : Int) + 1)] w fun e w' => e = .returned (.int .i64 (chr s (k + 1))) ∧ w' = w) := fun w => at_any s (k + 1) w
      have hlt : k < s.size := chr_lt (by rw [h37]; omega)
      by_cases hcl : k + 1 < s.size ∧ (cls (chr s (k + 1)).toNat).2 = 0
      · have hm : rdMember s k = .inl ((cls (chr s (k + 1)).toNat).1, k + 2) := by rw [HM.out]; unfold rdClass; rw [if_pos hcl]
        have hr' := (show Hid (rdMembers s g (x ||| (cls (chr s (k + 1)).toNat).1) (k + 2) = R) from ((rdMembers_step h93 hm).symm.trans hr.out))
        have hf' := (show Hid (s.size + 1 ≤ g + (k + 2)) from (by have h := hf.out; show _ ≤ _; omega))
        have hb := chr_le s (k + 1)
        have h0 : 0 ≤ chr s (k + 1) := by rw [chr_in hcl.1]; omega
        have HK : Hid (∀ w, Calls Tryd.prog 57 #[.int .i64 (chr s (k + 1))] w fun e w' => e = .returned (.tuple #[sv (cls (chr s (k + 1)).toNat).1, .int .i64 0]) ∧ Below w.heap.size w w') := fun w => by
          have h := classR_any (chr s (k + 1)).toNat (by omega) w
          rw [hcl.2, show (((chr s (k + 1)).toNat : Nat) : Int) = chr s (k + 1) from by omega] at h
          exact h
        have hk2 : k + 2 ≤ s.size := by omega
        rw [h37] at HC e93
        clear hr hf h93 HIT hcl hm HM h37 hb h0
        generalize (cls (chr s (k + 1)).toNat).1 = y at *
        generalize chr s (k + 1) = q at *
        go_wp2_with fail
        refine (HC.out _).mono ?_
        rintro e w1 ⟨rfl, rfl⟩
        go_wp2_with fail
        refine (HC.out _).mono ?_
        rintro e w1 ⟨rfl, rfl⟩
        go_wp2_with fail
        refine (HD.out _).mono ?_
        rintro e w1 ⟨rfl, rfl⟩
        go_wp2_with fail
        refine (HK.out _).mono ?_
        rintro e w2 ⟨rfl, hb2⟩
        have HA1 := (show Hid _ from ha.out.below hb2 ha.out.h2.lt)
        have hl : w.heap.size + 1 < w2.heap.size := HA1.out.h2.lt
        have HA2 := (show Hid (AtF w (w2.alloc (c4 y)) x) from HA1.out.below (B := w2.heap.size) (below1 _ _) hl)
        clear hb2 ha HA1
        obtain ⟨_, c0, c1, c2, c3, f0, f1, f2, f3⟩ := HA2.out.h2
        go_wp2_with fail
        refine (unionR_any x y _).mono ?_
        rintro e w3 ⟨rfl, hb3⟩
        have HA3 := (show Hid _ from HA2.out.below hb3 HA2.out.h2.lt)
        clear hb3 HA2 c0 c1 c2 c3 f0 f1 f2 f3
        obtain ⟨_, c0, c1, c2, c3, f0, f1, f2, f3⟩ := HA3.out.h2
        go_wp2_with fail
        go_roundw
        case rel => exact ⟨k + 2, g, x ||| y, hk2, by go_num, hf', hr', HA3.out.put (x ||| y)⟩
        case measure => simp [intOf]; omega
      · have hm : rdMember s k = .inr (k, 10) := by rw [HM.out]; unfold rdClass; rw [if_neg hcl]
        have hr' := (show Hid (R = .inr (k, 10)) from (hr.out.symm.trans (rdMembers_err h93 hm)))
        have HK : Hid (∀ w, Calls Tryd.prog 57 #[.int .i64 (chr s (k + 1))] w fun e w' => (∃ y, e = .returned (.tuple #[sv y, .int .i64 10])) ∧ Below w.heap.size w w') := fun w => by
          by_cases hlt1 : k + 1 < s.size
          · have h0 : 0 ≤ chr s (k + 1) := by rw [chr_in hlt1]; omega
            have hb := chr_le s (k + 1)
            have h := classR_any (chr s (k + 1)).toNat (by omega) w
            rw [show (((chr s (k + 1)).toNat : Nat) : Int) = chr s (k + 1) from by omega, cls_ten _ (fun q => hcl ⟨hlt1, q⟩)] at h
            refine h.mono ?_
            rintro e w' ⟨rfl, hb⟩
            exact ⟨⟨_, rfl⟩, hb⟩
          · refine (smallM_any (chr s (k + 1)) w (by rw [chr_out hlt1]; omega)).mono ?_
            rintro e w' ⟨rfl, hb⟩
            exact ⟨⟨_, rfl⟩, hb⟩
        rw [h37] at HC e93
        clear hr hf h93 HIT hcl hm HM h37
        generalize chr s (k + 1) = q at *
        go_wp2_with fail
        refine (HC.out _).mono ?_
        rintro e w1 ⟨rfl, rfl⟩
        go_wp2_with fail
        refine (HC.out _).mono ?_
        rintro e w1 ⟨rfl, rfl⟩
        go_wp2_with fail
        refine (HD.out _).mono ?_
        rintro e w1 ⟨rfl, rfl⟩
        go_wp2_with fail
        refine (HK.out _).mono ?_
        rintro e w2 ⟨⟨y, rfl⟩, hb2⟩
        have HA1 := (show Hid _ from ha.out.below hb2 ha.out.h2.lt)
        have hl : w.heap.size + 1 < w2.heap.size := HA1.out.h2.lt
        have HA2 := (show Hid (AtF w (w2.alloc (c4 y)) x) from HA1.out.below (B := w2.heap.size) (below1 _ _) hl)
        clear hb2 ha HA1
        obtain ⟨_, c0, c1, c2, c3, f0, f1, f2, f3⟩ := HA2.out.h1
        go_wp2_with fail
        rw [hr'.out]
        refine bodyPost_ret (v := rrV (.inr ((k), 10))) (by simp [results, Tryd.results37, go_sem, rrV, wd_zero, *]) rfl ⟨rfl, ?_⟩
        exact (((HA2.out.hb.setCell (Nat.le_refl _) _).setCell (Nat.le_refl _) _).setCell (Nat.le_refl _) _).setCell (Nat.le_refl _) _
    have e37 : (chr s k == 37) = false := beq_eq_false_iff_ne.2 h37
    cases hit : rdItem s k with
    | none =>
      have hm : rdMember s k = .inr (k, 6) := by unfold rdMember; rw [if_neg h37, hit]
      have hr' := (show Hid (R = .inr (k, 6)) from (hr.out.symm.trans (rdMembers_err h93 hm)))
      have HK : Hid (∀ w, Calls Tryd.prog 59 #[.string s, .int .i64 k] w fun e w' => e = .returned (.tuple #[.int .i64 (-1), .int .i64 k]) ∧ Below w.heap.size w w') := fun w => by have h := HIT.out s k hk hs w; rw [hit] at h; exact h
      clear hr hf h93 h37 HIT hm hit
      generalize chr s k = c at *
      go_wp2_with fail
      refine (HC.out _).mono ?_
      rintro e w1 ⟨rfl, rfl⟩
      go_wp2_with fail
      refine (HC.out _).mono ?_
      rintro e w1 ⟨rfl, rfl⟩
      go_wp2_with fail
      refine (HK.out _).mono ?_
      rintro e w2 ⟨rfl, hb2⟩
      have HA1 := (show Hid _ from ha.out.below hb2 ha.out.h2.lt)
      have hl : w.heap.size + 1 < w2.heap.size := HA1.out.h2.lt
      clear hb2 ha
      obtain ⟨_, c0, c1, c2, c3, f0, f1, f2, f3⟩ := HA1.out.h1
      go_wp2_with fail
      rw [hr'.out]
      refine bodyPost_ret (v := rrV (.inr ((k), 6))) (by simp [results, Tryd.results37, go_sem, rrV, wd_zero, *]) rfl ⟨rfl, ?_⟩
      exact (((HA1.out.hb.setCell (Nat.le_refl _) _).setCell (Nat.le_refl _) _).setCell (Nat.le_refl _) _).setCell (Nat.le_refl _) _
    | some p =>
      obtain ⟨lo, nx⟩ := p
      obtain ⟨b1, b2, b3⟩ := rdItem_bd hit
      have HK : Hid (∀ w, Calls Tryd.prog 59 #[.string s, .int .i64 k] w fun e w' => e = .returned (.tuple #[.int .i64 lo, .int .i64 nx]) ∧ Below w.heap.size w w') := fun w => by have h := HIT.out s k hk hs w; rw [hit] at h; exact h
      have HN : Hid (∀ w, Calls Tryd.prog 29 #[.string s, .int .i64 nx] w fun e w' => e = .returned (.int .i64 (chr s nx)) ∧ w' = w) := fun w => at_any s nx w
      have hlo0 : ¬ (lo : Int) < 0 := by omega
      by_cases h45 : chr s nx = 45
      · have hltn : nx < s.size := chr_lt (by rw [h45]; omega)
        rw [h45] at HN
        cases hi2 : rdItem s (nx + 1) with
        | none =>
          have hm : rdMember s k = .inr ((nx + 1), 6) := by unfold rdMember; rw [if_neg h37, hit]; exact (if_pos h45).trans (by rw [hi2])
          have hr' := (show Hid (R = .inr ((nx + 1), 6)) from (hr.out.symm.trans (rdMembers_err h93 hm)))
          have HL : Hid (∀ w, Calls Tryd.prog 59 #[.string s, .int .i64 ((nx : Int) + 1)] w fun e w' => e = .returned (.tuple #[.int .i64 (-1), .int .i64 ((nx + 1 : Nat) : Int)]) ∧ Below w.heap.size w w') := fun w => by have h := HIT.out s (nx + 1) (by omega) hs w; rw [hi2] at h; exact h
          clear hr hf h93 h37 HIT hm hit hi2 h45
          generalize chr s k = c at *
          go_wp2_with fail
          refine (HC.out _).mono ?_
          rintro e w1 ⟨rfl, rfl⟩
          go_wp2_with fail
          refine (HC.out _).mono ?_
          rintro e w1 ⟨rfl, rfl⟩
          go_wp2_with fail
          refine (HK.out _).mono ?_
          rintro e w2 ⟨rfl, hb2⟩
          have HA1 := (show Hid _ from ha.out.below hb2 ha.out.h2.lt)
          clear hb2 ha
          go_wp2_with fail
          refine (HN.out _).mono ?_
          rintro e w3 ⟨rfl, rfl⟩
          go_wp2_with fail
          refine (HL.out _).mono ?_
          rintro e w4 ⟨rfl, hb4⟩
          have HA2 := (show Hid _ from HA1.out.below hb4 HA1.out.h2.lt)
          have hl : w.heap.size + 1 < w4.heap.size := HA2.out.h2.lt
          clear hb4 HA1
          obtain ⟨_, c0, c1, c2, c3, f0, f1, f2, f3⟩ := HA2.out.h1
          go_wp2_with fail
          rw [hr'.out]
          refine bodyPost_ret (v := rrV (.inr ((nx + 1), 6))) (by simp [results, Tryd.results37, go_sem, rrV, wd_zero, *]) rfl ⟨rfl, ?_⟩
          exact (((HA2.out.hb.setCell (Nat.le_refl _) _).setCell (Nat.le_refl _) _).setCell (Nat.le_refl _) _).setCell (Nat.le_refl _) _
        | some p2 =>
          obtain ⟨up, en⟩ := p2
          obtain ⟨b4, b5, b6⟩ := rdItem_bd hi2
          have HL : Hid (∀ w, Calls Tryd.prog 59 #[.string s, .int .i64 ((nx : Int) + 1)] w fun e w' => e = .returned (.tuple #[.int .i64 up, .int .i64 en]) ∧ Below w.heap.size w w') := fun w => by have h := HIT.out s (nx + 1) (by omega) hs w; rw [hi2] at h; exact h
          have hup0 : ¬ (up : Int) < 0 := by omega
          by_cases hul : up < lo
          · have hm : rdMember s k = .inr (k, 1) := by unfold rdMember; rw [if_neg h37, hit]; exact (if_pos h45).trans (by rw [hi2]; exact if_pos hul)
            have hr' := (show Hid (R = .inr (k, 1)) from (hr.out.symm.trans (rdMembers_err h93 hm)))
            have hul' : (up : Int) < (lo : Int) := by omega
            clear hr hf h93 h37 HIT hm hit hi2 h45
            generalize chr s k = c at *
            go_wp2_with fail
            refine (HC.out _).mono ?_
            rintro e w1 ⟨rfl, rfl⟩
            go_wp2_with fail
            refine (HC.out _).mono ?_
            rintro e w1 ⟨rfl, rfl⟩
            go_wp2_with fail
            refine (HK.out _).mono ?_
            rintro e w2 ⟨rfl, hb2⟩
            have HA1 := (show Hid _ from ha.out.below hb2 ha.out.h2.lt)
            clear hb2 ha
            go_wp2_with fail
            refine (HN.out _).mono ?_
            rintro e w3 ⟨rfl, rfl⟩
            go_wp2_with fail
            refine (HL.out _).mono ?_
            rintro e w4 ⟨rfl, hb4⟩
            have HA2 := (show Hid _ from HA1.out.below hb4 HA1.out.h2.lt)
            have hl : w.heap.size + 1 < w4.heap.size := HA2.out.h2.lt
            clear hb4 HA1
            obtain ⟨_, c0, c1, c2, c3, f0, f1, f2, f3⟩ := HA2.out.h1
            go_wp2_with fail
            rw [hr'.out]
            refine bodyPost_ret (v := rrV (.inr ((k), 1))) (by simp [results, Tryd.results37, go_sem, rrV, wd_zero, *]) rfl ⟨rfl, ?_⟩
            exact (((HA2.out.hb.setCell (Nat.le_refl _) _).setCell (Nat.le_refl _) _).setCell (Nat.le_refl _) _).setCell (Nat.le_refl _) _
          · have hm : rdMember s k = .inl (spn lo up, en) := by unfold rdMember; rw [if_neg h37, hit]; exact (if_pos h45).trans (by rw [hi2]; exact if_neg hul)
            have hr' := (show Hid (rdMembers s g (x ||| spn lo up) en = R) from ((rdMembers_step h93 hm).symm.trans hr.out))
            have hf' := (show Hid (s.size + 1 ≤ g + en) from (by have h := hf.out; show _ ≤ _; omega))
            have hul' : ¬ (up : Int) < (lo : Int) := by omega
            have HFT : Hid (∀ w, Calls Tryd.prog 60 #[.int .i64 lo, .int .i64 up] w fun e w' => e = .returned (sv (spn lo up)) ∧ Below w.heap.size w w') := fun w => fromTo_any lo up w (by omega) (by omega) (by omega)
            clear hr hf h93 h37 HIT hm hit hi2 h45
            generalize spn (lo : Int) (up : Int) = y at *
            generalize chr s k = c at *
            go_wp2_with fail
            refine (HC.out _).mono ?_
            rintro e w1 ⟨rfl, rfl⟩
            go_wp2_with fail
            refine (HC.out _).mono ?_
            rintro e w1 ⟨rfl, rfl⟩
            go_wp2_with fail
            refine (HK.out _).mono ?_
            rintro e w2 ⟨rfl, hb2⟩
            have HA1 := (show Hid _ from ha.out.below hb2 ha.out.h2.lt)
            clear hb2 ha
            go_wp2_with fail
            refine (HN.out _).mono ?_
            rintro e w3 ⟨rfl, rfl⟩
            go_wp2_with fail
            refine (HL.out _).mono ?_
            rintro e w4 ⟨rfl, hb4⟩
            have HA2 := (show Hid _ from HA1.out.below hb4 HA1.out.h2.lt)
            clear hb4 HA1
            obtain ⟨l0, c0, c1, c2, c3, f0, f1, f2, f3⟩ := HA2.out.h2
            go_wp2_with fail
            go_region_with (first | (go_at_call 60; refine (HFT.out _).mono ?_; rintro e w5 ⟨rfl, hb⟩; have hA2 := (show AtF w w5 x from (by first | exact HA2.out.below hb HA2.out.h2.lt | exact HA2.out.drew.below hb HA2.out.h2.lt)); replace HA2 := (show Hid _ from hA2); clear hA2 hb c0 c1 c2 c3 f0 f1 f2 f3; obtain ⟨_, c0, c1, c2, c3, f0, f1, f2, f3⟩ := HA2.out.h2) | (go_at_call 58; refine (unionR_any x y _).mono ?_; rintro e w6 ⟨rfl, hb⟩; have hA2 := (show AtF w w6 x from (by first | exact HA2.out.below hb HA2.out.h2.lt | exact HA2.out.drew.below hb HA2.out.h2.lt)); replace HA2 := (show Hid _ from hA2); clear hA2 hb c0 c1 c2 c3 f0 f1 f2 f3; obtain ⟨_, c0, c1, c2, c3, f0, f1, f2, f3⟩ := HA2.out.h2))
            all_goals
              go_wp2
              go_roundw
              case rel => exact ⟨en, g, x ||| y, b6, by go_num, hf', hr', HA2.out.put _⟩
              case measure => simp [intOf]; omega
      · have hm : rdMember s k = .inl (spn lo lo, nx) := by unfold rdMember; rw [if_neg h37, hit]; exact if_neg h45
        have hr' := (show Hid (rdMembers s g (x ||| spn lo lo) nx = R) from ((rdMembers_step h93 hm).symm.trans hr.out))
        have hf' := (show Hid (s.size + 1 ≤ g + nx) from (by have h := hf.out; show _ ≤ _; omega))
        have e45 : (chr s nx == 45) = false := beq_eq_false_iff_ne.2 h45
        have HFT : Hid (∀ w, Calls Tryd.prog 60 #[.int .i64 lo, .int .i64 lo] w fun e w' => e = .returned (sv (spn lo lo)) ∧ Below w.heap.size w w') := fun w => fromTo_any lo lo w (by omega) (by omega) (by omega)
        clear hr hf h93 h37 HIT hm hit h45
        generalize spn (lo : Int) (lo : Int) = y at *
        generalize chr s nx = q at *
        generalize chr s k = c at *
        go_wp2_with fail
        refine (HC.out _).mono ?_
        rintro e w1 ⟨rfl, rfl⟩
        go_wp2_with fail
        refine (HC.out _).mono ?_
        rintro e w1 ⟨rfl, rfl⟩
        go_wp2_with fail
        refine (HK.out _).mono ?_
        rintro e w2 ⟨rfl, hb2⟩
        have HA2 := (show Hid _ from ha.out.below hb2 ha.out.h2.lt)
        clear hb2 ha
        go_wp2_with fail
        refine (HN.out _).mono ?_
        rintro e w3 ⟨rfl, rfl⟩
        obtain ⟨l0, c0, c1, c2, c3, f0, f1, f2, f3⟩ := HA2.out.h2
        go_wp2_with fail
        go_region_with (first | (go_at_call 60; refine (HFT.out _).mono ?_; rintro e w5 ⟨rfl, hb⟩; have hA2 := (show AtF w w5 x from (by first | exact HA2.out.below hb HA2.out.h2.lt | exact HA2.out.drew.below hb HA2.out.h2.lt)); replace HA2 := (show Hid _ from hA2); clear hA2 hb c0 c1 c2 c3 f0 f1 f2 f3; obtain ⟨_, c0, c1, c2, c3, f0, f1, f2, f3⟩ := HA2.out.h2) | (go_at_call 58; refine (unionR_any x y _).mono ?_; rintro e w6 ⟨rfl, hb⟩; have hA2 := (show AtF w w6 x from (by first | exact HA2.out.below hb HA2.out.h2.lt | exact HA2.out.drew.below hb HA2.out.h2.lt)); replace HA2 := (show Hid _ from hA2); clear hA2 hb c0 c1 c2 c3 f0 f1 f2 f3; obtain ⟨_, c0, c1, c2, c3, f0, f1, f2, f3⟩ := HA2.out.h2))
        all_goals
          go_wp2
          go_roundw
          case rel => exact ⟨nx, g, x ||| y, b3, by go_num, hf', hr', HA2.out.put _⟩
          case measure => simp [intOf]; omega
end Go.Proofs.YthffklhojdldkaaDoor

namespace Go.Proofs.YthffklhojdldkaaDoor
open Go.RowKit
set_option maxRecDepth 100000 in
set_option maxHeartbeats 16000000 in
theorem readR_turn (HI : ItemR) (s : ByteArray) (n : Nat) (hn : n + 1 < s.size) (hs : s.size ≤ 140737488355328) (h1 : chr s n = 91) (h2 : (chr s (n + 1) == 94) = true) (w : World) :
    Calls Tryd.prog 37 #[.string s, .int .i64 n] w fun e w' => e = .returned (rrV (rdTurn (rdMembers s (s.size + 1) 0#256 (n + 2)))) ∧ Below w.heap.size w w' := by
  have HIT := (show Hid _ from HI)
  clear HI
  have HX : Hid (∀ w, Calls Tryd.prog 29 #[.string s, .int .i64 n] w fun e w' => e = .returned (.int .i64 91) ∧ w' = w) := fun w => by have h := at_any s n w; rw [h1] at h; exact h
  have HY : Hid (∀ w, Calls Tryd.prog 29 #[.string s, .int .i64 ((n : Int) + 1)] w fun e w' => e = .returned (.int .i64 (chr s (n + 1))) ∧ w' = w) := fun w => at_any s (n + 1) w
  have HA := (show Hid _ from AtF.start w)
  generalize hR : rdMembers s (s.size + 1) 0#256 (n + 2) = R
  have HR := (show Hid _ from hR)
  generalize chr s (n + 1) = d at *
  clear hR h1
  go_enter Tryd.func37, Tryd.ntmps37
  go_wp2_with fail
  refine (HX.out _).mono ?_
  rintro e w1 ⟨rfl, rfl⟩
  go_wp2_with fail
  refine (HY.out _).mono ?_
  rintro e w1 ⟨rfl, rfl⟩
  go_wp2_with fail
  go_loopw [8] (fun t wr => ∃ k : Nat, ∃ f : Nat, ∃ x : BitVec 256, k ≤ s.size ∧ t = .int .i64 k ∧ Hid (s.size + 1 ≤ f + k) ∧ Hid (rdMembers s f x k = R) ∧ Hid (AtF w wr x)) (fun t _ => s.size - (intOf t).toNat)
  case atStart => exact ⟨n + 2, s.size + 1, 0#256, by omega, by go_num, show _ ≤ _ by omega, HR, HA⟩
  case round =>
    obtain ⟨k, f, x, hk, rfl, hf, hr, ha⟩ := hrel
    obtain ⟨g, rfl⟩ : ∃ g, f = g + 1 := ⟨f - 1, by have h := hf.out; omega⟩
    clear HA HR HX HY h2
    have HC : Hid (∀ w, Calls Tryd.prog 29 #[.string s, .int .i64 k] w fun e w' => e = .returned (.int .i64 (chr s k)) ∧ w' = w) := fun w => at_any s k w
    by_cases h93 : chr s k = 93
    · have hr' := (show Hid (R = .inl (x, k)) from (hr.out.symm.trans (rdMembers_end h93)))
      rw [h93] at HC
      clear hr hf h93 HIT
      have hl : w.heap.size + 1 < wr.heap.size := ha.out.h2.lt
      obtain ⟨_, c0, c1, c2, c3, f0, f1, f2, f3⟩ := ha.out.h1
      obtain ⟨_, d0, d1, d2, d3, g0, g1, g2, g3⟩ := ha.out.h2
      go_wp2_with fail
      refine (HC.out _).mono ?_
      rintro e w1 ⟨rfl, rfl⟩
      go_wp2_with fail
      refine (notR_any x _).mono ?_
      rintro e w2 ⟨rfl, hb2⟩
      have HA2 := (show Hid _ from ha.out.below hb2 ha.out.h2.lt)
      have hl2 : w.heap.size + 1 < w2.heap.size := HA2.out.h2.lt
      clear hb2 ha c0 c1 c2 c3 f0 f1 f2 f3 d0 d1 d2 d3 g0 g1 g2 g3
      obtain ⟨_, c0, c1, c2, c3, f0, f1, f2, f3⟩ := HA2.out.h1
      obtain ⟨_, d0, d1, d2, d3, g0, g1, g2, g3⟩ := HA2.out.h2
      have HRT := (show Hid (rdTurn R = .inl (~~~ x, k + 1)) from (by show rdTurn R = _; rw [hr'.out]; rfl))
      generalize ~~~ x = y at *
      go_wp2_with fail
      rw [HRT.out]
      refine bodyPost_ret (v := rrV (.inl (y, k + 1))) (by simp [results, Tryd.results37, go_sem, rrV, wd_zero, *]) rfl ⟨rfl, ?_⟩
      exact put4_below' (put4_below' HA2.out.hb (by omega) y) (Nat.le_refl _) y
    have e93 : (chr s k != 93) = true := bne_iff_ne.2 h93
    by_cases h37 : chr s k = 37
    · have HM := (show Hid (rdMember s k = rdClass s k) from (by show rdMember s k = _; unfold rdMember; rw [if_pos h37]))
      have HD : Hid (∀ w, Calls Tryd.prog 29 #[.string s, .int .i64 ((k : Int) + 1)] w fun e w' => e = .returned (.int .i64 (chr s (k + 1))) ∧ w' = w) := fun w => at_any s (k + 1) w
      have hlt : k < s.size := chr_lt (by rw [h37]; omega)
      by_cases hcl : k + 1 < s.size ∧ (cls (chr s (k + 1)).toNat).2 = 0
      · have hm : rdMember s k = .inl ((cls (chr s (k + 1)).toNat).1, k + 2) := by rw [HM.out]; unfold rdClass; rw [if_pos hcl]
        have hr' := (show Hid (rdMembers s g (x ||| (cls (chr s (k + 1)).toNat).1) (k + 2) = R) from ((rdMembers_step h93 hm).symm.trans hr.out))
        have hf' := (show Hid (s.size + 1 ≤ g + (k + 2)) from (by have h := hf.out; show _ ≤ _; omega))
        have hb := chr_le s (k + 1)
        have h0 : 0 ≤ chr s (k + 1) := by rw [chr_in hcl.1]; omega
        have HK : Hid (∀ w, Calls Tryd.prog 57 #[.int .i64 (chr s (k + 1))] w fun e w' => e = .returned (.tuple #[sv (cls (chr s (k + 1)).toNat).1, .int .i64 0]) ∧ Below w.heap.size w w') := fun w => by
          have h := classR_any (chr s (k + 1)).toNat (by omega) w
          rw [hcl.2, show (((chr s (k + 1)).toNat : Nat) : Int) = chr s (k + 1) from by omega] at h
          exact h
        have hk2 : k + 2 ≤ s.size := by omega
        rw [h37] at HC e93
        clear hr hf h93 HIT hcl hm HM h37 hb h0
        generalize (cls (chr s (k + 1)).toNat).1 = y at *
        generalize chr s (k + 1) = q at *
        go_wp2_with fail
        refine (HC.out _).mono ?_
        rintro e w1 ⟨rfl, rfl⟩
        go_wp2_with fail
        refine (HC.out _).mono ?_
        rintro e w1 ⟨rfl, rfl⟩
        go_wp2_with fail
        refine (HD.out _).mono ?_
        rintro e w1 ⟨rfl, rfl⟩
        go_wp2_with fail
        refine (HK.out _).mono ?_
        rintro e w2 ⟨rfl, hb2⟩
        have HA1 := (show Hid _ from ha.out.below hb2 ha.out.h2.lt)
        have hl : w.heap.size + 1 < w2.heap.size := HA1.out.h2.lt
        have HA2 := (show Hid (AtF w (w2.alloc (c4 y)) x) from HA1.out.below (B := w2.heap.size) (below1 _ _) hl)
        clear hb2 ha HA1
        obtain ⟨_, c0, c1, c2, c3, f0, f1, f2, f3⟩ := HA2.out.h2
        go_wp2_with fail
        refine (unionR_any x y _).mono ?_
        rintro e w3 ⟨rfl, hb3⟩
        have HA3 := (show Hid _ from HA2.out.below hb3 HA2.out.h2.lt)
        clear hb3 HA2 c0 c1 c2 c3 f0 f1 f2 f3
        obtain ⟨_, c0, c1, c2, c3, f0, f1, f2, f3⟩ := HA3.out.h2
        go_wp2_with fail
        go_roundw
        case rel => exact ⟨k + 2, g, x ||| y, hk2, by go_num, hf', hr', HA3.out.put (x ||| y)⟩
        case measure => simp [intOf]; omega
      · have hm : rdMember s k = .inr (k, 10) := by rw [HM.out]; unfold rdClass; rw [if_neg hcl]
        have hr' := (show Hid (R = .inr (k, 10)) from (hr.out.symm.trans (rdMembers_err h93 hm)))
        have HK : Hid (∀ w, Calls Tryd.prog 57 #[.int .i64 (chr s (k + 1))] w fun e w' => (∃ y, e = .returned (.tuple #[sv y, .int .i64 10])) ∧ Below w.heap.size w w') := fun w => by
          by_cases hlt1 : k + 1 < s.size
          · have h0 : 0 ≤ chr s (k + 1) := by rw [chr_in hlt1]; omega
            have hb := chr_le s (k + 1)
            have h := classR_any (chr s (k + 1)).toNat (by omega) w
            rw [show (((chr s (k + 1)).toNat : Nat) : Int) = chr s (k + 1) from by omega, cls_ten _ (fun q => hcl ⟨hlt1, q⟩)] at h
            refine h.mono ?_
            rintro e w' ⟨rfl, hb⟩
            exact ⟨⟨_, rfl⟩, hb⟩
          · refine (smallM_any (chr s (k + 1)) w (by rw [chr_out hlt1]; omega)).mono ?_
            rintro e w' ⟨rfl, hb⟩
            exact ⟨⟨_, rfl⟩, hb⟩
        rw [h37] at HC e93
        clear hr hf h93 HIT hcl hm HM h37
        generalize chr s (k + 1) = q at *
        go_wp2_with fail
        refine (HC.out _).mono ?_
        rintro e w1 ⟨rfl, rfl⟩
        go_wp2_with fail
        refine (HC.out _).mono ?_
        rintro e w1 ⟨rfl, rfl⟩
        go_wp2_with fail
        refine (HD.out _).mono ?_
        rintro e w1 ⟨rfl, rfl⟩
        go_wp2_with fail
        refine (HK.out _).mono ?_
        rintro e w2 ⟨⟨y, rfl⟩, hb2⟩
        have HA1 := (show Hid _ from ha.out.below hb2 ha.out.h2.lt)
        have hl : w.heap.size + 1 < w2.heap.size := HA1.out.h2.lt
        have HA2 := (show Hid (AtF w (w2.alloc (c4 y)) x) from HA1.out.below (B := w2.heap.size) (below1 _ _) hl)
        clear hb2 ha HA1
        obtain ⟨_, c0, c1, c2, c3, f0, f1, f2, f3⟩ := HA2.out.h1
        go_wp2_with fail
        rw [hr'.out]
        refine bodyPost_ret (v := rrV (.inr ((k), 10))) (by simp [results, Tryd.results37, go_sem, rrV, wd_zero, *]) rfl ⟨rfl, ?_⟩
        exact (((HA2.out.hb.setCell (Nat.le_refl _) _).setCell (Nat.le_refl _) _).setCell (Nat.le_refl _) _).setCell (Nat.le_refl _) _
    have e37 : (chr s k == 37) = false := beq_eq_false_iff_ne.2 h37
    cases hit : rdItem s k with
    | none =>
      have hm : rdMember s k = .inr (k, 6) := by unfold rdMember; rw [if_neg h37, hit]
      have hr' := (show Hid (R = .inr (k, 6)) from (hr.out.symm.trans (rdMembers_err h93 hm)))
      have HK : Hid (∀ w, Calls Tryd.prog 59 #[.string s, .int .i64 k] w fun e w' => e = .returned (.tuple #[.int .i64 (-1), .int .i64 k]) ∧ Below w.heap.size w w') := fun w => by have h := HIT.out s k hk hs w; rw [hit] at h; exact h
      clear hr hf h93 h37 HIT hm hit
      generalize chr s k = c at *
      go_wp2_with fail
      refine (HC.out _).mono ?_
      rintro e w1 ⟨rfl, rfl⟩
      go_wp2_with fail
      refine (HC.out _).mono ?_
      rintro e w1 ⟨rfl, rfl⟩
      go_wp2_with fail
      refine (HK.out _).mono ?_
      rintro e w2 ⟨rfl, hb2⟩
      have HA1 := (show Hid _ from ha.out.below hb2 ha.out.h2.lt)
      have hl : w.heap.size + 1 < w2.heap.size := HA1.out.h2.lt
      clear hb2 ha
      obtain ⟨_, c0, c1, c2, c3, f0, f1, f2, f3⟩ := HA1.out.h1
      go_wp2_with fail
      rw [hr'.out]
      refine bodyPost_ret (v := rrV (.inr ((k), 6))) (by simp [results, Tryd.results37, go_sem, rrV, wd_zero, *]) rfl ⟨rfl, ?_⟩
      exact (((HA1.out.hb.setCell (Nat.le_refl _) _).setCell (Nat.le_refl _) _).setCell (Nat.le_refl _) _).setCell (Nat.le_refl _) _
    | some p =>
      obtain ⟨lo, nx⟩ := p
      obtain ⟨b1, b2, b3⟩ := rdItem_bd hit
      have HK : Hid (∀ w, Calls Tryd.prog 59 #[.string s, .int .i64 k] w fun e w' => e = .returned (.tuple #[.int .i64 lo, .int .i64 nx]) ∧ Below w.heap.size w w') := fun w => by have h := HIT.out s k hk hs w; rw [hit] at h; exact h
      have HN : Hid (∀ w, Calls Tryd.prog 29 #[.string s, .int .i64 nx] w fun e w' => e = .returned (.int .i64 (chr s nx)) ∧ w' = w) := fun w => at_any s nx w
      have hlo0 : ¬ (lo : Int) < 0 := by omega
      by_cases h45 : chr s nx = 45
      · have hltn : nx < s.size := chr_lt (by rw [h45]; omega)
        rw [h45] at HN
        cases hi2 : rdItem s (nx + 1) with
        | none =>
          have hm : rdMember s k = .inr ((nx + 1), 6) := by unfold rdMember; rw [if_neg h37, hit]; exact (if_pos h45).trans (by rw [hi2])
          have hr' := (show Hid (R = .inr ((nx + 1), 6)) from (hr.out.symm.trans (rdMembers_err h93 hm)))
          have HL : Hid (∀ w, Calls Tryd.prog 59 #[.string s, .int .i64 ((nx : Int) + 1)] w fun e w' => e = .returned (.tuple #[.int .i64 (-1), .int .i64 ((nx + 1 : Nat) : Int)]) ∧ Below w.heap.size w w') := fun w => by have h := HIT.out s (nx + 1) (by omega) hs w; rw [hi2] at h; exact h
          clear hr hf h93 h37 HIT hm hit hi2 h45
          generalize chr s k = c at *
          go_wp2_with fail
          refine (HC.out _).mono ?_
          rintro e w1 ⟨rfl, rfl⟩
          go_wp2_with fail
          refine (HC.out _).mono ?_
          rintro e w1 ⟨rfl, rfl⟩
          go_wp2_with fail
          refine (HK.out _).mono ?_
          rintro e w2 ⟨rfl, hb2⟩
          have HA1 := (show Hid _ from ha.out.below hb2 ha.out.h2.lt)
          clear hb2 ha
          go_wp2_with fail
          refine (HN.out _).mono ?_
          rintro e w3 ⟨rfl, rfl⟩
          go_wp2_with fail
          refine (HL.out _).mono ?_
          rintro e w4 ⟨rfl, hb4⟩
          have HA2 := (show Hid _ from HA1.out.below hb4 HA1.out.h2.lt)
          have hl : w.heap.size + 1 < w4.heap.size := HA2.out.h2.lt
          clear hb4 HA1
          obtain ⟨_, c0, c1, c2, c3, f0, f1, f2, f3⟩ := HA2.out.h1
          go_wp2_with fail
          rw [hr'.out]
          refine bodyPost_ret (v := rrV (.inr ((nx + 1), 6))) (by simp [results, Tryd.results37, go_sem, rrV, wd_zero, *]) rfl ⟨rfl, ?_⟩
          exact (((HA2.out.hb.setCell (Nat.le_refl _) _).setCell (Nat.le_refl _) _).setCell (Nat.le_refl _) _).setCell (Nat.le_refl _) _
        | some p2 =>
          obtain ⟨up, en⟩ := p2
          obtain ⟨b4, b5, b6⟩ := rdItem_bd hi2
          have HL : Hid (∀ w, Calls Tryd.prog 59 #[.string s, .int .i64 ((nx : Int) + 1)] w fun e w' => e = .returned (.tuple #[.int .i64 up, .int .i64 en]) ∧ Below w.heap.size w w') := fun w => by have h := HIT.out s (nx + 1) (by omega) hs w; rw [hi2] at h; exact h
          have hup0 : ¬ (up : Int) < 0 := by omega
          by_cases hul : up < lo
          · have hm : rdMember s k = .inr (k, 1) := by unfold rdMember; rw [if_neg h37, hit]; exact (if_pos h45).trans (by rw [hi2]; exact if_pos hul)
            have hr' := (show Hid (R = .inr (k, 1)) from (hr.out.symm.trans (rdMembers_err h93 hm)))
            have hul' : (up : Int) < (lo : Int) := by omega
            clear hr hf h93 h37 HIT hm hit hi2 h45
            generalize chr s k = c at *
            go_wp2_with fail
            refine (HC.out _).mono ?_
            rintro e w1 ⟨rfl, rfl⟩
            go_wp2_with fail
            refine (HC.out _).mono ?_
            rintro e w1 ⟨rfl, rfl⟩
            go_wp2_with fail
            refine (HK.out _).mono ?_
            rintro e w2 ⟨rfl, hb2⟩
            have HA1 := (show Hid _ from ha.out.below hb2 ha.out.h2.lt)
            clear hb2 ha
            go_wp2_with fail
            refine (HN.out _).mono ?_
            rintro e w3 ⟨rfl, rfl⟩
            go_wp2_with fail
            refine (HL.out _).mono ?_
            rintro e w4 ⟨rfl, hb4⟩
            have HA2 := (show Hid _ from HA1.out.below hb4 HA1.out.h2.lt)
            have hl : w.heap.size + 1 < w4.heap.size := HA2.out.h2.lt
            clear hb4 HA1
            obtain ⟨_, c0, c1, c2, c3, f0, f1, f2, f3⟩ := HA2.out.h1
            go_wp2_with fail
            rw [hr'.out]
            refine bodyPost_ret (v := rrV (.inr ((k), 1))) (by simp [results, Tryd.results37, go_sem, rrV, wd_zero, *]) rfl ⟨rfl, ?_⟩
            exact (((HA2.out.hb.setCell (Nat.le_refl _) _).setCell (Nat.le_refl _) _).setCell (Nat.le_refl _) _).setCell (Nat.le_refl _) _
          · have hm : rdMember s k = .inl (spn lo up, en) := by unfold rdMember; rw [if_neg h37, hit]; exact (if_pos h45).trans (by rw [hi2]; exact if_neg hul)
            have hr' := (show Hid (rdMembers s g (x ||| spn lo up) en = R) from ((rdMembers_step h93 hm).symm.trans hr.out))
            have hf' := (show Hid (s.size + 1 ≤ g + en) from (by have h := hf.out; show _ ≤ _; omega))
            have hul' : ¬ (up : Int) < (lo : Int) := by omega
            have HFT : Hid (∀ w, Calls Tryd.prog 60 #[.int .i64 lo, .int .i64 up] w fun e w' => e = .returned (sv (spn lo up)) ∧ Below w.heap.size w w') := fun w => fromTo_any lo up w (by omega) (by omega) (by omega)
            clear hr hf h93 h37 HIT hm hit hi2 h45
            generalize spn (lo : Int) (up : Int) = y at *
            generalize chr s k = c at *
            go_wp2_with fail
            refine (HC.out _).mono ?_
            rintro e w1 ⟨rfl, rfl⟩
            go_wp2_with fail
            refine (HC.out _).mono ?_
            rintro e w1 ⟨rfl, rfl⟩
            go_wp2_with fail
            refine (HK.out _).mono ?_
            rintro e w2 ⟨rfl, hb2⟩
            have HA1 := (show Hid _ from ha.out.below hb2 ha.out.h2.lt)
            clear hb2 ha
            go_wp2_with fail
            refine (HN.out _).mono ?_
            rintro e w3 ⟨rfl, rfl⟩
            go_wp2_with fail
            refine (HL.out _).mono ?_
            rintro e w4 ⟨rfl, hb4⟩
            have HA2 := (show Hid _ from HA1.out.below hb4 HA1.out.h2.lt)
            clear hb4 HA1
            obtain ⟨l0, c0, c1, c2, c3, f0, f1, f2, f3⟩ := HA2.out.h2
            go_wp2_with fail
            go_region_with (first | (go_at_call 60; refine (HFT.out _).mono ?_; rintro e w5 ⟨rfl, hb⟩; have hA2 := (show AtF w w5 x from (by first | exact HA2.out.below hb HA2.out.h2.lt | exact HA2.out.drew.below hb HA2.out.h2.lt)); replace HA2 := (show Hid _ from hA2); clear hA2 hb c0 c1 c2 c3 f0 f1 f2 f3; obtain ⟨_, c0, c1, c2, c3, f0, f1, f2, f3⟩ := HA2.out.h2) | (go_at_call 58; refine (unionR_any x y _).mono ?_; rintro e w6 ⟨rfl, hb⟩; have hA2 := (show AtF w w6 x from (by first | exact HA2.out.below hb HA2.out.h2.lt | exact HA2.out.drew.below hb HA2.out.h2.lt)); replace HA2 := (show Hid _ from hA2); clear hA2 hb c0 c1 c2 c3 f0 f1 f2 f3; obtain ⟨_, c0, c1, c2, c3, f0, f1, f2, f3⟩ := HA2.out.h2))
            all_goals
              go_wp2
              go_roundw
              case rel => exact ⟨en, g, x ||| y, b6, by go_num, hf', hr', HA2.out.put _⟩
              case measure => simp [intOf]; omega
      · have hm : rdMember s k = .inl (spn lo lo, nx) := by unfold rdMember; rw [if_neg h37, hit]; exact if_neg h45
        have hr' := (show Hid (rdMembers s g (x ||| spn lo lo) nx = R) from ((rdMembers_step h93 hm).symm.trans hr.out))
        have hf' := (show Hid (s.size + 1 ≤ g + nx) from (by have h := hf.out; show _ ≤ _; omega))
        have e45 : (chr s nx == 45) = false := beq_eq_false_iff_ne.2 h45
        have HFT : Hid (∀ w, Calls Tryd.prog 60 #[.int .i64 lo, .int .i64 lo] w fun e w' => e = .returned (sv (spn lo lo)) ∧ Below w.heap.size w w') := fun w => fromTo_any lo lo w (by omega) (by omega) (by omega)
        clear hr hf h93 h37 HIT hm hit h45
        generalize spn (lo : Int) (lo : Int) = y at *
        generalize chr s nx = q at *
        generalize chr s k = c at *
        go_wp2_with fail
        refine (HC.out _).mono ?_
        rintro e w1 ⟨rfl, rfl⟩
        go_wp2_with fail
        refine (HC.out _).mono ?_
        rintro e w1 ⟨rfl, rfl⟩
        go_wp2_with fail
        refine (HK.out _).mono ?_
        rintro e w2 ⟨rfl, hb2⟩
        have HA2 := (show Hid _ from ha.out.below hb2 ha.out.h2.lt)
        clear hb2 ha
        go_wp2_with fail
        refine (HN.out _).mono ?_
        rintro e w3 ⟨rfl, rfl⟩
        obtain ⟨l0, c0, c1, c2, c3, f0, f1, f2, f3⟩ := HA2.out.h2
        go_wp2_with fail
        go_region_with (first | (go_at_call 60; refine (HFT.out _).mono ?_; rintro e w5 ⟨rfl, hb⟩; have hA2 := (show AtF w w5 x from (by first | exact HA2.out.below hb HA2.out.h2.lt | exact HA2.out.drew.below hb HA2.out.h2.lt)); replace HA2 := (show Hid _ from hA2); clear hA2 hb c0 c1 c2 c3 f0 f1 f2 f3; obtain ⟨_, c0, c1, c2, c3, f0, f1, f2, f3⟩ := HA2.out.h2) | (go_at_call 58; refine (unionR_any x y _).mono ?_; rintro e w6 ⟨rfl, hb⟩; have hA2 := (show AtF w w6 x from (by first | exact HA2.out.below hb HA2.out.h2.lt | exact HA2.out.drew.below hb HA2.out.h2.lt)); replace HA2 := (show Hid _ from hA2); clear hA2 hb c0 c1 c2 c3 f0 f1 f2 f3; obtain ⟨_, c0, c1, c2, c3, f0, f1, f2, f3⟩ := HA2.out.h2))
        all_goals
          go_wp2
          go_roundw
          case rel => exact ⟨nx, g, x ||| y, b3, by go_num, hf', hr', HA2.out.put _⟩
          case measure => simp [intOf]; omega
end Go.Proofs.YthffklhojdldkaaDoor
