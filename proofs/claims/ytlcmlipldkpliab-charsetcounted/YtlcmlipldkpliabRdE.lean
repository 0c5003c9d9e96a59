/- DERIVED. Walks: Read and Parse, by the program. -/
import Derived.Test.YtlcmlipldkpliabRdD
namespace Go.Proofs.Ytlcmlipldkpliab
open Go.RowKit

def rdEnd : Rd (BitVec 256 × Nat) → Rd (BitVec 256 × Nat)
  | .inr (a, c) => .inr (a, c)
  | .inl (x, e) => .inl (x, e + 1)
def rdTurn : Rd (BitVec 256 × Nat) → Rd (BitVec 256 × Nat)
  | .inr (a, c) => .inr (a, c)
  | .inl (x, e) => .inl (~~~ x, e + 1)
def rdRead (s : ByteArray) (i : Int) : Rd (BitVec 256 × Nat) :=
  if i < 0 ∨ (s.size : Int) < i then .inr (0, 1) else
  if chr s i.toNat = 91 then
    if chr s (i.toNat + 1) = 94 then rdTurn (rdMembers s (s.size + 1) 0#256 (i.toNat + 2)) else rdEnd (rdMembers s (s.size + 1) 0#256 (i.toNat + 1))
  else .inr (i.toNat, 6)

set_option maxRecDepth 100000 in
set_option maxHeartbeats 2000000 in
theorem read_out (s : ByteArray) (i : Int) (h : i < 0 ∨ (s.size : Int) < i) (w : World) :
    Calls Try.prog 24 #[.string s, .int .i64 i] w fun e w' => e = .returned (mbV (rdRead s i)) ∧ Below w.heap.size w w' := by
  have HF := (show Hid (rdRead s i = .inr (0, 1)) from (by show rdRead s i = _; unfold rdRead; rw [if_pos h]))
  rcases h with h | h
  · go_enter Try.func24, Try.ntmps24
    go_wp2
    rw [HF.out]
    refine bodyPost_ret (v := mbV (.inr (0, 1))) (by simp [results, Try.results24, go_sem, mbV, wd_zero, *]) rfl ⟨rfl, ?_⟩
    exact ((Below.refl _ _).alloc (Nat.le_refl _) _).alloc (by simp) _
  · have h0 : ¬ i < 0 := by omega
    go_enter Try.func24, Try.ntmps24
    go_wp2
    rw [HF.out]
    refine bodyPost_ret (v := mbV (.inr (0, 1))) (by simp [results, Try.results24, go_sem, mbV, wd_zero, *]) rfl ⟨rfl, ?_⟩
    exact ((Below.refl _ _).alloc (Nat.le_refl _) _).alloc (by simp) _

set_option maxRecDepth 100000 in
set_option maxHeartbeats 2000000 in
theorem read_none (s : ByteArray) (i : Nat) (hi : i ≤ s.size) (_hs : s.size ≤ 140737488355328) (h : (chr s i == 91) = false) (w : World) :
    Calls Try.prog 24 #[.string s, .int .i64 i] w fun e w' => e = .returned (mbV (rdRead s i)) ∧ Below w.heap.size w w' := by
  have HF := (show Hid (rdRead s i = .inr (i, 6)) from (by show rdRead s i = _; unfold rdRead; rw [if_neg (by omega), if_neg (by exact beq_eq_false_iff_ne.1 h)]; rfl))
  go_enter Try.func24, Try.ntmps24
  go_wp2_with fail
  refine (standsAt_any s i 91 (by omega) _).mono ?_
  rintro e w1 ⟨rfl, rfl⟩
  rw [h]
  clear h
  go_wp2_with fail
  rw [HF.out]
  refine bodyPost_ret (v := mbV (.inr (i, 6))) (by simp [results, Try.results24, go_sem, mbV, wd_zero, *]) rfl ⟨rfl, ?_⟩
  exact ((Below.refl _ _).alloc (Nat.le_refl _) _).alloc (by simp) _

structure AtR (w wr : World) : Prop where
  h1 : Holds wr w.heap.size 0#256
  h2 : FHolds wr (w.heap.size + 1) 0 0
  hb : Below w.heap.size w wr
theorem AtR.below {B : Nat} {w wr w1 : World} (h : AtR w wr) (hb : Below B wr w1) (hB : w.heap.size + 1 < B) : AtR w w1 :=
  ⟨h.h1.below hb (by omega), h.h2.below hb hB, h.hb.trans (hb.mono (by omega))⟩
theorem AtR.start (w : World) : AtR w ((w.alloc z4).alloc fz) := ⟨(boxes2 w).1, (boxes2 w).2.1, (boxes2 w).2.2⟩

set_option maxRecDepth 100000 in
set_option maxHeartbeats 2000000 in
theorem read_plain_err (s : ByteArray) (i : Nat) (hi : i + 1 ≤ s.size) (hs : s.size ≤ 140737488355328) (h : (chr s i == 91) = true) (h2 : (chr s (i + 1) == 94) = false) (a : Nat) (c : Int) (hm : rdMembers s (s.size + 1) 0#256 (i + 1) = .inr (a, c)) (w : World) :
    Calls Try.prog 24 #[.string s, .int .i64 i] w fun e w' => e = .returned (mbV (rdRead s i)) ∧ Below w.heap.size w w' := by
  have HF := (show Hid (rdRead s i = .inr (a, c)) from (by
    show rdRead s i = _; unfold rdRead
    rw [if_neg (by omega), Int.toNat_natCast, if_pos (beq_iff_eq.1 h), if_neg (beq_eq_false_iff_ne.1 h2), hm]; rfl))
  have HM := (show Hid _ from hm)
  have HA := (show Hid _ from AtR.start w)
  have hcn := rdMembers_code hm
  clear hm
  go_enter Try.func24, Try.ntmps24
  go_wp2_with fail
  refine (standsAt_any s i 91 (by omega) _).mono ?_
  rintro e w1 ⟨rfl, rfl⟩
  rw [h]
  clear h
  go_wp2_with fail
  rw [show (i : Int) + 1 = ((i + 1 : Nat) : Int) from by omega]
  refine (standsAt_any s (i + 1) 94 (by omega) _).mono ?_
  rintro e w1 ⟨rfl, rfl⟩
  rw [h2]
  clear h2
  go_wp2_with fail
  refine (readMembers_any s (i + 1) hi hs _).mono ?_
  rintro e w1 ⟨rfl, hb1⟩
  rw [HM.out]
  dsimp only [mbV]
  have HA1 := (show Hid _ from HA.out.below hb1 HA.out.h2.lt)
  clear hb1 HA HM
  have hl : w.heap.size + 1 < w1.heap.size := HA1.out.h2.lt
  have HA2 := (show Hid (AtR w ((w1.alloc (c4 0#256)).alloc (.cells #[.int .i64 (a : Int), .int .i64 c] 34))) from HA1.out.below (B := w1.heap.size) (((Below.refl _ _).alloc (Nat.le_refl _) _).alloc (by simp) _) hl)
  clear HA1
  obtain ⟨_, c0, c1, c2, c3, f0, f1, f2, f3⟩ := HA2.out.h1
  obtain ⟨_, d0, d1, g0, g1⟩ := HA2.out.h2
  go_wp2_with fail
  go_region
  all_goals
    go_wp2
    rw [HF.out]
    have HB2 := HA2.out.hb
    simp only [c4, wd_zero] at c0 c1 c2 c3 f0 f1 f2 f3 d0 d1 g0 g1 HB2 ⊢
    refine bodyPost_ret (v := mbV (.inr (a, c))) (by simp [results, Try.results24, go_sem, mbV, wd_zero, *]) rfl ⟨rfl, ?_⟩
    first | exact (put6_below HB2 (Nat.le_refl _) (by omega)).drew | exact put6_below HB2 (Nat.le_refl _) (by omega)

set_option maxRecDepth 100000 in
set_option maxHeartbeats 2000000 in
theorem read_turn_err (s : ByteArray) (i : Nat) (hi : i + 2 ≤ s.size) (hs : s.size ≤ 140737488355328) (h : (chr s i == 91) = true) (h2 : (chr s (i + 1) == 94) = true) (a : Nat) (c : Int) (hm : rdMembers s (s.size + 1) 0#256 (i + 2) = .inr (a, c)) (w : World) :
    Calls Try.prog 24 #[.string s, .int .i64 i] w fun e w' => e = .returned (mbV (rdRead s i)) ∧ Below w.heap.size w w' := by
  have HF := (show Hid (rdRead s i = .inr (a, c)) from (by
    show rdRead s i = _; unfold rdRead
    rw [if_neg (by omega), Int.toNat_natCast, if_pos (beq_iff_eq.1 h), if_pos (beq_iff_eq.1 h2), hm]; rfl))
  have HM := (show Hid _ from hm)
  have HA := (show Hid _ from AtR.start w)
  have hcn := rdMembers_code hm
  clear hm
  go_enter Try.func24, Try.ntmps24
  go_wp2_with fail
  refine (standsAt_any s i 91 (by omega) _).mono ?_
  rintro e w1 ⟨rfl, rfl⟩
  rw [h]
  clear h
  go_wp2_with fail
  rw [show (i : Int) + 1 = ((i + 1 : Nat) : Int) from by omega]
  refine (standsAt_any s (i + 1) 94 (by omega) _).mono ?_
  rintro e w1 ⟨rfl, rfl⟩
  rw [h2]
  clear h2
  go_wp2_with fail
  rw [show (i : Int) + 1 + 1 = ((i + 2 : Nat) : Int) from by omega]
  refine (readMembers_any s (i + 2) hi hs _).mono ?_
  rintro e w1 ⟨rfl, hb1⟩
  rw [HM.out]
  dsimp only [mbV]
  have HA1 := (show Hid _ from HA.out.below hb1 HA.out.h2.lt)
  clear hb1 HA HM
  have hl : w.heap.size + 1 < w1.heap.size := HA1.out.h2.lt
  have HA2 := (show Hid (AtR w ((w1.alloc (c4 0#256)).alloc (.cells #[.int .i64 (a : Int), .int .i64 c] 34))) from HA1.out.below (B := w1.heap.size) (((Below.refl _ _).alloc (Nat.le_refl _) _).alloc (by simp) _) hl)
  clear HA1
  obtain ⟨_, c0, c1, c2, c3, f0, f1, f2, f3⟩ := HA2.out.h1
  obtain ⟨_, d0, d1, g0, g1⟩ := HA2.out.h2
  go_wp2_with fail
  go_region
  all_goals
    go_wp2
    rw [HF.out]
    have HB2 := HA2.out.hb
    simp only [c4, wd_zero] at c0 c1 c2 c3 f0 f1 f2 f3 d0 d1 g0 g1 HB2 ⊢
    refine bodyPost_ret (v := mbV (.inr (a, c))) (by simp [results, Try.results24, go_sem, mbV, wd_zero, *]) rfl ⟨rfl, ?_⟩
    first | exact (put6_below HB2 (Nat.le_refl _) (by omega)).drew | exact put6_below HB2 (Nat.le_refl _) (by omega)

set_option maxRecDepth 100000 in
set_option maxHeartbeats 2000000 in
theorem read_plain_ok (s : ByteArray) (i : Nat) (hi : i + 1 ≤ s.size) (hs : s.size ≤ 140737488355328) (h : (chr s i == 91) = true) (h2 : (chr s (i + 1) == 94) = false) (x : BitVec 256) (n : Nat) (hm : rdMembers s (s.size + 1) 0#256 (i + 1) = .inl (x, n)) (w : World) :
    Calls Try.prog 24 #[.string s, .int .i64 i] w fun e w' => e = .returned (mbV (rdRead s i)) ∧ Below w.heap.size w w' := by
  have HF := (show Hid (rdRead s i = .inl (x, n + 1)) from (by
    show rdRead s i = _; unfold rdRead
    rw [if_neg (by omega), Int.toNat_natCast, if_pos (beq_iff_eq.1 h), if_neg (beq_eq_false_iff_ne.1 h2), hm]; rfl))
  have HM := (show Hid _ from hm)
  have HA := (show Hid _ from AtR.start w)
  obtain ⟨hn1, hn2, -⟩ := rdMembers_ok hm
  clear hm
  go_enter Try.func24, Try.ntmps24
  go_wp2_with fail
  refine (standsAt_any s i 91 (by omega) _).mono ?_
  rintro e w1 ⟨rfl, rfl⟩
  rw [h]
  clear h
  go_wp2_with fail
  rw [show (i : Int) + 1 = ((i + 1 : Nat) : Int) from by omega]
  refine (standsAt_any s (i + 1) 94 (by omega) _).mono ?_
  rintro e w1 ⟨rfl, rfl⟩
  rw [h2]
  clear h2
  go_wp2_with fail
  refine (readMembers_any s (i + 1) hi hs _).mono ?_
  rintro e w1 ⟨rfl, hb1⟩
  rw [HM.out]
  dsimp only [mbV]
  have HA1 := (show Hid _ from HA.out.below hb1 HA.out.h2.lt)
  clear hb1 HA HM
  have hl : w.heap.size + 1 < w1.heap.size := HA1.out.h2.lt
  have HA2 := (show Hid (AtR w ((w1.alloc (c4 x)).alloc fz)) from HA1.out.below (B := w1.heap.size) (((Below.refl _ _).alloc (Nat.le_refl _) _).alloc (by simp) _) hl)
  clear HA1
  obtain ⟨_, c0, c1, c2, c3, f0, f1, f2, f3⟩ := HA2.out.h1
  obtain ⟨_, d0, d1, g0, g1⟩ := HA2.out.h2
  go_wp2_with fail
  rw [HF.out]
  refine bodyPost_ret (v := mbV (.inl (x, n + 1))) (by simp [results, Try.results24, go_sem, mbV, wd_zero, *]) rfl ⟨rfl, ?_⟩
  exact put6_below HA2.out.hb (Nat.le_refl _) (by omega)

set_option maxRecDepth 100000 in
set_option maxHeartbeats 2000000 in
theorem read_turn_ok (s : ByteArray) (i : Nat) (hi : i + 2 ≤ s.size) (hs : s.size ≤ 140737488355328) (h : (chr s i == 91) = true) (h2 : (chr s (i + 1) == 94) = true) (x : BitVec 256) (n : Nat) (hm : rdMembers s (s.size + 1) 0#256 (i + 2) = .inl (x, n)) (w : World) :
    Calls Try.prog 24 #[.string s, .int .i64 i] w fun e w' => e = .returned (mbV (rdRead s i)) ∧ Below w.heap.size w w' := by
  have HF := (show Hid (rdRead s i = .inl (~~~ x, n + 1)) from (by
    show rdRead s i = _; unfold rdRead
    rw [if_neg (by omega), Int.toNat_natCast, if_pos (beq_iff_eq.1 h), if_pos (beq_iff_eq.1 h2), hm]; rfl))
  have HM := (show Hid _ from hm)
  have HA := (show Hid _ from AtR.start w)
  obtain ⟨hn1, hn2, -⟩ := rdMembers_ok hm
  clear hm
  go_enter Try.func24, Try.ntmps24
  go_wp2_with fail
  refine (standsAt_any s i 91 (by omega) _).mono ?_
  rintro e w1 ⟨rfl, rfl⟩
  rw [h]
  clear h
  go_wp2_with fail
  rw [show (i : Int) + 1 = ((i + 1 : Nat) : Int) from by omega]
  refine (standsAt_any s (i + 1) 94 (by omega) _).mono ?_
  rintro e w1 ⟨rfl, rfl⟩
  rw [h2]
  clear h2
  go_wp2_with fail
  rw [show (i : Int) + 1 + 1 = ((i + 2 : Nat) : Int) from by omega]
  refine (readMembers_any s (i + 2) hi hs _).mono ?_
  rintro e w1 ⟨rfl, hb1⟩
  rw [HM.out]
  dsimp only [mbV]
  have HA1 := (show Hid _ from HA.out.below hb1 HA.out.h2.lt)
  clear hb1 HA HM
  have hl : w.heap.size + 1 < w1.heap.size := HA1.out.h2.lt
  have HA2 := (show Hid (AtR w ((w1.alloc (c4 x)).alloc fz)) from HA1.out.below (B := w1.heap.size) (((Below.refl _ _).alloc (Nat.le_refl _) _).alloc (by simp) _) hl)
  clear HA1
  have HX := (show Hid (Holds ((w1.alloc (c4 x)).alloc fz) w1.heap.size x) from (Holds.new w1 x).alloc _)
  go_wp2_with fail
  refine (not_any x _).mono ?_
  rintro e w2 ⟨rfl, hb2⟩
  have HA3 := (show Hid _ from HA2.out.below hb2 HA2.out.h2.lt)
  have HX3 := (show Hid _ from HX.out.below hb2 HX.out.lt)
  have hl2 : w1.heap.size + 1 < w2.heap.size := by have h := hb2.size; simp at h; omega
  clear hb2 HA2 HX
  obtain ⟨_, c0, c1, c2, c3, f0, f1, f2, f3⟩ := HA3.out.h1
  obtain ⟨_, d0, d1, g0, g1⟩ := HA3.out.h2
  obtain ⟨_, e0, e1, e2, e3, k0, k1, k2, k3⟩ := HX3.out
  generalize ~~~ x = y at *
  go_wp2_with fail
  rw [HF.out]
  refine bodyPost_ret (v := mbV (.inl (y, n + 1))) (by simp [results, Try.results24, go_sem, mbV, wd_zero, *]) rfl ⟨rfl, ?_⟩
  exact put6_below (put4_below HA3.out.hb (by omega) y) (Nat.le_refl _) (by omega)

theorem read_any (s : ByteArray) (i : Int) (hs : s.size ≤ 140737488355328) (w : World) :
    Calls Try.prog 24 #[.string s, .int .i64 i] w fun e w' => e = .returned (mbV (rdRead s i)) ∧ Below w.heap.size w w' := by
  by_cases h : i < 0 ∨ (s.size : Int) < i
  · exact read_out s i h w
  · obtain ⟨n, rfl⟩ : ∃ n : Nat, i = n := ⟨i.toNat, by omega⟩
    have hn : n ≤ s.size := by omega
    cases h1 : (chr s n == 91)
    · exact read_none s n hn hs h1 w
    · have hlt : n < s.size := chr_lt (by rw [beq_iff_eq.1 h1]; omega)
      cases h2 : (chr s (n + 1) == 94)
      · cases hm : rdMembers s (s.size + 1) 0#256 (n + 1) with
        | inr pq =>
          obtain ⟨a, c⟩ := pq
          exact read_plain_err s n hlt hs h1 h2 a c hm w
        | inl p => obtain ⟨x, e⟩ := p; exact read_plain_ok s n hlt hs h1 h2 x e hm w
      · have hlt2 : n + 1 < s.size := chr_lt (by rw [beq_iff_eq.1 h2]; omega)
        cases hm : rdMembers s (s.size + 1) 0#256 (n + 2) with
        | inr pq =>
          obtain ⟨a, c⟩ := pq
          exact read_turn_err s n hlt2 hs h1 h2 a c hm w
        | inl p => obtain ⟨x, e⟩ := p; exact read_turn_ok s n hlt2 hs h1 h2 x e hm w
theorem rdRead_code {s : ByteArray} {i : Int} {a : Nat} {c : Int} (h : rdRead s i = .inr (a, c)) : (c != 0) = true := by
  unfold rdRead at h
  split at h
  · simp only [Sum.inr.injEq, Prod.mk.injEq] at h; obtain ⟨rfl, rfl⟩ := h; rfl
  · split at h
    · split at h
      · cases hm : rdMembers s (s.size + 1) 0#256 (i.toNat + 2) with
        | inr pq =>
          obtain ⟨a', c'⟩ := pq
          rw [hm] at h; simp only [rdTurn, Sum.inr.injEq, Prod.mk.injEq] at h; obtain ⟨rfl, rfl⟩ := h; exact rdMembers_code hm
        | inl p => rw [hm] at h; simp [rdTurn] at h
      · cases hm : rdMembers s (s.size + 1) 0#256 (i.toNat + 1) with
        | inr pq =>
          obtain ⟨a', c'⟩ := pq
          rw [hm] at h; simp only [rdEnd, Sum.inr.injEq, Prod.mk.injEq] at h; obtain ⟨rfl, rfl⟩ := h; exact rdMembers_code hm
        | inl p => rw [hm] at h; simp [rdEnd] at h
    · simp only [Sum.inr.injEq, Prod.mk.injEq] at h; obtain ⟨rfl, rfl⟩ := h; rfl
theorem rdRead_ok {s : ByteArray} {i : Int} {x : BitVec 256} {n : Nat} (h : rdRead s i = .inl (x, n)) : n ≤ s.size := by
  unfold rdRead at h
  split at h
  · simp at h
  · split at h
    · split at h
      · cases hm : rdMembers s (s.size + 1) 0#256 (i.toNat + 2) with
        | inr pq =>
          obtain ⟨a', c'⟩ := pq
          rw [hm] at h; simp [rdTurn] at h
        | inl p => obtain ⟨y, m⟩ := p; have b := rdMembers_ok hm; rw [hm] at h; simp only [rdTurn, Sum.inl.injEq, Prod.mk.injEq] at h; omega
      · cases hm : rdMembers s (s.size + 1) 0#256 (i.toNat + 1) with
        | inr pq =>
          obtain ⟨a', c'⟩ := pq
          rw [hm] at h; simp [rdEnd] at h
        | inl p => obtain ⟨y, m⟩ := p; have b := rdMembers_ok hm; rw [hm] at h; simp only [rdEnd, Sum.inl.injEq, Prod.mk.injEq] at h; omega
    · simp at h

def rdParse (s : ByteArray) : Rd (BitVec 256) :=
  if 65536 < s.size then .inr (0, 2) else
  match rdRead s 0 with
  | .inr (a, c) => .inr (a, c)
  | .inl (x, n) => if n < s.size then .inr (n, 6) else .inl x
def psV : Rd (BitVec 256) → Value
  | .inl x => .tuple #[sv x, .agg #[.int .i64 0, .int .i64 0]]
  | .inr (a, c) => .tuple #[sv 0#256, .agg #[.int .i64 a, .int .i64 c]]

set_option maxRecDepth 100000 in
set_option maxHeartbeats 2000000 in
theorem parse_any (s : ByteArray) (w : World) :
    Calls Try.prog 16 #[.string s] w fun e w' => e = .returned (psV (rdParse s)) ∧ Below w.heap.size w w' := by
  have HA := (show Hid _ from AtR.start w)
  by_cases h : 65536 < s.size
  · have HF := (show Hid (rdParse s = .inr (0, 2)) from (by show rdParse s = _; unfold rdParse; rw [if_pos h]))
    have h1 : (65536 : Int) < (s.size : Int) := by omega
    go_enter Try.func16, Try.ntmps16
    go_wp2
    rw [HF.out]
    refine bodyPost_ret (v := psV (.inr (0, 2))) (by simp [results, Try.results16, go_sem, psV, wd_zero, *]) rfl ⟨rfl, ?_⟩
    exact ((Below.refl _ _).alloc (Nat.le_refl _) _).alloc (by simp) _
  · have h1 : ¬ (65536 : Int) < (s.size : Int) := by omega
    cases hm : rdRead s 0 with
    | inr pq =>
      obtain ⟨a, c⟩ := pq
      have HF := (show Hid (rdParse s = .inr (a, c)) from (by show rdParse s = _; unfold rdParse; rw [if_neg h, hm]))
      have HM := (show Hid _ from hm)
      have hcn := rdRead_code hm
      clear hm
      go_enter Try.func16, Try.ntmps16
      go_wp2_with fail
      refine (read_any s 0 (by omega) _).mono ?_
      rintro e w1 ⟨rfl, hb1⟩
      rw [HM.out]
      dsimp only [mbV]
      have HA1 := (show Hid _ from HA.out.below hb1 HA.out.h2.lt)
      clear hb1 HA HM
      have hl : w.heap.size + 1 < w1.heap.size := HA1.out.h2.lt
      have HA2 := (show Hid (AtR w ((w1.alloc (c4 0#256)).alloc (.cells #[.int .i64 (a : Int), .int .i64 c] 34))) from HA1.out.below (B := w1.heap.size) (((Below.refl _ _).alloc (Nat.le_refl _) _).alloc (by simp) _) hl)
      clear HA1
      obtain ⟨_, c0, c1, c2, c3, f0, f1, f2, f3⟩ := HA2.out.h1
      obtain ⟨_, d0, d1, g0, g1⟩ := HA2.out.h2
      go_wp2_with fail
      go_region
      all_goals
        go_wp2
        rw [HF.out]
        have HB2 := HA2.out.hb
        simp only [c4, wd_zero] at c0 c1 c2 c3 f0 f1 f2 f3 d0 d1 g0 g1 HB2 ⊢
        refine bodyPost_ret (v := psV (.inr (a, c))) (by simp [results, Try.results16, go_sem, psV, wd_zero, *]) rfl ⟨rfl, ?_⟩
        first | exact (put6_below HB2 (Nat.le_refl _) (by omega)).drew | exact put6_below HB2 (Nat.le_refl _) (by omega)
    | inl p =>
      obtain ⟨x, n⟩ := p
      have hn0 := rdRead_ok hm
      by_cases hn : n < s.size
      · have HF := (show Hid (rdParse s = .inr (n, 6)) from (by show rdParse s = _; unfold rdParse; rw [if_neg h, hm]; exact if_pos hn))
        have HM := (show Hid _ from hm)
        clear hm
        go_enter Try.func16, Try.ntmps16
        go_wp2_with fail
        refine (read_any s 0 (by omega) _).mono ?_
        rintro e w1 ⟨rfl, hb1⟩
        rw [HM.out]
        dsimp only [mbV]
        have HA1 := (show Hid _ from HA.out.below hb1 HA.out.h2.lt)
        clear hb1 HA HM
        have hl : w.heap.size + 1 < w1.heap.size := HA1.out.h2.lt
        have HA2 := (show Hid (AtR w ((w1.alloc (c4 x)).alloc fz)) from HA1.out.below (B := w1.heap.size) (((Below.refl _ _).alloc (Nat.le_refl _) _).alloc (by simp) _) hl)
        clear HA1
        obtain ⟨_, c0, c1, c2, c3, f0, f1, f2, f3⟩ := HA2.out.h1
        obtain ⟨_, d0, d1, g0, g1⟩ := HA2.out.h2
        go_wp2_with fail
        rw [HF.out]
        refine bodyPost_ret (v := psV (.inr (n, 6))) (by simp [results, Try.results16, go_sem, psV, wd_zero, *]) rfl ⟨rfl, ?_⟩
        exact put6_below HA2.out.hb (Nat.le_refl _) (by omega)
      · have HF := (show Hid (rdParse s = .inl x) from (by show rdParse s = _; unfold rdParse; rw [if_neg h, hm]; exact if_neg hn))
        have HM := (show Hid _ from hm)
        clear hm
        go_enter Try.func16, Try.ntmps16
        go_wp2_with fail
        refine (read_any s 0 (by omega) _).mono ?_
        rintro e w1 ⟨rfl, hb1⟩
        rw [HM.out]
        dsimp only [mbV]
        have HA1 := (show Hid _ from HA.out.below hb1 HA.out.h2.lt)
        clear hb1 HA HM
        have hl : w.heap.size + 1 < w1.heap.size := HA1.out.h2.lt
        have HA2 := (show Hid (AtR w ((w1.alloc (c4 x)).alloc fz)) from HA1.out.below (B := w1.heap.size) (((Below.refl _ _).alloc (Nat.le_refl _) _).alloc (by simp) _) hl)
        clear HA1
        obtain ⟨_, c0, c1, c2, c3, f0, f1, f2, f3⟩ := HA2.out.h1
        obtain ⟨_, d0, d1, g0, g1⟩ := HA2.out.h2
        go_wp2_with fail
        rw [HF.out]
        refine bodyPost_ret (v := psV (.inl x)) (by simp [results, Try.results16, go_sem, psV, wd_zero, *]) rfl ⟨rfl, ?_⟩
        exact put6_below HA2.out.hb (Nat.le_refl _) (by omega)
end Go.Proofs.Ytlcmlipldkpliab
