/- DERIVED. Walks: readMember, by the program. -/
import Derived.Test.YtlcmlipldkpliabRdB
namespace Go.Proofs.Ytlcmlipldkpliab
open Go.RowKit

set_option maxRecDepth 100000 in
set_option maxHeartbeats 1000000 in
theorem member_class (s : ByteArray) (i : Nat) (hi : i ≤ s.size) (hs : s.size ≤ 140737488355328) (w : World) (hc : (chr s i == 37) = true) :
    Calls Try.prog 41 #[.string s, .int .i64 i] w fun e w' => e = .returned (mbV (rdMember s i)) ∧ Below w.heap.size w w' := by
  have HF := (show Hid (rdMember s i = rdClass s i) from (by show rdMember s i = _; unfold rdMember; rw [if_pos (beq_iff_eq.1 hc)]))
  obtain ⟨q1, q2, q3⟩ := boxes2 w
  have HH := (show Hid _ from q1)
  have HG := (show Hid _ from q2)
  have HR := (show Hid _ from q3)
  clear q1 q2 q3
  go_enter Try.func41, Try.ntmps41
  go_wp2_with fail
  refine (standsAt_any s i 37 (by omega) _).mono ?_
  rintro e w1 ⟨rfl, rfl⟩
  rw [hc]
  clear hc
  go_wp2_with fail
  refine (readClass_any s i hi hs _).mono ?_
  rintro e w1 ⟨rfl, hb1⟩
  have hl : w.heap.size + 1 < w1.heap.size := by have h := hb1.size; simp at h; omega
  have HR1 := (show Hid _ from HR.out.trans (hb1.mono (by simp; omega)))
  obtain ⟨_, g0, g1, k0, k1⟩ := HG.out.below hb1 (by simp)
  obtain ⟨_, c0, c1, c2, c3, f0, f1, f2, f3⟩ := HH.out.below hb1 (by simp; omega)
  clear hb1 HH HG HR
  cases hq : rdClass s i with
  | inl p =>
    obtain ⟨y, n⟩ := p
    rw [hq] at HF
    dsimp only [mbV]
    clear hq
    go_wp2
    rw [HF.out]
    refine bodyPost_ret (v := mbV (.inl (y, n))) (by simp [results, Try.results41, go_sem, mbV, wd_zero, *]) rfl ⟨rfl, ?_⟩
    exact put6_below HR1.out (Nat.le_refl _) (by omega)
  | inr pq =>
    obtain ⟨a, c⟩ := pq
    rw [hq] at HF
    dsimp only [mbV]
    clear hq
    go_wp2
    rw [HF.out]
    refine bodyPost_ret (v := mbV (.inr (a, c))) (by simp [results, Try.results41, go_sem, mbV, wd_zero, *]) rfl ⟨rfl, ?_⟩
    exact put6_below HR1.out (Nat.le_refl _) (by omega)

set_option maxRecDepth 100000 in
set_option maxHeartbeats 1000000 in
theorem member_none (s : ByteArray) (i : Nat) (_hi : i ≤ s.size) (hs : s.size ≤ 140737488355328) (w : World) (hc : (chr s i == 37) = false) (h1 : rdItem s i = none) :
    Calls Try.prog 41 #[.string s, .int .i64 i] w fun e w' => e = .returned (mbV (rdMember s i)) ∧ Below w.heap.size w w' := by
  have hn37 : ¬ chr s i = 37 := beq_eq_false_iff_ne.1 hc
  have HF := (show Hid (rdMember s i = .inr (i, 6)) from (by show rdMember s i = _; unfold rdMember; rw [if_neg hn37, h1]))
  clear hn37
  obtain ⟨q1, q2, q3⟩ := boxes2 w
  have HH := (show Hid _ from q1)
  have HG := (show Hid _ from q2)
  have HR := (show Hid _ from q3)
  clear q1 q2 q3
  go_enter Try.func41, Try.ntmps41
  go_wp2_with fail
  refine (standsAt_any s i 37 (by omega) _).mono ?_
  rintro e w1 ⟨rfl, rfl⟩
  rw [hc]
  clear hc
  go_wp2_with fail
  refine (readItem_any s i hs _).mono ?_
  rintro e w1 ⟨rfl, rfl⟩
  rw [h1]
  dsimp only [itV]
  clear h1
  go_wp2
  rw [HF.out]
  refine bodyPost_ret (v := mbV (.inr (i, 6))) (by simp [results, Try.results41, go_sem, mbV, wd_zero, *]) rfl ⟨rfl, ?_⟩
  exact ((Below.refl _ _).alloc (Nat.le_refl _) _).alloc (by simp) _

set_option maxRecDepth 100000 in
set_option maxHeartbeats 1000000 in
theorem member_one (s : ByteArray) (i : Nat) (_hi : i ≤ s.size) (hs : s.size ≤ 140737488355328) (w : World) (hc : (chr s i == 37) = false) (lo n : Nat) (h1 : rdItem s i = some (lo, n)) (h2 : (chr s n == 45) = false) :
    Calls Try.prog 41 #[.string s, .int .i64 i] w fun e w' => e = .returned (mbV (rdMember s i)) ∧ Below w.heap.size w w' := by
  have hn37 : ¬ chr s i = 37 := beq_eq_false_iff_ne.1 hc
  have HF := (show Hid (rdMember s i = .inl (spn lo lo, n)) from (by show rdMember s i = _; unfold rdMember; rw [if_neg hn37, h1]; exact if_neg (beq_eq_false_iff_ne.1 h2)))
  obtain ⟨b1, b2, b3⟩ := rdItem_bd h1
  clear hn37
  obtain ⟨q1, q2, q3⟩ := boxes2 w
  have HH := (show Hid _ from q1)
  have HG := (show Hid _ from q2)
  have HR := (show Hid _ from q3)
  clear q1 q2 q3
  go_enter Try.func41, Try.ntmps41
  go_wp2_with fail
  refine (standsAt_any s i 37 (by omega) _).mono ?_
  rintro e w1 ⟨rfl, rfl⟩
  rw [hc]
  clear hc
  go_wp2_with fail
  refine (readItem_any s i hs _).mono ?_
  rintro e w1 ⟨rfl, rfl⟩
  rw [h1]
  dsimp only [itV]
  clear h1
  go_wp2_with fail
  refine (standsAt_any s n 45 (by omega) _).mono ?_
  rintro e w1 ⟨rfl, rfl⟩
  rw [h2]
  clear h2
  go_wp2_with fail
  refine (bytesFrom_any lo lo _ (by omega) (by omega) (by omega)).mono ?_
  rintro e w1 ⟨rfl, hb1⟩
  have hl : w.heap.size + 1 < w1.heap.size := by have h := hb1.size; simp at h; omega
  have HR1 := (show Hid _ from HR.out.trans (hb1.mono (by simp; omega)))
  obtain ⟨_, g0, g1, k0, k1⟩ := HG.out.below hb1 (by simp)
  obtain ⟨_, c0, c1, c2, c3, f0, f1, f2, f3⟩ := HH.out.below hb1 (by simp; omega)
  clear hb1 HH HG HR
  generalize spn lo lo = y at *
  go_wp2
  rw [HF.out]
  refine bodyPost_ret (v := mbV (.inl (y, n))) (by simp [results, Try.results41, go_sem, mbV, wd_zero, *]) rfl ⟨rfl, ?_⟩
  exact put6_below HR1.out (Nat.le_refl _) (by omega)

set_option maxRecDepth 100000 in
set_option maxHeartbeats 1000000 in
theorem member_hole (s : ByteArray) (i : Nat) (_hi : i ≤ s.size) (hs : s.size ≤ 140737488355328) (w : World) (hc : (chr s i == 37) = false) (lo n : Nat) (h1 : rdItem s i = some (lo, n)) (h2 : (chr s n == 45) = true) (h3 : rdItem s (n + 1) = none) :
    Calls Try.prog 41 #[.string s, .int .i64 i] w fun e w' => e = .returned (mbV (rdMember s i)) ∧ Below w.heap.size w w' := by
  have hn37 : ¬ chr s i = 37 := beq_eq_false_iff_ne.1 hc
  have HF := (show Hid (rdMember s i = .inr ((n + 1), 6)) from (by show rdMember s i = _; unfold rdMember; rw [if_neg hn37, h1]; exact (if_pos (beq_iff_eq.1 h2)).trans (by rw [h3])))
  obtain ⟨b1, b2, b3⟩ := rdItem_bd h1
  clear hn37
  obtain ⟨q1, q2, q3⟩ := boxes2 w
  have HH := (show Hid _ from q1)
  have HG := (show Hid _ from q2)
  have HR := (show Hid _ from q3)
  clear q1 q2 q3
  go_enter Try.func41, Try.ntmps41
  go_wp2_with fail
  refine (standsAt_any s i 37 (by omega) _).mono ?_
  rintro e w1 ⟨rfl, rfl⟩
  rw [hc]
  clear hc
  go_wp2_with fail
  refine (readItem_any s i hs _).mono ?_
  rintro e w1 ⟨rfl, rfl⟩
  rw [h1]
  dsimp only [itV]
  clear h1
  go_wp2_with fail
  refine (standsAt_any s n 45 (by omega) _).mono ?_
  rintro e w1 ⟨rfl, rfl⟩
  rw [h2]
  clear h2
  go_wp2_with fail
  rw [show (n : Int) + 1 = ((n + 1 : Nat) : Int) from by omega]
  refine (readItem_any s (n + 1) hs _).mono ?_
  rintro e w1 ⟨rfl, rfl⟩
  rw [h3]
  dsimp only [itV]
  clear h3
  go_wp2
  rw [HF.out]
  refine bodyPost_ret (v := mbV (.inr ((n + 1), 6))) (by simp [results, Try.results41, go_sem, mbV, wd_zero, *]) rfl ⟨rfl, ?_⟩
  exact ((Below.refl _ _).alloc (Nat.le_refl _) _).alloc (by simp) _

set_option maxRecDepth 100000 in
set_option maxHeartbeats 1000000 in
theorem member_turned (s : ByteArray) (i : Nat) (_hi : i ≤ s.size) (hs : s.size ≤ 140737488355328) (w : World) (hc : (chr s i == 37) = false) (lo n hi_ e_ : Nat) (h1 : rdItem s i = some (lo, n)) (h2 : (chr s n == 45) = true) (h3 : rdItem s (n + 1) = some (hi_, e_)) (h4 : hi_ < lo) :
    Calls Try.prog 41 #[.string s, .int .i64 i] w fun e w' => e = .returned (mbV (rdMember s i)) ∧ Below w.heap.size w w' := by
  have hn37 : ¬ chr s i = 37 := beq_eq_false_iff_ne.1 hc
  have HF := (show Hid (rdMember s i = .inr (i, 1)) from (by show rdMember s i = _; unfold rdMember; rw [if_neg hn37, h1]; exact (if_pos (beq_iff_eq.1 h2)).trans (by rw [h3]; exact if_pos h4)))
  obtain ⟨b1, b2, b3⟩ := rdItem_bd h1
  have h5 : (hi_ : Int) < (lo : Int) := by omega
  clear hn37
  obtain ⟨q1, q2, q3⟩ := boxes2 w
  have HH := (show Hid _ from q1)
  have HG := (show Hid _ from q2)
  have HR := (show Hid _ from q3)
  clear q1 q2 q3
  go_enter Try.func41, Try.ntmps41
  go_wp2_with fail
  refine (standsAt_any s i 37 (by omega) _).mono ?_
  rintro e w1 ⟨rfl, rfl⟩
  rw [hc]
  clear hc
  go_wp2_with fail
  refine (readItem_any s i hs _).mono ?_
  rintro e w1 ⟨rfl, rfl⟩
  rw [h1]
  dsimp only [itV]
  clear h1
  go_wp2_with fail
  refine (standsAt_any s n 45 (by omega) _).mono ?_
  rintro e w1 ⟨rfl, rfl⟩
  rw [h2]
  clear h2
  go_wp2_with fail
  rw [show (n : Int) + 1 = ((n + 1 : Nat) : Int) from by omega]
  refine (readItem_any s (n + 1) hs _).mono ?_
  rintro e w1 ⟨rfl, rfl⟩
  rw [h3]
  dsimp only [itV]
  clear h3
  go_wp2
  rw [HF.out]
  refine bodyPost_ret (v := mbV (.inr (i, 1))) (by simp [results, Try.results41, go_sem, mbV, wd_zero, *]) rfl ⟨rfl, ?_⟩
  exact ((Below.refl _ _).alloc (Nat.le_refl _) _).alloc (by simp) _

set_option maxRecDepth 100000 in
set_option maxHeartbeats 1000000 in
theorem member_span (s : ByteArray) (i : Nat) (_hi : i ≤ s.size) (hs : s.size ≤ 140737488355328) (w : World) (hc : (chr s i == 37) = false) (lo n hi_ e_ : Nat) (h1 : rdItem s i = some (lo, n)) (h2 : (chr s n == 45) = true) (h3 : rdItem s (n + 1) = some (hi_, e_)) (h4 : ¬ hi_ < lo) :
    Calls Try.prog 41 #[.string s, .int .i64 i] w fun e w' => e = .returned (mbV (rdMember s i)) ∧ Below w.heap.size w w' := by
  have hn37 : ¬ chr s i = 37 := beq_eq_false_iff_ne.1 hc
  have HF := (show Hid (rdMember s i = .inl (spn lo hi_, e_)) from (by show rdMember s i = _; unfold rdMember; rw [if_neg hn37, h1]; exact (if_pos (beq_iff_eq.1 h2)).trans (by rw [h3]; exact if_neg h4)))
  obtain ⟨b1, b2, b3⟩ := rdItem_bd h1
  obtain ⟨d1, d2, d3⟩ := rdItem_bd h3
  have h5 : ¬ (hi_ : Int) < (lo : Int) := by omega
  clear hn37
  obtain ⟨q1, q2, q3⟩ := boxes2 w
  have HH := (show Hid _ from q1)
  have HG := (show Hid _ from q2)
  have HR := (show Hid _ from q3)
  clear q1 q2 q3
  go_enter Try.func41, Try.ntmps41
  go_wp2_with fail
  refine (standsAt_any s i 37 (by omega) _).mono ?_
  rintro e w1 ⟨rfl, rfl⟩
  rw [hc]
  clear hc
  go_wp2_with fail
  refine (readItem_any s i hs _).mono ?_
  rintro e w1 ⟨rfl, rfl⟩
  rw [h1]
  dsimp only [itV]
  clear h1
  go_wp2_with fail
  refine (standsAt_any s n 45 (by omega) _).mono ?_
  rintro e w1 ⟨rfl, rfl⟩
  rw [h2]
  clear h2
  go_wp2_with fail
  rw [show (n : Int) + 1 = ((n + 1 : Nat) : Int) from by omega]
  refine (readItem_any s (n + 1) hs _).mono ?_
  rintro e w1 ⟨rfl, rfl⟩
  rw [h3]
  dsimp only [itV]
  clear h3
  go_wp2_with fail
  refine (bytesFrom_any lo hi_ _ (by omega) (by omega) (by omega)).mono ?_
  rintro e w1 ⟨rfl, hb1⟩
  have hl : w.heap.size + 1 < w1.heap.size := by have h := hb1.size; simp at h; omega
  have HR1 := (show Hid _ from HR.out.trans (hb1.mono (by simp; omega)))
  obtain ⟨_, g0, g1, k0, k1⟩ := HG.out.below hb1 (by simp)
  obtain ⟨_, c0, c1, c2, c3, f0, f1, f2, f3⟩ := HH.out.below hb1 (by simp; omega)
  clear hb1 HH HG HR
  generalize spn lo hi_ = y at *
  go_wp2
  rw [HF.out]
  refine bodyPost_ret (v := mbV (.inl (y, e_))) (by simp [results, Try.results41, go_sem, mbV, wd_zero, *]) rfl ⟨rfl, ?_⟩
  exact put6_below HR1.out (Nat.le_refl _) (by omega)

theorem readMember_any (s : ByteArray) (i : Nat) (hi : i ≤ s.size) (hs : s.size ≤ 140737488355328) (w : World) :
    Calls Try.prog 41 #[.string s, .int .i64 i] w fun e w' => e = .returned (mbV (rdMember s i)) ∧ Below w.heap.size w w' := by
  cases hc : (chr s i == 37)
  · cases h1 : rdItem s i with
    | none => exact member_none s i hi hs w hc h1
    | some p =>
      obtain ⟨lo, n⟩ := p
      cases h2 : (chr s n == 45)
      · exact member_one s i hi hs w hc lo n h1 h2
      · cases h3 : rdItem s (n + 1) with
        | none => exact member_hole s i hi hs w hc lo n h1 h2 h3
        | some p =>
          obtain ⟨hi_, e_⟩ := p
          by_cases h4 : hi_ < lo
          · exact member_turned s i hi hs w hc lo n hi_ e_ h1 h2 h3 h4
          · exact member_span s i hi hs w hc lo n hi_ e_ h1 h2 h3 h4
  · exact member_class s i hi hs w hc
end Go.Proofs.Ytlcmlipldkpliab
