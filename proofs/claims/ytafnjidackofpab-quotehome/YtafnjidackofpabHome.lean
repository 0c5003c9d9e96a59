/- DERIVED. Plain: from a place to its line and column and back; the law QuoteHome, walked. -/
import Derived.Test.YtafnjidackofpabPlI
import Derived.Test.YtafnjidackofpabSpC
import Derived.Test.YtafnjidackofpabRdC
namespace Go.Proofs.Ytafnjidackofpab
open Go.RowKit

theorem spC_lex (s : ByteArray) (d p l c : Nat) (hd : s.size - p ≤ d) : ∀ y ∈ spC s p l c, l < y.2.1 ∨ (l = y.2.1 ∧ c ≤ y.2.2) := by
  induction d generalizing p l c with
  | zero => intro y hy; rw [spC_end (by omega), List.mem_singleton] at hy; subst hy; exact .inr ⟨rfl, Nat.le_refl _⟩
  | succ d ih =>
    intro y hy
    by_cases h : p < s.size
    · have hw := chW_bd s p
      rw [spC_next h, List.mem_cons] at hy
      rcases hy with rfl | hy
      · exact .inr ⟨rfl, Nat.le_refl _⟩
      · have := ih (p + chW s p) (lnN s p l) (coN s p c) (by omega) y hy
        unfold lnN coN at this
        split at this <;> omega
    · rw [spC_end h, List.mem_singleton] at hy; subst hy; exact .inr ⟨rfl, Nat.le_refl _⟩

theorem home_from (s : ByteArray) (m d p l c : Nat) (hd : s.size - p ≤ d) (hp : p ≤ m) (hm : m ≤ s.size) :
    ∃ x, lastOf (tw m (spC s p l c)) = x ∧ x ∈ spC s p l c ∧ p ≤ x.1 ∧ x.1 ≤ m ∧ m ≤ x.1 + 3 ∧ lastOf (tw x.1 (spC s p l c)) = x ∧ (spC s p l c).find? (atB (x.2.1 : Int) (x.2.2 : Int)) = some x := by
  have self : ∀ (q l c : Nat), atB (l : Int) (c : Int) (q, l, c) = true := fun q l c => decide_eq_true ⟨rfl, rfl⟩
  induction d generalizing p l c with
  | zero =>
    have e : m = p := by omega
    have e2 : p = s.size := by omega
    have hs : spC s p l c = [(p, l, c)] := by rw [spC_end (by omega), e2]
    refine ⟨(p, l, c), ?_, ?_, Nat.le_refl _, hp, by dsimp only; omega, ?_, ?_⟩
    · rw [hs, tw_yes hp]; rfl
    · rw [hs]; exact List.mem_singleton.2 rfl
    · rw [hs, tw_yes (Nat.le_refl _)]; rfl
    · rw [hs, find_yes (self p l c)]
  | succ d ih =>
    by_cases h : p < s.size
    · have hw := chW_bd s p
      have hle := chW_le h
      by_cases hpm : p + chW s p ≤ m
      · obtain ⟨x, x1, x2, x3, x4, x5, x6, x7⟩ := ih (p + chW s p) (lnN s p l) (coN s p c) (by omega) hpm
        obtain ⟨r, hr⟩ := tw_head (l := lnN s p l) (c := coN s p c) hle hpm
        obtain ⟨r2, hr2⟩ := tw_head (m := x.1) (l := lnN s p l) (c := coN s p c) hle x3
        refine ⟨x, ?_, ?_, by omega, x4, x5, ?_, ?_⟩
        · rw [spC_next h, tw_yes hp, hr, lastOf_more, ← hr, x1]
        · rw [spC_next h]; exact List.mem_cons_of_mem _ x2
        · rw [spC_next h, tw_yes (show p ≤ x.1 by omega), hr2, lastOf_more, ← hr2, x6]
        · have hlex := spC_lex s _ _ _ _ (Nat.le_refl _) x x2
          rw [spC_next h, find_no, x7]
          refine decide_eq_false (fun q => ?_)
          have q1 := q.1
          have q2 := q.2
          dsimp only at q1 q2
          unfold lnN coN at hlex
          split at hlex <;> omega
      · refine ⟨(p, l, c), ?_, ?_, Nat.le_refl _, hp, by dsimp only; omega, ?_, ?_⟩
        · rw [spC_next h, tw_yes hp, tw_none hle (by omega)]; rfl
        · rw [spC_next h]; exact List.mem_cons_self ..
        · rw [spC_next h, tw_yes (Nat.le_refl _), tw_none hle (by dsimp only; omega)]; rfl
        · rw [spC_next h, find_yes (self p l c)]
    · have e : m = p := by omega
      have e2 : p = s.size := by omega
      have hs : spC s p l c = [(p, l, c)] := by rw [spC_end (by omega), e2]
      refine ⟨(p, l, c), ?_, ?_, Nat.le_refl _, hp, by dsimp only; omega, ?_, ?_⟩
      · rw [hs, tw_yes hp]; rfl
      · rw [hs]; exact List.mem_singleton.2 rfl
      · rw [hs, tw_yes (Nat.le_refl _)]; rfl
      · rw [hs, find_yes (self p l c)]
theorem home_plain (s : ByteArray) (m : Nat) (hm : m ≤ s.size) : ∃ q l c : Nat, plP s m = (q, l, c) ∧ q ≤ m ∧ m ≤ q + 3 ∧ plP s q = (q, l, c) ∧ atP s (l : Int) (c : Int) = some (q, l, c) := by
  obtain ⟨⟨q, l, c⟩, x1, x2, x3, x4, x5, x6, x7⟩ := home_from s m _ 0 1 1 (Nat.le_refl _) (Nat.zero_le _) hm
  exact ⟨q, l, c, x1, x4, x5, x6, x7⟩

set_option maxRecDepth 100000 in
set_option maxHeartbeats 4000000 in
theorem home_bad (s : ByteArray) (i : Int) (h : cpE s i ≠ 0) (w : World) :
    Calls Try.prog 3 #[.string s, .int .i64 i] w fun e w' => e = .returned (.bool true) ∧ Below w.heap.size w w' := by
  have HP : Hid (∀ w, Calls Try.prog 5 #[.string s, .int .i64 i] w fun e w' => e = .returned (.tuple #[.int .i64 0, .int .i64 0, .int .i64 (cpE s i)]) ∧ Below w.heap.size w w') := fun w => by
    have h2 := place_any s i w
    rw [show placeV s i = .tuple #[.int .i64 0, .int .i64 0, .int .i64 (cpE s i)] from by unfold placeV; rw [if_neg h]] at h2
    exact h2
  have hc : (65536 : Int) < (s.size : Int) ∨ (¬ (65536 : Int) < (s.size : Int) ∧ i < 0) ∨ (¬ (65536 : Int) < (s.size : Int) ∧ ¬ i < 0 ∧ (s.size : Int) < i) := by
    by_cases h1 : 65536 < s.size
    · exact .inl (by omega)
    · by_cases h2 : i < 0 ∨ (s.size : Int) < i
      · omega
      · exact absurd (by unfold cpE; rw [if_neg h1, if_neg h2]) h
  have ec : (cpE s i != 0) = true := bne_iff_ne.2 h
  clear h
  generalize cpE s i = c at *
  rcases hc with h1 | ⟨h1, h2⟩ | ⟨h1, h2, h3⟩
  all_goals
    go_enter Try.func3, Try.ntmps3
    go_wp2_with fail
    refine (HP.out _).mono ?_
    rintro e w1 ⟨rfl, hb1⟩
    go_wp2_with fail
    refine (lives_any _).mono ?_
    rintro e w2 ⟨rfl, hb2⟩
    have HB := (show Hid _ from hb1.trans (hb2.mono hb1.size))
    clear hb1 hb2
    go_wp2_with fail
    go_ret
    exact ⟨rfl, HB.out⟩

set_option maxRecDepth 100000 in
set_option maxHeartbeats 4000000 in
theorem home_ok (s : ByteArray) (m : Nat) (hs : s.size ≤ 65536) (hm : m ≤ s.size) (w : World) :
    Calls Try.prog 3 #[.string s, .int .i64 m] w fun e w' => e = .returned (.bool true) ∧ Below w.heap.size w w' := by
  obtain ⟨q, l, c, h1, h2, h3, h4, h5⟩ := home_plain s m hm
  have key : ∀ (k : Nat), k ≤ s.size → plP s k = (q, l, c) → ∀ w, Calls Try.prog 5 #[.string s, .int .i64 k] w fun e w' => e = .returned (.tuple #[.int .i64 (l : Int), .int .i64 (c : Int), .int .i64 0]) ∧ Below w.heap.size w w' := fun k hk e w => by
    have h := place_any s k w
    rw [show placeV s (k : Int) = .tuple #[.int .i64 (l : Int), .int .i64 (c : Int), .int .i64 0] from by
      unfold placeV
      rw [if_pos (by unfold cpE; rw [if_neg (by omega), if_neg (by omega)]), Int.toNat_natCast, e]; rfl] at h
    exact h
  have H1 := (show Hid _ from (key m hm h1))
  have H2 := (show Hid _ from (key q (by omega) h4))
  have HA : Hid (∀ w, Calls Try.prog 7 #[.string s, .int .i64 (l : Int), .int .i64 (c : Int)] w fun e w' => e = .returned (.tuple #[.int .i64 (q : Int), .int .i64 0]) ∧ Below w.heap.size w w') := fun w => by
    have h := at_any s l c w
    rw [show atVV s (l : Int) (c : Int) = .tuple #[.int .i64 (q : Int), .int .i64 0] from by
      unfold atVV; rw [if_neg (by omega), h5]; rfl] at h
    exact h
  clear h1 h4 h5 key
  have z1 : ¬ (m : Int) < (q : Int) := by omega
  have z2 : ¬ 3 < (m : Int) - (q : Int) := by omega
  go_enter Try.func3, Try.ntmps3
  go_wp2_with fail
  refine (H1.out _).mono ?_
  rintro e w1 ⟨rfl, hb1⟩
  go_wp2_with fail
  refine (HA.out _).mono ?_
  rintro e w2 ⟨rfl, hb2⟩
  go_wp2_with fail
  refine (H2.out _).mono ?_
  rintro e w3 ⟨rfl, hb3⟩
  go_wp2_with fail
  refine (lives_any _).mono ?_
  rintro e w4 ⟨rfl, hb4⟩
  have HB2 := hb1.trans (hb2.mono hb1.size)
  have HB3 := HB2.trans (hb3.mono HB2.size)
  have HB := (show Hid _ from HB3.trans (hb4.mono HB3.size))
  clear hb1 hb2 hb3 hb4 HB2 HB3
  go_wp2_with fail
  go_ret
  exact ⟨rfl, HB.out⟩

theorem home_any (s : ByteArray) (i : Int) (w : World) :
    Calls Try.prog 3 #[.string s, .int .i64 i] w fun e w' => e = .returned (.bool true) ∧ Below w.heap.size w w' := by
  by_cases h : cpE s i = 0
  · have hc : ¬ 65536 < s.size ∧ ¬ (i < 0 ∨ (s.size : Int) < i) := by
      unfold cpE at h; split at h
      · omega
      · split at h
        · omega
        · next a b => exact ⟨a, b⟩
    obtain ⟨n, rfl⟩ := Int.eq_ofNat_of_zero_le (show 0 ≤ i by omega)
    exact home_ok s n (by omega) (by omega) w
  · exact home_bad s i h w
end Go.Proofs.Ytafnjidackofpab
