/- DERIVED. Walks: readMembers, by the program. -/
import Derived.Test.YtlcmlipldkpliabRdC
import Derived.Test.YtlcmlipldkpliabOps
namespace Go.Proofs.Ytlcmlipldkpliab
open Go.RowKit

theorem rdMembers_end {s : ByteArray} {f : Nat} {x : BitVec 256} {k : Nat} (h : chr s k = 93) : rdMembers s (f + 1) x k = .inl (x, k) := by
  unfold rdMembers; rw [if_pos h]
theorem rdMembers_err {s : ByteArray} {f : Nat} {x : BitVec 256} {k a : Nat} {c : Int} (h : ¬ chr s k = 93) (h1 : rdMember s k = .inr (a, c)) : rdMembers s (f + 1) x k = .inr (a, c) := by
  rw [rdMembers, if_neg h, h1]
theorem rdMembers_step {s : ByteArray} {f : Nat} {x y : BitVec 256} {k n : Nat} (h : ¬ chr s k = 93) (h1 : rdMember s k = .inl (y, n)) : rdMembers s (f + 1) x k = rdMembers s f (x ||| y) n := by
  rw [rdMembers, if_neg h, h1]

theorem rdMember_code {s : ByteArray} {i a : Nat} {c : Int} (h : rdMember s i = .inr (a, c)) : (c != 0) = true ∧ a ≤ s.size + i + 1 := by
  unfold rdMember at h
  split at h
  · unfold rdClass at h
    split at h
    · simp at h
    · simp only [Sum.inr.injEq, Prod.mk.injEq] at h; obtain ⟨rfl, rfl⟩ := h; exact ⟨rfl, by omega⟩
  · split at h
    · simp only [Sum.inr.injEq, Prod.mk.injEq] at h; obtain ⟨rfl, rfl⟩ := h; exact ⟨rfl, by omega⟩
    · rename_i lo m hm
      have b1 := rdItem_bd hm
      split at h
      · split at h
        · simp only [Sum.inr.injEq, Prod.mk.injEq] at h; obtain ⟨rfl, rfl⟩ := h; exact ⟨rfl, by omega⟩
        · split at h
          · simp only [Sum.inr.injEq, Prod.mk.injEq] at h; obtain ⟨rfl, rfl⟩ := h; exact ⟨rfl, by omega⟩
          · simp at h
      · simp at h
theorem rdMembers_code {s : ByteArray} : ∀ {f : Nat} {x : BitVec 256} {i a : Nat} {c : Int}, rdMembers s f x i = .inr (a, c) → (c != 0) = true := by
  intro f
  induction f with
  | zero => intro x i a c h; simp only [rdMembers, Sum.inr.injEq, Prod.mk.injEq] at h; obtain ⟨rfl, rfl⟩ := h; rfl
  | succ f ih =>
    intro x i a c h
    by_cases hc : chr s i = 93
    · rw [rdMembers_end hc] at h; simp at h
    · cases hm : rdMember s i with
      | inr pq =>
        obtain ⟨a', c'⟩ := pq
        rw [rdMembers_err hc hm] at h; simp only [Sum.inr.injEq, Prod.mk.injEq] at h; obtain ⟨rfl, rfl⟩ := h; exact (rdMember_code hm).1
      | inl p => obtain ⟨y, n⟩ := p; rw [rdMembers_step hc hm] at h; exact ih h
theorem rdMembers_ok {s : ByteArray} : ∀ {f : Nat} {x y : BitVec 256} {i n : Nat}, rdMembers s f x i = .inl (y, n) → i ≤ n ∧ n < s.size ∧ chr s n = 93 := by
  intro f
  induction f with
  | zero => intro x y i n h; simp [rdMembers] at h
  | succ f ih =>
    intro x y i n h
    by_cases hc : chr s i = 93
    · rw [rdMembers_end hc] at h; simp only [Sum.inl.injEq, Prod.mk.injEq] at h; obtain ⟨rfl, rfl⟩ := h; exact ⟨by omega, chr_lt (by omega), hc⟩
    · cases hm : rdMember s i with
      | inr pq =>
        obtain ⟨a', c'⟩ := pq
        rw [rdMembers_err hc hm] at h; simp at h
      | inl p => obtain ⟨y, n⟩ := p; have b := rdMember_bd hm; rw [rdMembers_step hc hm] at h; have b2 := ih h; exact ⟨by omega, b2.2⟩

/-- The three boxes: a set, a fault, the set that is gathered. -/
theorem boxes3 (w : World) : Holds (((w.alloc z4).alloc fz).alloc z4) w.heap.size 0#256 ∧ FHolds (((w.alloc z4).alloc fz).alloc z4) (w.heap.size + 1) 0 0 ∧ Holds (((w.alloc z4).alloc fz).alloc z4) (w.heap.size + 1 + 1) 0#256 ∧ Below w.heap.size w (((w.alloc z4).alloc fz).alloc z4) := by
  obtain ⟨h1, h2, h3⟩ := boxes2 w
  have hs : ((w.alloc z4).alloc fz).heap.size = w.heap.size + 1 + 1 := by simp
  refine ⟨h1.alloc _, h2.below (B := w.heap.size + 1 + 1) ((Below.refl _ _).alloc (by rw [hs]; exact Nat.le_refl _) _) (by omega), ?_, h3.alloc (by rw [hs]; omega) _⟩
  have h := Holds.zero ((w.alloc z4).alloc fz)
  rw [hs] at h
  exact h
/-- What holds of the boxes while members are read. -/
structure AtM (w wr : World) (x : BitVec 256) : Prop where
  h1 : Holds wr w.heap.size 0#256
  h2 : FHolds wr (w.heap.size + 1) 0 0
  h3 : Holds wr (w.heap.size + 1 + 1) x
  hb : Below w.heap.size w wr
theorem AtM.below {B : Nat} {w wr w1 : World} {x : BitVec 256} (h : AtM w wr x) (hb : Below B wr w1) (hB : w.heap.size + 1 + 1 < B) : AtM w w1 x :=
  ⟨h.h1.below hb (by omega), h.h2.below hb (by omega), h.h3.below hb hB, h.hb.trans (hb.mono (by omega))⟩

theorem FHolds.put_other {w : World} {b c : Nat} {p q : Int} (h : FHolds w c p q) (hne : c ≠ b) (y : BitVec 256) : FHolds (put4 w b y) c p q := by
  obtain ⟨lt, c0, c1, f0, f1⟩ := h
  constructor <;> simp [go_sem, *]
theorem AtM.put {w wr : World} {x : BitVec 256} (h : AtM w wr x) (y : BitVec 256) : AtM w (put4 wr (w.heap.size + 1 + 1) y) y :=
  ⟨h.h1.put_other (by omega) y, h.h2.put_other (by omega) y, h.h3.put y, put4_below h.hb (by omega) y⟩

set_option maxRecDepth 100000 in
set_option maxHeartbeats 2000000 in
theorem readMembers_any (s : ByteArray) (i : Nat) (hi : i ≤ s.size) (hs : s.size ≤ 140737488355328) (w : World) :
    Calls Try.prog 34 #[.string s, .int .i64 i] w fun e w' => e = .returned (mbV (rdMembers s (s.size + 1) 0#256 i)) ∧ Below w.heap.size w w' := by
  obtain ⟨q1, q2, q3, q4⟩ := boxes3 w
  have HA := (show Hid (AtM w (((w.alloc z4).alloc fz).alloc z4) 0#256) from ⟨q1, q2, q3, q4⟩)
  clear q1 q2 q3 q4
  generalize hR : rdMembers s (s.size + 1) 0#256 i = R
  have HR := (show Hid _ from hR)
  clear hR
  go_enter Try.func34, Try.ntmps34
  go_wp2_with fail
  go_loopw [1] (fun t wr => ∃ k : Nat, ∃ f : Nat, ∃ x : BitVec 256, k ≤ s.size ∧ t = .int .i64 k ∧ Hid (s.size + 1 ≤ f + k) ∧ Hid (rdMembers s f x k = R) ∧ Hid (AtM w wr x)) (fun t _ => s.size - (intOf t).toNat)
  case atStart => exact ⟨i, s.size + 1, 0#256, hi, rfl, show _ ≤ _ by omega, HR, HA⟩
  case round =>
    obtain ⟨k, f, x, hk, rfl, hf, hr, ha⟩ := hrel
    obtain ⟨g, rfl⟩ : ∃ g, f = g + 1 := ⟨f - 1, by have h := hf.out; omega⟩
    clear HA HR
    go_wp2_with fail
    refine (standsAt_any s k 93 (by omega) _).mono ?_
    rintro e w1 ⟨rfl, rfl⟩
    cases hc : (chr s k == 93)
    · have hn : ¬ chr s k = 93 := beq_eq_false_iff_ne.1 hc
      cases hm : rdMember s k with
      | inl p =>
        obtain ⟨y, n⟩ := p
        obtain ⟨b1, b2⟩ := rdMember_bd hm
        have hr' := (show Hid (rdMembers s g (x ||| y) n = R) from ((rdMembers_step hn hm).symm.trans hr.out))
        have hf' := (show Hid (s.size + 1 ≤ g + n) from (by have h := hf.out; show _ ≤ _; omega))
        have HM := (show Hid _ from hm)
        clear hn hm hc hr hf
        go_wp2_with fail
        refine (readMember_any s k hk hs _).mono ?_
        rintro e w1 ⟨rfl, hb1⟩
        rw [HM.out]
        dsimp only [mbV]
        have HA1 := (show Hid _ from ha.out.below hb1 ha.out.h3.lt)
        clear hb1 ha HM
        have hl : w.heap.size + 1 + 1 < w1.heap.size := HA1.out.h3.lt
        have HA2 := (show Hid (AtM w ((w1.alloc (c4 y)).alloc fz) x) from HA1.out.below (B := w1.heap.size) (((Below.refl _ _).alloc (Nat.le_refl _) _).alloc (by simp) _) hl)
        clear HA1
        obtain ⟨_, c0, c1, c2, c3, f0, f1, f2, f3⟩ := HA2.out.h3
        go_wp2_with fail
        refine (union_any x y _).mono ?_
        rintro e w2 ⟨rfl, hb2⟩
        have HA3 := (show Hid _ from HA2.out.below hb2 HA2.out.h3.lt)
        clear HA2 hb2 c0 c1 c2 c3 f0 f1 f2 f3
        obtain ⟨_, c0, c1, c2, c3, f0, f1, f2, f3⟩ := HA3.out.h3
        go_wp2_with fail
        go_roundw
        case rel =>
          exact ⟨n, g, x ||| y, b2, rfl, hf', hr', HA3.out.put (x ||| y)⟩
        case measure => simp [intOf]; omega
      | inr pq =>
        obtain ⟨a, c⟩ := pq
        have hr' := (show Hid (R = .inr (a, c)) from (hr.out.symm.trans (rdMembers_err hn hm)))
        have HM := (show Hid _ from hm)
        have hcn := (rdMember_code hm).1
        clear hn hm hc hr hf
        go_wp2_with fail
        refine (readMember_any s k hk hs _).mono ?_
        rintro e w1 ⟨rfl, hb1⟩
        rw [HM.out]
        dsimp only [mbV]
        have HA1 := (show Hid _ from ha.out.below hb1 ha.out.h3.lt)
        clear hb1 ha HM
        have hl : w.heap.size + 1 + 1 < w1.heap.size := HA1.out.h3.lt
        have HA2 := (show Hid (AtM w ((w1.alloc (c4 0#256)).alloc (.cells #[.int .i64 (a : Int), .int .i64 c] 34)) x) from HA1.out.below (B := w1.heap.size) (((Below.refl _ _).alloc (Nat.le_refl _) _).alloc (by simp) _) hl)
        clear HA1
        obtain ⟨_, c0, c1, c2, c3, f0, f1, f2, f3⟩ := HA2.out.h1
        obtain ⟨_, d0, d1, g0, g1⟩ := HA2.out.h2
        go_wp2_with fail
        go_region
        all_goals
          go_wp2
          rw [hr'.out]
          have HB2 := HA2.out.hb
          simp only [c4, wd_zero] at c0 c1 c2 c3 f0 f1 f2 f3 d0 d1 g0 g1 HB2 ⊢
          refine bodyPost_ret (v := mbV (.inr (a, c))) (by simp [results, Try.results34, go_sem, mbV, wd_zero, *]) rfl ⟨rfl, ?_⟩
          first | exact (put6_below HB2 (Nat.le_refl _) (by omega)).drew | exact put6_below HB2 (Nat.le_refl _) (by omega)
    · have he : chr s k = 93 := beq_iff_eq.1 hc
      have hr' := (show Hid (R = .inl (x, k)) from (hr.out.symm.trans (rdMembers_end he)))
      clear he hr hf hc
      have hl : w.heap.size + 1 + 1 < w1.heap.size := ha.out.h3.lt
      obtain ⟨_, c0, c1, c2, c3, f0, f1, f2, f3⟩ := ha.out.h1
      obtain ⟨_, d0, d1, g0, g1⟩ := ha.out.h2
      obtain ⟨_, e0, e1, e2, e3, k0, k1, k2, k3⟩ := ha.out.h3
      go_wp2_with fail
      rw [hr'.out]
      refine bodyPost_ret (v := mbV (.inl (x, k))) (by simp [results, Try.results34, go_sem, mbV, wd_zero, *]) rfl ⟨rfl, ?_⟩
      exact put6_below ha.out.hb (Nat.le_refl _) (by omega)
end Go.Proofs.Ytlcmlipldkpliab
