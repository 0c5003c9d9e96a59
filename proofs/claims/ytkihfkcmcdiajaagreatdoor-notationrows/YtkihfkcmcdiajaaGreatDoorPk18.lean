/- DERIVED. Plain mathematics and walks, laid together (18). -/
import Derived.Deep.WholeRow
import Derived.Deep.MidRow
import Derived.BigQuiet
import Derived.Lib.Builder
import Derived.RangeFuncBox
import Derived.Laws.OwnMore
import Derived.Deep.RegionHeld3
import Derived.Test.YtkihfkcmcdiajaaGreatDoorPk17
namespace Go.Proofs.YtkihfkcmcdiajaaGreatDoor
open Go.RowKit
/-- A byte that lengthens no token. -/
def stopB (c : Int) : Bool := !(nmB c) && !(c == 58) && !(c == 123) && !(c == 124) && !(c == 126)
/-- What stands behind a token, here and there. -/
def Fol (s : ByteArray) (e : Nat) (s' : ByteArray) (e' : Nat) : Prop :=
  stopB (chr s' e') = true ∨ (chr s' e' = chr s e ∧ (hdB (chr s e) = true → ∃ r, spN nmB s e = e + r ∧ spN nmB s' e' = e' + r ∧ (chr s' (e' + r) = 58 → chr s (e + r) = 58)))
theorem stop_facts {c : Int} (h : stopB c = true) : nmB c = false ∧ c ≠ 58 ∧ c ≠ 123 ∧ c ≠ 124 ∧ c ≠ 126 := by
  unfold stopB at h
  simp only [Bool.and_eq_true, Bool.not_eq_true', beq_eq_false_iff_ne] at h
  exact ⟨h.1.1.1.1, h.1.1.1.2, h.1.1.2, h.1.2, h.2⟩
theorem dg_nm {c : Int} (h : nmB c = false) : dgB c = false ∧ hdB c = false := by
  unfold nmB at h
  rw [Bool.or_eq_false_iff] at h
  exact ⟨h.2, h.1⟩
theorem Fol.nm {s s' : ByteArray} {e e' : Nat} (h : Fol s e s' e') (q : nmB (chr s e) = false) : nmB (chr s' e') = false := by
  rcases h with h | ⟨h, _⟩
  · exact (stop_facts h).1
  · rw [h]; exact q
theorem Fol.dg {s s' : ByteArray} {e e' : Nat} (h : Fol s e s' e') (q : dgB (chr s e) = false) : dgB (chr s' e') = false := by
  rcases h with h | ⟨h, _⟩
  · exact (dg_nm (stop_facts h).1).1
  · rw [h]; exact q
theorem Ag.in {s s' : ByteArray} {b b' m : Nat} (h : Ag s b s' b' m) (hm : 1 ≤ m) (hs : b + m ≤ s.size) : b' + m ≤ s'.size := by
  have h1 := h (m - 1) (by omega)
  have h2 := chr_in (s := s) (i := b + (m - 1)) (by omega)
  have := chr_lt (s := s') (i := b' + (m - 1)) (by rw [h1, h2]; omega)
  omega
theorem wth_move {s s' : ByteArray} {d d' m : Nat} {base : Int} (ha : Ag s d s' d' m) : ∀ k, k ≤ m → wthR s' d' base k = wthR s d base k := by
  intro k
  induction k with
  | zero => intro _; rfl
  | succ k ih => intro hk; rw [wthR, wthR, ih (by omega), ha k (by omega)]
theorem num_move {s s' : ByteArray} {d d' m : Nat} {M n : Int} (h : numR s d M = .inl n) (hm : spN dgB s d = d + m) (ha : Ag s d s' d' m) (hf : dgB (chr s' (d' + m)) = false) : numR s' d' M = .inl n ∧ spN dgB s' d' = d' + m := by
  have h1 := run_move (P := dgB) (by decide) ha hm hf
  have h2 := numR_en h
  have h0 := ha 0 (by omega)
  rw [Nat.add_zero, Nat.add_zero] at h0
  refine ⟨?_, h1⟩
  unfold numR at h ⊢
  rw [h1, show d' + m - d' = m from by omega, h0, wth_move ha m (Nat.le_refl _)]
  rw [hm, show d + m - d = m from by omega] at h
  exact h
theorem nm_move {s s' : ByteArray} {b b' d d' m : Nat} {k : Int} {t : Tk} (h : nmR s b d k = .inl t) (hm : spN dgB s d = d + m) (ha : Ag s d s' d' m) (hf : dgB (chr s' (d' + m)) = false) : nmR s' b' d' k = .inl { t with fr := b', en := (d' + m : Nat) } := by
  unfold nmR at h ⊢
  cases hn : numR s d (gtK k) with
  | inr e => rw [hn] at h; cases h
  | inl n =>
    obtain ⟨h1, h2⟩ := num_move hn hm ha hf
    rw [hn] at h
    cases h
    rw [h1, h2]
theorem name_move {s s' : ByteArray} {b b' m : Nat} {t : Tk} (h : nameR s b = .inl t) (hm : spN nmB s b = b + m) (h1 : 1 ≤ m) (hs : b + m ≤ s.size) (ha : Ag s b s' b' m) (hf : nmB (chr s' (b' + m)) = false) : nameR s' b' = .inl (mvT t b' m) := by
  have h2 := run_move (P := nmB) (by decide) ha hm hf
  have h3 := text_same ha hs (ha.in h1 hs)
  unfold nameR at h ⊢
  rw [hm, show b + m - b = m from by omega] at h
  rw [h2, show b' + m - b' = m from by omega, h3]
  split at h
  · cases h
  · next q => cases h; rw [if_neg q]; rfl
theorem pt_move {s s' : ByteArray} {a a' m : Nat} (h : (ptP s a).2.2 = true) (hm : (ptP s a).2.1 = a + m) (ha : Ag s a s' a' (m + 1)) : ptP s' a' = ((ptP s a).1, a' + m, true) := by
  have hst := (spN_spec hxB s (by decide) _ a rfl).2.2.1
  have hge := spN_ge hxB s (by decide) a
  unfold ptP at h hm ⊢
  split at h
  · cases h
  next q =>
  rw [if_neg q] at hm
  dsimp only at h hm
  rw [hm] at hst q h
  have h1 : spN hxB s' a' = a' + m := run_move (P := hxB) (by decide) (fun k hk => ha k (by omega)) hm (by rw [ha m (by omega)]; exact hst)
  rw [h1, hm, show a' + m - a' = m from by omega, show a + m - a = m from by omega, if_neg (by omega), if_neg (by omega), wth_move (m := m) (fun k hk => ha k (by omega)) m (Nat.le_refl _)]
  rw [show a + m - a = m from by omega] at h
  rw [h]
theorem pts_move {s s' : ByteArray} {b b' m : Nat} {t : Tk} (hb : b + 3 ≤ s.size) (h : ptsP s b = .inl t) (he : t.en = (b + m : Nat)) (ha : Ag s b s' b' m) : ptsP s' b' = .inl (mvT t b' m) := by
  have h1 := ptP_le hb
  unfold ptsP at h ⊢
  split at h
  · cases h
  next q1 =>
  have q1 : (ptP s (b + 3)).2.2 = true := by cases hq : (ptP s (b + 3)).2.2; exact absurd hq q1; rfl
  split at h
  · next h45 =>
    have h2 := chr_lt (s := s) (i := (ptP s (b + 3)).2.1) (by omega)
    have h3 := ptP_le (s := s) (a := (ptP s (b + 3)).2.1 + 1) (by omega)
    split at h
    · cases h
    next q2 =>
    have q3 : (ptP s ((ptP s (b + 3)).2.1 + 1)).2.2 = true := by cases hq : (ptP s ((ptP s (b + 3)).2.1 + 1)).2.2; exact absurd (.inl hq) q2; rfl
    split at h
    · next hc =>
      cases h
      dsimp only at he
      have he : (ptP s ((ptP s (b + 3)).2.1 + 1)).2.1 + 1 = b + m := by omega
      have hA := pt_move (s' := s') (a' := b' + 3) (m := (ptP s (b + 3)).2.1 - (b + 3)) q1 (by omega) (by
        exact ha.sub 3 (by omega))
      have hB := pt_move (s' := s') (a' := b' + ((ptP s (b + 3)).2.1 + 1 - b)) (m := (ptP s ((ptP s (b + 3)).2.1 + 1)).2.1 - ((ptP s (b + 3)).2.1 + 1)) q3 (by omega) (by
        have h7 := ha.sub ((ptP s (b + 3)).2.1 + 1 - b) (m2 := (ptP s ((ptP s (b + 3)).2.1 + 1)).2.1 - ((ptP s (b + 3)).2.1 + 1) + 1) (by omega)
        rwa [show b + ((ptP s (b + 3)).2.1 + 1 - b) = (ptP s (b + 3)).2.1 + 1 from by omega] at h7)
      have e1 : b' + 3 + ((ptP s (b + 3)).2.1 - (b + 3)) = b' + ((ptP s (b + 3)).2.1 - b) := by omega
      have e2 : b' + ((ptP s (b + 3)).2.1 - b) + 1 = b' + ((ptP s (b + 3)).2.1 + 1 - b) := by omega
      rw [hA]
      dsimp only
      rw [e1, e2, hB]
      dsimp only
      rw [if_neg (by decide), ha.at (j := (ptP s (b + 3)).2.1) (by omega) (by omega) rfl, if_pos h45, if_neg (by rw [q3] at q2; simpa using q2)]
      rw [ha.at (j := (ptP s ((ptP s (b + 3)).2.1 + 1)).2.1) (by omega) (by omega) (by omega), if_pos hc]
      unfold mvT
      congr 3
      omega
    · cases h
  · next h45 =>
    split at h
    · next hc =>
      cases h
      dsimp only at he
      have h4 := chr_lt (s := s) (i := (ptP s (b + 3)).2.1) (by omega)
      have he : (ptP s (b + 3)).2.1 + 1 = b + m := by omega
      have hA := pt_move (s' := s') (a' := b' + 3) (m := (ptP s (b + 3)).2.1 - (b + 3)) q1 (by omega) (ha.sub 3 (by omega))
      have e1 : b' + 3 + ((ptP s (b + 3)).2.1 - (b + 3)) = b' + ((ptP s (b + 3)).2.1 - b) := by omega
      rw [hA]
      dsimp only
      rw [e1, if_neg (by decide), ha.at (j := (ptP s (b + 3)).2.1) (by omega) (by omega) rfl, if_neg h45, if_pos hc]
      unfold mvT
      congr 3
      omega
    · cases h
end Go.Proofs.YtkihfkcmcdiajaaGreatDoor

namespace Go.Proofs.YtkihfkcmcdiajaaGreatDoor
open Go.RowKit
theorem sg_one {c0 c1 c1' : Int} (h : (sgC c0 c1).2.length = 1) (h2 : (sgC c0 c1).1 ≠ 13) (hc : c1' = c1 ∨ (c1' ≠ 58 ∧ c1' ≠ 124 ∧ c1' ≠ 126)) : sgC c0 c1' = sgC c0 c1 := by
  rcases hc with rfl | ⟨q1, q2, q3⟩
  · rfl
  unfold sgC at h h2 ⊢
  by_cases h37 : c0 = 37
  · subst h37
    by_cases a101 : c1 = 101 <;> by_cases a102 : c1 = 102 <;> simp_all
  by_cases h94 : c0 = 94
  · subst h94
    by_cases a43 : c1 = 43 <;> by_cases a45 : c1 = 45 <;> simp_all
  by_cases h60 : c0 = 60
  · subst h60
    by_cases a45 : c1 = 45 <;> simp_all
  by_cases h45 : c0 = 45
  · subst h45
    by_cases a62 : c1 = 62 <;> simp_all
  by_cases h47 : c0 = 47
  · subst h47
    simp
  by_cases h38 : c0 = 38
  · subst h38
    simp
  by_cases h33 : c0 = 33
  · subst h33
    simp
  by_cases h63 : c0 = 63
  · subst h63
    simp
  by_cases h42 : c0 = 42
  · subst h42
    simp
  by_cases h43 : c0 = 43
  · subst h43
    simp
  by_cases h40 : c0 = 40
  · subst h40
    simp
  by_cases h41 : c0 = 41
  · subst h41
    simp
  by_cases h46 : c0 = 46
  · subst h46
    simp
  by_cases h123 : c0 = 123
  · subst h123
    by_cases a58 : c1 = 58 <;> by_cases a124 : c1 = 124 <;> by_cases a126 : c1 = 126 <;> simp_all
  by_cases h58 : c0 = 58
  · subst h58
    by_cases a125 : c1 = 125 <;> simp_all
  by_cases h124 : c0 = 124
  · subst h124
    by_cases a125 : c1 = 125 <;> simp_all
  by_cases h126 : c0 = 126
  · subst h126
    by_cases a125 : c1 = 125 <;> simp_all
  by_cases h125 : c0 = 125
  · subst h125
    simp
  simp [*]
theorem sgC_len (c0 c1 : Int) : (sgC c0 c1).1 = 0 ∨ (sgC c0 c1).2.length = 1 ∨ (sgC c0 c1).2.length = 2 := by
  have h : ∀ l : List (Int × List UInt8), (∀ p ∈ l, p.2.length = 1 ∨ p.2.length = 2) → (sgGC c0 c1 l).1 = 0 ∨ (sgGC c0 c1 l).2.length = 1 ∨ (sgGC c0 c1 l).2.length = 2 := by
    intro l
    induction l with
    | nil => intro _; exact .inl rfl
    | cons p l ih =>
      intro h
      rw [sgGC]
      split
      · exact .inr (h p (List.mem_cons_self ..))
      · exact ih (fun q hq => h q (List.mem_cons_of_mem _ hq))
  rw [← sgGC_C]
  exact h sgTab (by decide)
theorem sg21 {c0 c1 : Int} (h : (sgC c0 c1).1 = 21) : (sgC c0 c1).2.length = 2 := by
  have key : ∀ l : List (Int × List UInt8), (∀ p ∈ l, p.1 = 21 → p.2.length = 2) → (sgGC c0 c1 l).1 = 21 → (sgGC c0 c1 l).2.length = 2 := by
    intro l
    induction l with
    | nil => intro _ q; cases q
    | cons p l ih =>
      intro h
      rw [sgGC]
      split
      · exact h p (List.mem_cons_self ..)
      · exact ih (fun q hq => h q (List.mem_cons_of_mem _ hq))
  rw [← sgGC_C] at h ⊢
  exact key sgTab (by decide) h
theorem grp_move {s s' : ByteArray} {b b' d d' m : Nat} {t : Tk} (_hd : d ≤ s.size) (h : grpP s b d = .inl t) (he : t.en = (d + m : Nat)) (ha : Ag s d s' d' m) (hf : Fol s (d + m) s' (d' + m)) : grpP s' b' d' = .inl { t with fr := b', en := (d' + m : Nat) } := by
  unfold grpP at h ⊢
  have hsp := spN_ge nmB s (by decide) d
  split at h
  · next q1 =>
    split at h
    · cases h
    next q2 =>
    split at h
    · next q3 =>
      cases h
      dsimp only at he
      have hlt := chr_lt (s := s) (i := spN nmB s d) (by omega)
      have hm : spN nmB s d + 1 = d + m := by omega
      have hm2 : spN nmB s d = d + (m - 1) := by omega
      have h58 : chr s' (d' + (m - 1)) = 58 := by rw [ha (m - 1) (by omega), ← hm2]; exact q3
      have h1 : spN nmB s' d' = d' + (m - 1) := run_move (P := nmB) (by decide) (fun k hk => ha k (by omega)) hm2 (by rw [h58]; rfl)
      have hnx := (spN_next (P := nmB) (s := s) (i := d) (by decide) (by unfold nmB; rw [q1]; rfl)).2
      have hnx2 := spN_ge nmB s (by decide) (d + 1)
      have h0 := ha 0 (by omega)
      rw [Nat.add_zero, Nat.add_zero] at h0
      have htx : s'.extract d' (d' + (m - 1)) = s.extract d (d + (m - 1)) := text_same (fun k hk => ha k (by omega)) (by omega) (by have := ha.in (by omega) (by omega); omega)
      rw [h0, if_pos q1, h1, show d' + (m - 1) - d' = spN nmB s d - d from by omega, if_neg q2, h58, if_pos rfl, htx, ← hm2, show d' + (m - 1) + 1 = d' + m from by omega]
    · next q3 =>
      cases h
      dsimp only at he
      obtain rfl : m = 0 := by omega
      rw [Nat.add_zero, Nat.add_zero] at hf
      rcases hf with hf | ⟨e0, hr⟩
      · rw [if_neg (by rw [(dg_nm (stop_facts hf).1).2]; decide)]; rfl
      · obtain ⟨r, r1, r2, r3⟩ := hr q1
        rw [e0, if_pos q1, r2, show d' + r - d' = spN nmB s d - d from by omega, if_neg q2, if_neg (fun q => q3 (by rw [r1]; exact r3 q))]
        rfl
  · next q1 =>
    cases h
    dsimp only at he
    obtain rfl : m = 0 := by omega
    rw [Nat.add_zero, Nat.add_zero] at hf
    rcases hf with hf | ⟨e0, hr⟩
    · rw [if_neg (by rw [(dg_nm (stop_facts hf).1).2]; decide)]; rfl
    · rw [e0, if_neg q1]; rfl
theorem sig_move {s s' : ByteArray} {b b' m : Nat} {t : Tk} (hb : b ≤ s.size) (h : sigP s b = .inl t) (he : t.en = (b + m : Nat)) (ha : Ag s b s' b' m) (hf : Fol s (b + m) s' (b' + m)) : sigP s' b' = .inl (mvT t b' m) ∧ (sgAt s' b').1 = (sgAt s b).1 := by
  have hlen := sgAt_len s b hb
  have hpos := sgAt_pos s b
  have h12 := sgC_len (chr s b) (chr s (b + 1))
  rw [← sgAt_C] at h12
  have key : 2 ≤ m → sgAt s' b' = sgAt s b := fun q => by
    have h0 := ha 0 (by omega)
    rw [Nat.add_zero, Nat.add_zero] at h0
    rw [sgAt_C, sgAt_C, h0, ha 1 (by omega)]
  unfold sigP at h
  split at h
  · cases h
  next q0 =>
  split at h
  · next q1 =>
    obtain ⟨e, a1, a2, a3⟩ := nmR_en hlen h
    have hsp : spN dgB s (b + (sgAt s b).2.length) = b + m := by
      unfold nmR at h
      cases hn : numR s (b + (sgAt s b).2.length) (gtK (sgAt s b).1) with
      | inr e => rw [hn] at h; cases h
      | inl n => rw [hn] at h; cases h; dsimp only at he; omega
    have hk := key (by omega)
    refine ⟨?_, by rw [hk]⟩
    unfold sigP
    rw [hk, if_neg q0, if_pos q1]
    have hst := (spN_spec dgB s (by decide) _ (b + (sgAt s b).2.length) rfl).2.2.1
    rw [hsp] at hst
    have := nm_move (b' := b') (d' := b' + (sgAt s b).2.length) (m := m - (sgAt s b).2.length) h (by omega) (ha.sub _ (by omega)) (by
      rw [show b' + (sgAt s b).2.length + (m - (sgAt s b).2.length) = b' + m from by omega]; exact hf.dg hst)
    rw [this, show b' + (sgAt s b).2.length + (m - (sgAt s b).2.length) = b' + m from by omega]
    rfl
  next q1 =>
  split at h
  · next q2 =>
    have hl2 : (sgAt s b).2.length = 2 := by rw [sgAt_C] at q2 ⊢; exact sg21 q2
    obtain ⟨e, a1, a2, a3⟩ := grpP_en hlen h
    have hk := key (by omega)
    refine ⟨?_, by rw [hk]⟩
    unfold sigP
    rw [hk, if_neg q0, if_neg q1, if_pos q2]
    have := grp_move (b' := b') (d' := b' + (sgAt s b).2.length) (m := m - (sgAt s b).2.length) hlen h (by rw [he]; omega) (ha.sub _ (by omega)) (by
      rw [show b + (sgAt s b).2.length + (m - (sgAt s b).2.length) = b + m from by omega, show b' + (sgAt s b).2.length + (m - (sgAt s b).2.length) = b' + m from by omega]; exact hf)
    rw [this, show b' + (sgAt s b).2.length + (m - (sgAt s b).2.length) = b' + m from by omega]
    rfl
  · next q2 =>
    cases h
    dsimp only at he
    have hm : m = (sgAt s b).2.length := by omega
    have hk : sgAt s' b' = sgAt s b := by
      rcases h12 with h12 | h12 | h12
      · exact absurd h12 q0
      · have hm1 : m = 1 := by omega
        subst hm1
        have h0 := ha 0 (by omega)
        rw [Nat.add_zero, Nat.add_zero] at h0
        rw [sgAt_C, sgAt_C, h0]
        refine sg_one (by rw [← sgAt_C]; exact h12) (by rw [← sgAt_C]; omega) ?_
        rcases hf with hf | ⟨e0, _⟩
        · have := stop_facts hf; exact .inr ⟨this.2.1, this.2.2.2.1, this.2.2.2.2⟩
        · exact .inl e0
      · exact key (by omega)
    refine ⟨?_, by rw [hk]⟩
    unfold sigP
    rw [hk, if_neg q0, if_neg q1, if_neg q2, ← hm]
    rfl
theorem read_move {s s' : ByteArray} {b b' n : Nat} {x : BitVec 256} (h : rdRead s b = .inl (x, n)) (ha : Ag s b s' b' (n - b)) : rdRead s' b' = .inl (x, b' + (n - b)) := by
  have hgt := rdRead_gt h
  have hok := rdRead_ok h
  have hin := ha.in (by omega) (by omega)
  unfold rdRead at h ⊢
  rw [Int.toNat_natCast] at h ⊢
  split at h
  · cases h
  split at h
  · next q1 =>
    have h0 := ha 0 (by omega)
    rw [Nat.add_zero, Nat.add_zero] at h0
    rw [if_neg (by omega), h0, if_pos q1]
    split at h
    · next q2 =>
      cases hm : rdMembers s (s.size + 1) 0#256 (b + 2) with
      | inr p => obtain ⟨a, c⟩ := p; rw [hm] at h; cases h
      | inl p =>
        obtain ⟨y, k⟩ := p
        rw [hm] at h
        cases h
        have hb := rdMembers_ok hm
        rw [ha 1 (by omega), if_pos q2]
        have := members_move s s' _ (s'.size + 1) _ _ _ (b' + 2) (k + 1 - b - 2) _ hm (ha.sub 2 (by omega)) (by omega) (by omega)
        rw [this, rdTurn, show b' + 2 + (k - (b + 2)) + 1 = b' + (k + 1 - b) from by omega]
    · next q2 =>
      cases hm : rdMembers s (s.size + 1) 0#256 (b + 1) with
      | inr p => obtain ⟨a, c⟩ := p; rw [hm] at h; cases h
      | inl p =>
        obtain ⟨y, k⟩ := p
        rw [hm] at h
        cases h
        have hb := rdMembers_ok hm
        rw [ha 1 (by omega), if_neg q2]
        have := members_move s s' _ (s'.size + 1) _ _ _ (b' + 1) (k + 1 - b - 1) _ hm (ha.sub 1 (by omega)) (by omega) (by omega)
        rw [this, rdEnd, show b' + 1 + (k - (b + 1)) + 1 = b' + (k + 1 - b) from by omega]
  · cases h
theorem pct_move {s s' : ByteArray} {b b' m : Nat} {t : Tk} (hb : b ≤ s.size) (h37 : chr s b = 37) (h : pctP s b = .inl t) (he : t.en = (b + m : Nat)) (ha : Ag s b s' b' m) (hf : Fol s (b + m) s' (b' + m)) : pctP s' b' = .inl (mvT t b' m) := by
  have hen := pctP_en hb h
  obtain ⟨e, x1, x2, x3⟩ := hen
  have h0 := ha 0 (by omega)
  rw [Nat.add_zero, Nat.add_zero] at h0
  unfold pctP at h
  split at h
  · next q1 =>
    have hl : b + 3 ≤ s.size := pfx_len hb q1
    have hm := ptsP_en hl h
    have := pts_move hl h he ha
    have hp : pfx s' b' [37, 117, 123] = true := by
      obtain ⟨e2, y1, y2, y3⟩ := hm
      have h3 : 3 ≤ m := by
        have hmm := this
        unfold ptsP at h
        split at h
        · cases h
        have hpt := ptP_le hl
        split at h
        · next h45 =>
          have h2 := chr_lt (s := s) (i := (ptP s (b + 3)).2.1) (by omega)
          have h3 := ptP_le (s := s) (a := (ptP s (b + 3)).2.1 + 1) (by omega)
          split at h
          · cases h
          split at h
          · cases h; dsimp only at he; omega
          · cases h
        · split at h
          · cases h; dsimp only at he; omega
          · cases h
      have e0 : pfx s' b' [37, 117, 123] = pfx s b [37, 117, 123] := by
        show (chr s' b' == 37 && (chr s' (b' + 1) == 117 && (chr s' (b' + 1 + 1) == 123 && true))) = (chr s b == 37 && (chr s (b + 1) == 117 && (chr s (b + 1 + 1) == 123 && true)))
        rw [h0, ha 1 (by omega), show b' + 1 + 1 = b' + 2 from rfl, ha 2 (by omega)]
      rw [e0]; exact q1
    unfold pctP
    rw [if_pos hp]
    exact this
  next q1 =>
  have hq : ∀ m2, m2 = m → 2 ≤ m2 → (m2 = 2 ∨ chr s (b + 1) ≠ 117) → pfx s' b' [37, 117, 123] = false := fun m2 em h2 hor => by
    subst em
    have q1 : pfx s b [37, 117, 123] = false := by cases hh : pfx s b [37, 117, 123]; rfl; exact absurd hh q1
    show (chr s' b' == 37 && (chr s' (b' + 1) == 117 && (chr s' (b' + 1 + 1) == 123 && true))) = false
    have q1 : (chr s b == 37 && (chr s (b + 1) == 117 && (chr s (b + 1 + 1) == 123 && true))) = false := q1
    rw [h0, h37, ha 1 (by omega)]
    rw [h37] at q1
    by_cases u : chr s (b + 1) = 117
    · rw [u] at q1 ⊢
      have c1 : ¬ chr s (b + 2) = 123 := by simpa using q1
      have c2 : ¬ chr s' (b' + 2) = 123 := by
        rcases hor with hor | hor
        · subst hor
          rcases hf with hf | ⟨e0, _⟩
          · exact (stop_facts hf).2.2.1
          · rw [e0]; exact c1
        · exact absurd u hor
      simpa using c2
    · rw [beq_eq_false_iff_ne.2 u]; simp
  split at h
  · next q2 =>
    have hs2 := sig_move hb h he ha hf
    have h2 : (sgAt s b).2.length = 2 ∧ chr s (b + 1) ≠ 117 := by
      rw [sgAt_C, h37] at q2 ⊢
      unfold sgC at q2 ⊢
      rw [if_pos rfl] at q2 ⊢
      by_cases u1 : chr s (b + 1) = 101
      · rw [if_pos u1]; exact ⟨rfl, by omega⟩
      · rw [if_neg u1] at q2 ⊢
        by_cases u2 : chr s (b + 1) = 102
        · rw [if_pos u2]; exact ⟨rfl, by omega⟩
        · rw [if_neg u2] at q2; exact absurd rfl q2
    have hm2 : 2 ≤ m := by
      have hl := sgAt_len s b hb
      have hsg := sigP_en hb h
      unfold sigP at h
      split at h
      · cases h
      split at h
      · obtain ⟨e, a1, a2, a3⟩ := nmR_en hl h; omega
      split at h
      · obtain ⟨e, a1, a2, a3⟩ := grpP_en hl h; omega
      · cases h; dsimp only at he; omega
    unfold pctP
    rw [if_neg (by rw [hq m rfl hm2 (.inr h2.2)]; decide), if_pos (by rw [hs2.2]; exact q2)]
    exact hs2.1
  next q2 =>
  split at h
  · next q3 =>
    cases h
    dsimp only at he
    have hm2 : m = 2 := by omega
    subst hm2
    have hin := ha.in (by omega) (by omega)
    have e1 := ha 1 (by omega)
    have hsg : sgAt s' b' = sgAt s b := by rw [sgAt_C, sgAt_C, h0, e1]
    have htx : s'.extract (b' + 1) (b' + 2) = s.extract (b + 1) (b + 2) := text_same (m := 1) (ha.sub 1 (by omega)) (by omega) (by omega)
    unfold pctP
    rw [if_neg (by rw [hq 2 rfl (by omega) (.inl rfl)]; decide), hsg, if_neg q2, e1, if_pos ⟨by omega, q3.2⟩, htx]
    rfl
  · cases h
theorem tok_move {s s' : ByteArray} {b b' m : Nat} {t : Tk} (hb : b < s.size) (h : oneP s b = .inl t) (he : t.en = (b + m : Nat)) (ha : Ag s b s' b' m) (hf : Fol s (b + m) s' (b' + m)) : oneP s' b' = .inl (mvT t b' m) := by
  obtain ⟨e, x1, x2, x3⟩ := oneP_en s b t hb h
  have h1 : 1 ≤ m := by omega
  have hin := ha.in h1 (by omega)
  have h0 := ha 0 (by omega)
  rw [Nat.add_zero, Nat.add_zero] at h0
  unfold oneP at h ⊢
  rw [h0]
  split at h
  · next q =>
    rw [if_pos q]
    have hm : spN nmB s b = b + m := by
      unfold nameR at h
      split at h
      · cases h
      · cases h; dsimp only at he; omega
    have hst := (spN_spec nmB s (by decide) _ b rfl).2.2.1
    rw [hm] at hst
    exact name_move h hm h1 (by omega) ha (hf.nm hst)
  next q0 =>
  rw [if_neg q0]
  split at h
  · next q =>
    rw [if_pos q]
    have hm : spN dgB s b = b + m := by
      unfold nmR at h
      cases hn : numR s b (gtK 4) with
      | inr e => rw [hn] at h; cases h
      | inl n => rw [hn] at h; cases h; dsimp only at he; omega
    have hst := (spN_spec dgB s (by decide) _ b rfl).2.2.1
    rw [hm] at hst
    exact nm_move h hm ha (hf.dg hst)
  next q1 =>
  rw [if_neg q1]
  split at h
  · next q =>
    rw [if_pos q]
    unfold litR at h ⊢
    rw [h0]
    have hge := litGo_en s _ b (by omega) _ _ _ _ h
    obtain ⟨e2, y1, y2, y3⟩ := hge
    have := lit_move s s' (chr s b) b b' (by omega) _ (s'.size + 1) [] (b + 1) (b' + 1) (m - 1) t (b + m) h he (by omega) (ha.sub 1 (by omega)) (by omega)
    rw [this, show b' + 1 + (m - 1) = b' + m from by omega]
    rfl
  next q2 =>
  rw [if_neg q2]
  split at h
  · next q =>
    rw [if_pos q]
    cases hr : rdRead s b with
    | inr p =>
      rw [hr, clT] at h
      split at h <;> cases h
    | inl p =>
      obtain ⟨x, n⟩ := p
      rw [hr] at h
      cases h
      dsimp only at he
      have hn : n - b = m := by omega
      rw [read_move hr (by rw [hn]; exact ha), hn]
      rfl
  next q3 =>
  rw [if_neg q3]
  split at h
  · next q => rw [if_pos q]; exact pct_move (by omega) q h he ha hf
  · next q => rw [if_neg q]; exact (sig_move (by omega) h he ha hf).1
end Go.Proofs.YtkihfkcmcdiajaaGreatDoor

namespace Go.Proofs.YtkihfkcmcdiajaaGreatDoor
open Go.RowKit
theorem litGo_fr (s : ByteArray) (q : Int) (b : Nat) : ∀ (f : Nat) (out : List Int) (i : Nat) (t : Tk), litGo s q b f out i = .inl t → t.fr = b := by
  intro f
  induction f with
  | zero => intro out i t h; rw [litGo] at h; cases h
  | succ f ih =>
    intro out i t h
    rw [litGo] at h
    split at h
    · cases h
    split at h
    · split at h
      · cases h
      · cases h; rfl
    split at h
    · cases h
    split at h
    · exact ih _ _ _ h
    · split at h
      · cases h
      · exact ih _ _ _ h
theorem nmR_fr {s : ByteArray} {b d : Nat} {k : Int} {t : Tk} (h : nmR s b d k = .inl t) : t.fr = b := by
  unfold nmR at h
  cases hn : numR s d (gtK k) with
  | inr e => rw [hn] at h; cases h
  | inl n => rw [hn] at h; cases h; rfl
theorem grpP_fr {s : ByteArray} {b d : Nat} {t : Tk} (h : grpP s b d = .inl t) : t.fr = b := by
  unfold grpP at h
  split at h
  · split at h
    · cases h
    · split at h <;> (cases h; rfl)
  · cases h; rfl
theorem sigP_fr {s : ByteArray} {b : Nat} {t : Tk} (h : sigP s b = .inl t) : t.fr = b := by
  unfold sigP at h
  split at h
  · cases h
  split at h
  · exact nmR_fr h
  split at h
  · exact grpP_fr h
  · cases h; rfl
theorem ptsP_fr {s : ByteArray} {b : Nat} {t : Tk} (h : ptsP s b = .inl t) : t.fr = b := by
  unfold ptsP at h
  split at h
  · cases h
  split at h
  · split at h
    · cases h
    split at h
    · cases h; rfl
    · cases h
  · split at h
    · cases h; rfl
    · cases h
theorem oneP_fr {s : ByteArray} {b : Nat} {t : Tk} (h : oneP s b = .inl t) : t.fr = b := by
  unfold oneP at h
  split at h
  · unfold nameR at h
    split at h
    · cases h
    · cases h; rfl
  split at h
  · exact nmR_fr h
  split at h
  · exact litGo_fr _ _ _ _ _ _ _ h
  split at h
  · cases hr : rdRead s b with
    | inr p =>
      rw [hr, clT] at h
      split at h <;> cases h
    | inl p => rw [hr] at h; cases h; rfl
  split at h
  · unfold pctP at h
    split at h
    · exact ptsP_fr h
    split at h
    · exact sigP_fr h
    split at h
    · cases h; rfl
    · cases h
  · exact sigP_fr h
/-- Tokens one behind the other, from a place on. -/
def Chn (s : ByteArray) (i : Nat) : List Tk → Prop
  | [] => gapN s i = s.size
  | t :: l => gapN s i < s.size ∧ oneP s (gapN s i) = .inl t ∧ ∃ e : Nat, t.en = e ∧ gapN s i < e ∧ e ≤ s.size ∧ Chn s e l
theorem chn_of (s : ByteArray) : ∀ (f : Nat) (out : List Tk) (i : Nat) (l : List Tk), i ≤ s.size → s.size < f + gapN s i → lexGo (oneP s) s f out (gapN s i) = .inl l → ∃ l2, l = out ++ l2 ∧ Chn s i l2 := by
  intro f
  induction f with
  | zero => intro out i l hi hf h; have := (gapN_bd hi).2; omega
  | succ f ih =>
    intro out i l hi hf h
    have hb := gapN_bd hi
    rw [lexGo] at h
    by_cases hlt : gapN s i < s.size
    · rw [if_pos hlt] at h
      cases ho : oneP s (gapN s i) with
      | inr q => rw [ho] at h; cases h
      | inl t =>
        rw [ho] at h
        dsimp only at h
        obtain ⟨e, e1, e2, e3⟩ := oneP_en s _ t hlt ho
        rw [e1, Int.toNat_natCast] at h
        have hge := gapN_ge s e e3
        obtain ⟨l2, h2, h3⟩ := ih (out ++ [t]) e l e3 (by omega) h
        refine ⟨t :: l2, by rw [h2, List.append_assoc]; rfl, hlt, ho, e, e1, e2, e3, h3⟩
    · rw [if_neg hlt] at h
      cases h
      exact ⟨[], by rw [List.append_nil], by show gapN s i = s.size; omega⟩
theorem chn_lex (s : ByteArray) : ∀ (l : List Tk) (f : Nat) (out : List Tk) (i : Nat), i ≤ s.size → s.size < f + gapN s i → Chn s i l → lexGo (oneP s) s f out (gapN s i) = .inl (out ++ l) := by
  intro l
  induction l with
  | nil =>
    intro f out i hi hf h
    have h : gapN s i = s.size := h
    cases f with
    | zero => omega
    | succ f => rw [lexGo, if_neg (by omega), List.append_nil]
  | cons t l ih =>
    intro f out i hi hf h
    obtain ⟨h1, h2, e, e1, e2, e3, h3⟩ := h
    cases f with
    | zero => omega
    | succ f =>
      have hge := gapN_ge s e e3
      rw [lexGo, if_pos h1, h2]
      dsimp only
      rw [e1, Int.toNat_natCast, ih f (out ++ [t]) e e3 (by omega) h3, List.append_assoc]
      rfl
theorem lex_chn {s : ByteArray} {l : List Tk} (h : lexR (oneP s) s = .inl l) : s.size ≤ 65536 ∧ Chn s 0 l := by
  unfold lexR at h
  split at h
  · cases h
  · next q =>
    obtain ⟨l2, h2, h3⟩ := chn_of s _ _ 0 l (by omega) (by have := (gapN_bd (s := s) (i := 0) (by omega)).1; omega) h
    rw [h2]
    exact ⟨by omega, h3⟩
theorem lex_of_chn {s : ByteArray} {l : List Tk} (hs : s.size ≤ 65536) (h : Chn s 0 l) : lexR (oneP s) s = .inl l := by
  unfold lexR
  rw [if_neg (by omega), chn_lex s l _ [] 0 (by omega) (by have := (gapN_bd (s := s) (i := 0) (by omega)).1; omega) h]
  rfl
/-- Where a token begins neither a blank nor a comment stands. -/
theorem gap_fix {s : ByteArray} {i : Nat} (hi : i ≤ s.size) (h : gapN s i < s.size) : ¬ (chr s (gapN s i) = 9 ∨ chr s (gapN s i) = 10 ∨ chr s (gapN s i) = 13 ∨ chr s (gapN s i) = 32) ∧ ¬ (chr s (gapN s i) = 45 ∧ chr s (gapN s i + 1) = 45) := by
  have key : ∀ (f i : Nat), s.size - i < f → i ≤ s.size → gapN s i < s.size → gapN s (gapN s i) = gapN s i := by
    intro f
    induction f with
    | zero => intro i hf; omega
    | succ f ih =>
      intro i hf hi h
      have hu := gapN_unf s i
      by_cases hlt : i < s.size
      · rw [if_pos hlt] at hu
        by_cases hn : chr s i = 45 ∧ chr s (i + 1) = 45
        · rw [if_pos hn] at hu
          have h1 := spN_next (P := lnB) (s := s) (i := i) (by decide) (by rw [hn.1]; rfl)
          have h2 := spN_ge lnB s (by decide) (i + 1)
          have h3 := spN_le lnB s (by decide) i (by omega)
          rw [hu] at h ⊢
          exact ih _ (by omega) h3 h
        · rw [if_neg hn] at hu
          by_cases hb : chr s i = 9 ∨ chr s i = 10 ∨ chr s i = 13 ∨ chr s i = 32
          · rw [if_pos hb] at hu
            rw [hu] at h ⊢
            exact ih _ (by omega) (by omega) h
          · rw [if_neg hb] at hu
            rw [hu, hu]
      · rw [if_neg hlt] at hu; omega
  have hfix := key _ i (Nat.lt_succ_self _) hi h
  have hu := gapN_unf s (gapN s i)
  rw [if_pos h, hfix] at hu
  refine ⟨fun q => ?_, fun q => ?_⟩
  · rw [if_neg (by omega), if_pos q] at hu
    have := gapN_ge s (gapN s i + 1) (by omega)
    omega
  · rw [if_pos q] at hu
    have h1 := spN_next (P := lnB) (s := s) (i := gapN s i) (by decide) (by rw [q.1]; rfl)
    have h2 := spN_ge lnB s (by decide) (gapN s i + 1)
    have h3 := spN_le lnB s (by decide) (gapN s i) (by omega)
    have := gapN_ge s (spN lnB s (gapN s i)) h3
    omega
theorem tok_minus {s : ByteArray} {b m : Nat} {t : Tk} (h45 : chr s b = 45) (h : oneP s b = .inl t) (he : t.en = (b + m : Nat)) : m = 2 := by
  unfold oneP at h
  rw [h45, if_neg (by decide), if_neg (by decide), if_neg (by decide), if_neg (by decide), if_neg (by decide)] at h
  unfold sigP at h
  rw [sgAt_C, h45] at h
  have e : sgC 45 (chr s (b + 1)) = if chr s (b + 1) = 62 then (27, [45, 62]) else (0, []) := by
    unfold sgC
    rw [if_neg (by decide), if_neg (by decide), if_neg (by decide), if_pos rfl]
  rw [e] at h
  by_cases q : chr s (b + 1) = 62
  · rw [if_pos q] at h
    simp at h
    cases h
    dsimp only at he
    omega
  · rw [if_neg q] at h
    simp at h
/-- A token's place in another text is no blank, and begins no comment. -/
theorem start_move {s s' : ByteArray} {b b' m : Nat} {t : Tk} (hb : b < s.size) (hnb : ¬ (chr s b = 9 ∨ chr s b = 10 ∨ chr s b = 13 ∨ chr s b = 32)) (hnn : ¬ (chr s b = 45 ∧ chr s (b + 1) = 45)) (h : oneP s b = .inl t) (he : t.en = (b + m : Nat)) (ha : Ag s b s' b' m) : gapN s' b' = b' ∧ b' < s'.size := by
  obtain ⟨e, x1, x2, x3⟩ := oneP_en s b t hb h
  have hin := ha.in (by omega) (by omega)
  have h0 := ha 0 (by omega)
  rw [Nat.add_zero, Nat.add_zero] at h0
  refine ⟨?_, by omega⟩
  rw [gapN_unf, if_pos (by omega), if_neg (fun q => ?_), if_neg (by rw [h0]; exact hnb)]
  have h45 : chr s b = 45 := by rw [← h0]; exact q.1
  have hm := tok_minus h45 h he
  exact hnn ⟨h45, by rw [← ha 1 (by omega)]; exact q.2⟩
end Go.Proofs.YtkihfkcmcdiajaaGreatDoor

namespace Go.Proofs.YtkihfkcmcdiajaaGreatDoor
open Go.RowKit
def isNm (s : ByteArray) : Bool := decide (0 < s.size) && decide (s.size ≤ 32) && hdB (chr s 0) && spN nmB s 0 == s.size
end Go.Proofs.YtkihfkcmcdiajaaGreatDoor

namespace Go.Proofs.YtkihfkcmcdiajaaGreatDoor
open Go.RowKit
/-- The document's texts of signs, in an array of their own. -/
structure ZX (W : World) (b : Nat) (c : Array Value) : Prop where
  heap : W.heap[b]? = some (.cells c 134 (0, 0))
theorem ZX.put {W : World} {b : Nat} {c : Array Value} (h : ZX W b c) (j : Nat) (v : Value) : ZX (W.setCell ⟨b, j, none⟩ v) b (c.setIfInBounds j v) := ⟨by
  rw [heap_setCell_same _ b j _ 134 v h.heap]⟩
theorem ZX.cell {W : World} {b : Nat} {c : Array Value} (h : ZX W b c) (j : Nat) : W.cell? ⟨b, j, none⟩ = c[j]? := cell_of_row W b j _ 134 (0, 0) h.heap
theorem ZX.fz {W : World} {b : Nat} {c : Array Value} (h : ZX W b c) (j : Nat) : W.frozen? ⟨b, j, none⟩ = false := frozen_of_row W b j _ 134 h.heap
end Go.Proofs.YtkihfkcmcdiajaaGreatDoor

namespace Go.Proofs.YtkihfkcmcdiajaaGreatDoor
open Go.RowKit
theorem below_box2 (w : World) (a b : Obj) : Below w.heap.size w ((w.alloc a).alloc b) := (below_box w a).alloc (by simp) b
end Go.Proofs.YtkihfkcmcdiajaaGreatDoor

namespace Go.Proofs.YtkihfkcmcdiajaaGreatDoor
open Go.RowKit
def txF (k : Int) (tx : ByteArray) : Bool := if k = 1 then isNm tx else if k = 21 then (tx.toList == []) || isNm tx else if k = 2 then decide ((tx.size : Int) ≤ 255) else if k = 28 then ((tx.size : Int) == 1) else (tx.toList == [])
end Go.Proofs.YtkihfkcmcdiajaaGreatDoor

namespace Go.Proofs.YtkihfkcmcdiajaaGreatDoor
open Go.RowKit
def nbF (k n s0 : Int) : Bool := decide (0 ≤ n) && decide (n ≤ if k = 5 then s0 else gtK k)
end Go.Proofs.YtkihfkcmcdiajaaGreatDoor

namespace Go.Proofs.YtkihfkcmcdiajaaGreatDoor
open Go.RowKit
def seF (k : Int) (tx : ByteArray) (s0 s1 s2 s3 : Int) : Bool := if k = 3 then true else if k = 28 then ((cls (chr tx 0).toNat).2 == 0) && (s0 == wd (cls (chr tx 0).toNat).1 0 && (s1 == wd (cls (chr tx 0).toNat).1 1 && (s2 == wd (cls (chr tx 0).toNat).1 2 && s3 == wd (cls (chr tx 0).toNat).1 3))) else if k = 5 then decide (s0 ≤ 1114111) && (s0 == s0 && (s1 == 0 && (s2 == 0 && s3 == 0))) else (s0 == 0 && (s1 == 0 && (s2 == 0 && s3 == 0)))
end Go.Proofs.YtkihfkcmcdiajaaGreatDoor

namespace Go.Proofs.YtkihfkcmcdiajaaGreatDoor
open Go.RowKit
def riF (t : Tk) : Bool := decide (1 ≤ t.kd) && decide (t.kd ≤ 30) && txF t.kd t.tx && nbF t.kd t.nn t.s0 && seF t.kd t.tx t.s0 t.s1 t.s2 t.s3
end Go.Proofs.YtkihfkcmcdiajaaGreatDoor

namespace Go.Proofs.YtkihfkcmcdiajaaGreatDoor
open Go.RowKit
/-- Two tokens in boxes one behind the other. -/
structure T2 (w W : World) (t u : Tk) : Prop where
  b : Below w.heap.size w W
  x : TX W w.heap.size t
  y : TX W (w.heap.size + 1) u
theorem T2.new (w : World) (t u : Tk) : T2 w ((w.alloc (tkO t)).alloc (tkO u)) t u := ⟨below_box2 _ _ _, (TX.new w t).below (below_box _ _), by have := TX.new (w.alloc (tkO t)) u; rwa [World.size_alloc] at this⟩
theorem T2.below {w W W' : World} {t u : Tk} (h : T2 w W t u) (hb : Below W.heap.size W W') : T2 w W' t u := ⟨h.b.trans (hb.mono h.b.size), h.x.below hb, h.y.below hb⟩
end Go.Proofs.YtkihfkcmcdiajaaGreatDoor

namespace Go.Proofs.YtkihfkcmcdiajaaGreatDoor
open Go.RowKit
/-- A slice, wherever it begins, reads as a list of tokens. -/
structure RdO (W : World) (A : Option Addr) (L : List Tk) : Prop where
  rd : L ≠ [] → ∃ g o, A = some ⟨g, o, none⟩ ∧ g < W.heap.size ∧ ∀ (k : Nat) t, L[k]? = some t → TR W g (o + k * 9) t
theorem RdT.o {W : World} {A : Option Addr} {L : List Tk} (h : RdT W A L) : RdO W A L := ⟨fun hne => by
  obtain ⟨g, e, lt, hc⟩ := h.rd hne
  exact ⟨g, 0, e, lt, fun k t hk => by rw [Nat.zero_add]; exact hc k t hk⟩⟩
theorem RdO.later {W W' : World} {A : Option Addr} {L : List Tk} (h : RdO W A L) (hb : Below W.heap.size W W') : RdO W' A L := ⟨fun hne => by
  obtain ⟨g, o, e, lt, hc⟩ := h.rd hne
  have key : ∀ j, W'.cell? ⟨g, j, none⟩ = W.cell? ⟨g, j, none⟩ := fun j => hb.cell (p := ⟨g, j, none⟩) lt
  refine ⟨g, o, e, Nat.lt_of_lt_of_le lt hb.size, fun k t hk => ?_⟩
  obtain ⟨c0, c1, c2, c3, c4, c5, c6, c7, c8⟩ := hc k t hk
  exact ⟨(key _).trans c0, (key _).trans c1, (key _).trans c2, (key _).trans c3, (key _).trans c4, (key _).trans c5, (key _).trans c6, (key _).trans c7, (key _).trans c8⟩⟩
/-- What a token may hold. -/
structure TkB (t : Tk) : Prop where
  n : t.nn < 9223372036854775808
  u0 : 0 ≤ t.s0
  u1 : t.s0 < 18446744073709551616
  u2 : 0 ≤ t.s1 ∧ t.s1 < 18446744073709551616
  u3 : 0 ≤ t.s2 ∧ t.s2 < 18446744073709551616
  u4 : 0 ≤ t.s3 ∧ t.s3 < 18446744073709551616
/-- The first token that is not right. -/
def ckGo (i : Nat) : List Tk → Nat × Int
  | [] => (0, 0)
  | t :: l => if riF t then ckGo (i + 1) l else (i, 3)
end Go.Proofs.YtkihfkcmcdiajaaGreatDoor

namespace Go.Proofs.YtkihfkcmcdiajaaGreatDoor.Q
open Go.RowKit
/-- Whatever is no row of bytes, and not block b, is as it was. -/
structure KeepT (b : Nat) (w w' : World) : Prop where
  size : w.heap.size ≤ w'.heap.size
  block : ∀ k, k < w.heap.size → k ≠ b → (∀ c fr, w.heap[k]? ≠ some (.cells c 5 fr)) → w'.heap[k]? = w.heap[k]?
theorem KeepT.refl (b : Nat) (w : World) : KeepT b w w := ⟨Nat.le_refl _, fun _ _ _ _ => rfl⟩
theorem KeepT.trans {b : Nat} {x y z : World} (h : KeepT b x y) (k : KeepT b y z) : KeepT b x z :=
  ⟨Nat.le_trans h.size k.size, fun j hj hb ht => by
    have e := h.block j hj hb ht
    exact (k.block j (Nat.lt_of_lt_of_le hj h.size) hb (fun c fr => by rw [e]; exact ht c fr)).trans e⟩
theorem KeepT.setCell (b j : Nat) (w : World) (u : Value) : KeepT b w (w.setCell ⟨b, j, none⟩ u) :=
  ⟨by simp [World.setCell], fun k _ hk _ => Below.heap_setCell _ _ _ _ hk⟩
theorem KeepT.alloc (b : Nat) (w : World) (o : Obj) : KeepT b w (w.alloc o) := ⟨by simp, fun k hk _ _ => Below.heap_alloc _ _ _ hk⟩
theorem KeepT.grown {b : Nat} {w w' : World} {base : Nat} {v : Value} {n : Nat} {xs : List Value} (ho : w.ownsRow base 5 1 v n xs) (hg : w.grownBy w' v.ownBlock) : KeepT b w w' :=
  ⟨hg.size, fun k hk _ ht => hg.block k hk (fun e => by
    rcases ho.2 with ⟨rfl, _⟩ | ⟨g, cap, cur, rfl, _, hgb, _⟩
    · cases e
    · obtain rfl : k = g := by simpa [Value.ownBlock] using e
      exact ht _ _ hgb)⟩
theorem KeepT.below {b : Nat} {w w' : World} (h : Below w.heap.size w w') : KeepT b w w' := ⟨h.size, fun k hk _ _ => h.block k hk⟩
end Go.Proofs.YtkihfkcmcdiajaaGreatDoor.Q

namespace Go.Proofs.YtkihfkcmcdiajaaGreatDoor.Q
open Go.RowKit
theorem below1 (w : World) (o : Obj) : Below w.heap.size w (w.alloc o) := (Below.refl _ _).alloc (Nat.le_refl _) _
theorem lit_own (l : List Int) (hl : l.length ≤ 100) (w : World) : (w.alloc (.cells (l.map (Value.int .u8)).toArray 5)).ownsRow w.heap.size 5 1 (.slice (some ⟨w.heap.size, 0, none⟩) l.length l.length) l.length (l.map (Value.int .u8)) := by
  have h := World.ownsRow_lit (e := 5) (size := 1) (base := w.heap.size) w (l.map (Value.int .u8)).toArray l.length (Nat.le_refl _) (by unfold maxLen; omega) (by simp)
  simpa using h
theorem conv1 (c : Int) (w : World) : (convert 84 9 (.slice (some ⟨w.heap.size, 0, none⟩) 1 1)).run Tryz.prog (w.alloc (.cells #[.int .u8 c] 5)) = .ok (.string (asText [c])) (w.alloc (.cells #[.int .u8 c] 5)) :=
  text_own (l := [c]) (lit_own [c] (by simp) w)
theorem conv2 (c d : Int) (w : World) : (convert 84 9 (.slice (some ⟨w.heap.size, 0, none⟩) 2 2)).run Tryz.prog (w.alloc (.cells #[.int .u8 c, .int .u8 d] 5)) = .ok (.string (asText [c, d])) (w.alloc (.cells #[.int .u8 c, .int .u8 d] 5)) :=
  text_own (l := [c, d]) (lit_own [c, d] (by simp) w)
end Go.Proofs.YtkihfkcmcdiajaaGreatDoor.Q

namespace Go.Proofs.YtkihfkcmcdiajaaGreatDoor
open Go.RowKit
theorem isNm_len {s : ByteArray} (h : isNm s = true) : 0 < s.size ∧ s.size ≤ 32 := by
  unfold isNm at h
  simp only [Bool.and_eq_true, decide_eq_true_eq] at h
  exact ⟨h.1.1.1, h.1.1.2⟩
end Go.Proofs.YtkihfkcmcdiajaaGreatDoor

namespace Go.Proofs.YtkihfkcmcdiajaaGreatDoor
open Go.RowKit
theorem chL_left (p q : List UInt8) (i : Nat) (h : i < p.length) : chL (p ++ q) i = chL p i := by unfold chL; rw [List.getElem?_append_left h]
/-- Digits, wherever they stand: a run of them, and its worth. -/
theorem ag_tx (p l q : List UInt8) : Ag (tx8 l) 0 (tx8 (p ++ l ++ q)) p.length l.length := fun k hk => by
  rw [Nat.zero_add, chr_tx, chr_tx, List.append_assoc, chL_app, chL_left _ _ _ hk]
/-- A place at which a token begins. -/
structure Beg (s : ByteArray) : Prop where
  b : ¬ (chr s 0 = 9 ∨ chr s 0 = 10 ∨ chr s 0 = 13 ∨ chr s 0 = 32)
  c : ¬ (chr s 0 = 45 ∧ chr s 1 = 45)
theorem Beg.of {s : ByteArray} {c : Int} (h : chr s 0 = c) (h1 : ¬ (c = 9 ∨ c = 10 ∨ c = 13 ∨ c = 32 ∨ c = 45)) : Beg s := ⟨by rw [h]; omega, by rw [h]; omega⟩
end Go.Proofs.YtkihfkcmcdiajaaGreatDoor

namespace Go.Proofs.YtkihfkcmcdiajaaGreatDoor
open Go.RowKit
theorem gtK_le (k : Int) : gtK k ≤ 999999 := by unfold gtK; (repeat' split) <;> omega
end Go.Proofs.YtkihfkcmcdiajaaGreatDoor

namespace Go.Proofs.YtkihfkcmcdiajaaGreatDoor
open Go.RowKit
def lkT (t : Tk) : Tk := { t with fr := 0, en := 0 }
end Go.Proofs.YtkihfkcmcdiajaaGreatDoor

namespace Go.Proofs.YtkihfkcmcdiajaaGreatDoor
open Go.RowKit
theorem gap_end (s : ByteArray) : gapN s s.size = s.size := by rw [gapN_unf, if_neg (by omega)]
end Go.Proofs.YtkihfkcmcdiajaaGreatDoor

namespace Go.Proofs.YtkihfkcmcdiajaaGreatDoor
open Go.RowKit
/-- Right, and of the sizes that a machine holds. -/
structure Rgt (t : Tk) : Prop where
  r : riF t = true
  b : TkB t
theorem Rgt.plain {k n a e : Int} {tx : ByteArray} (h : riF ⟨k, n, a, e, tx, 0, 0, 0, 0⟩ = true) (hn : n ≤ 1114111) : Rgt ⟨k, n, a, e, tx, 0, 0, 0, 0⟩ := ⟨h, ⟨by show n < _; omega, by show (0 : Int) ≤ 0; omega, by show (0 : Int) < _; omega, by show (0 : Int) ≤ 0 ∧ (0 : Int) < _; omega, by show (0 : Int) ≤ 0 ∧ (0 : Int) < _; omega, by show (0 : Int) ≤ 0 ∧ (0 : Int) < _; omega⟩⟩
theorem wd_rng (x : BitVec 256) (i : Nat) : 0 ≤ wd x i ∧ wd x i < 18446744073709551616 := by
  unfold wd
  have := (x.extractLsb' (64 * i) 64).isLt
  omega
theorem nm_ext {s : ByteArray} {b : Nat} (hh : hdB (chr s b) = true) (hle : ¬ 32 < spN nmB s b - b) : isNm (s.extract b (spN nmB s b)) = true := by
  have hnm : nmB (chr s b) = true := by unfold nmB; rw [hh]; rfl
  obtain ⟨h1, h2⟩ := spN_next (P := nmB) (by decide) hnm
  have h3 := spN_ge nmB s (by decide) (b + 1)
  have h4 := spN_le nmB s (by decide) b (by omega)
  obtain ⟨_, _, h6, h7⟩ := spN_spec nmB s (by decide) _ b rfl
  generalize spN nmB s b = e at *
  have hsz : (s.extract b e).size = e - b := by rw [ByteArray.size_extract]; omega
  have hc : ∀ k, k < e - b → chr (s.extract b e) k = chr s (b + k) := fun k hk => chr_ext (by omega) h4
  unfold isNm
  rw [hsz, decide_eq_true (by omega), decide_eq_true (by omega), hc 0 (by omega), Nat.add_zero, hh]
  have hr : spN nmB (s.extract b e) 0 = e - b := by
    refine spN_eq (by decide) (by omega) (fun k _ hk => ?_) ?_
    · rw [hc k hk]; exact h7 (b + k) (by omega) (by omega)
    · rw [chr_out (by rw [hsz]; omega)]; decide
  rw [hr]
  simp
theorem wthR_ge0 (s : ByteArray) (i : Nat) (base : Int) (hb : 0 ≤ base) : ∀ k, (∀ j, j < k → 0 ≤ hexV (chr s (i + j))) → 0 ≤ wthR s i base k := by
  intro k
  induction k with
  | zero => intro _; exact Int.le_refl _
  | succ k ih =>
    intro h
    have h1 := ih (fun j hj => h j (by omega))
    have h2 := h k (by omega)
    have h3 := Int.mul_nonneg h1 hb
    show 0 ≤ wthR s i base k * base + hexV (chr s (i + k))
    omega
theorem dg_hex {c : Int} (h : dgB c = true) : 0 ≤ hexV c := by
  unfold dgB at h
  simp only [Bool.and_eq_true, decide_eq_true_eq] at h
  unfold hexV
  rw [if_pos h]
  omega
theorem hx_hex {c : Int} (h : hxB c = true) : 0 ≤ hexV c := by
  unfold hxB at h
  rcases Bool.or_eq_true_iff.1 h with h | h
  · exact dg_hex h
  · simp only [Bool.and_eq_true, decide_eq_true_eq] at h
    unfold hexV
    rw [if_neg (by omega), if_pos h]
    omega
theorem numR_bd {s : ByteArray} {d : Nat} {m n : Int} (h : numR s d m = .inl n) : 0 ≤ n ∧ n ≤ m := by
  unfold numR at h
  split at h
  · cases h
  split at h
  · cases h
  · next q1 q2 =>
    cases h
    obtain ⟨_, _, _, h7⟩ := spN_spec dgB s (by decide) _ d rfl
    refine ⟨wthR_ge0 _ _ _ (by omega) _ (fun j hj => dg_hex (h7 (d + j) (by omega) (by omega))), ?_⟩
    omega
theorem nmR_rgt {s : ByteArray} {b d : Nat} {k : Int} {t : Tk} (hk : k = 4 ∨ k = 13 ∨ k = 14 ∨ k = 15) (h : nmR s b d k = .inl t) : Rgt t := by
  unfold nmR at h
  cases hn : numR s d (gtK k) with
  | inr e => rw [hn] at h; cases h
  | inl n =>
    rw [hn] at h
    cases h
    obtain ⟨h1, h2⟩ := numR_bd hn
    have h3 := gtK_le k
    refine Rgt.plain ?_ (by omega)
    have em : ((⟨#[]⟩ : ByteArray).toList == []) = true := by rw [ByteArray.toList_eq]; rfl
    unfold riF txF nbF seF
    rcases hk with rfl | rfl | rfl | rfl <;> simp [] <;> omega
theorem litGo_rgt (s : ByteArray) (q : Int) (b : Nat) : ∀ (f : Nat) (out : List Int) (i : Nat) (t : Tk), litGo s q b f out i = .inl t → Rgt t := by
  intro f
  induction f with
  | zero => intro out i t h; rw [litGo] at h; cases h
  | succ f ih =>
    intro out i t h
    rw [litGo] at h
    split at h
    · cases h
    split at h
    · split at h
      · cases h
      · next q2 =>
        cases h
        refine Rgt.plain ?_ (by omega)
        unfold riF txF nbF seF gtK
        have := asText_size out
        simp
        omega
    split at h
    · cases h
    split at h
    · exact ih _ _ _ h
    · split at h
      · cases h
      · exact ih _ _ _ h
theorem ri_name {a e : Int} {s : ByteArray} (h : isNm s = true) : riF ⟨1, 0, a, e, s, 0, 0, 0, 0⟩ = true := by
  unfold riF txF nbF seF gtK
  simp [h]
theorem ri_grp {a e : Int} {s : ByteArray} (h : isNm s = true) : riF ⟨21, 0, a, e, s, 0, 0, 0, 0⟩ = true := by
  unfold riF txF nbF seF gtK
  simp [h]
theorem ri_grp0 {a e : Int} : riF ⟨21, 0, a, e, ⟨#[]⟩, 0, 0, 0, 0⟩ = true := by
  have em : ((⟨#[]⟩ : ByteArray).toList == []) = true := by rw [ByteArray.toList_eq]; rfl
  unfold riF txF nbF seF gtK
  simp []
theorem grpP_rgt {s : ByteArray} {b d : Nat} {t : Tk} (h : grpP s b d = .inl t) : Rgt t := by
  unfold grpP at h
  split at h
  · next hh =>
    split at h
    · cases h
    · next hl =>
      split at h
      · cases h; exact Rgt.plain (ri_grp (nm_ext hh hl)) (by omega)
      · cases h; exact Rgt.plain ri_grp0 (by omega)
  · cases h; exact Rgt.plain ri_grp0 (by omega)
def sgK (k : Int) : Bool := k == 0 || k == 13 || k == 14 || k == 15 || k == 21 || k == 29 || k == 30 || k == 27 || (decide (6 ≤ k) && decide (k ≤ 12)) || (decide (16 ≤ k) && decide (k ≤ 20)) || (decide (22 ≤ k) && decide (k ≤ 26))
theorem sgC_in (c0 c1 : Int) : sgK (sgC c0 c1).1 = true := by
  have h : ∀ l : List (Int × List UInt8), (∀ p ∈ l, sgK p.1 = true) → sgK (sgGC c0 c1 l).1 = true := by
    intro l
    induction l with
    | nil => intro _; rfl
    | cons p l ih =>
      intro h
      rw [sgGC]
      split
      · exact h p (List.mem_cons_self ..)
      · exact ih (fun q hq => h q (List.mem_cons_of_mem _ hq))
  rw [← sgGC_C]
  exact h sgTab (by decide)
theorem ri_sig {k a e : Int} (h : sgK k = true) (h0 : ¬ k = 0) (h1 : ¬ (k = 13 ∨ k = 14 ∨ k = 15)) (h2 : ¬ k = 21) : riF ⟨k, 0, a, e, ⟨#[]⟩, 0, 0, 0, 0⟩ = true := by
  have em : ((⟨#[]⟩ : ByteArray).toList == []) = true := by rw [ByteArray.toList_eq]; rfl
  simp only [sgK, Bool.or_eq_true, Bool.and_eq_true, beq_iff_eq, decide_eq_true_eq] at h
  unfold riF txF nbF seF gtK
  dsimp only
  rw [if_neg (show ¬ k = 1 by omega), if_neg (show ¬ k = 21 by omega), if_neg (show ¬ k = 2 by omega), if_neg (show ¬ k = 28 by omega), if_neg (show ¬ k = 5 by omega), if_neg (show ¬ k = 4 by omega), if_neg h1, if_neg (show ¬ k = 3 by omega), if_neg (show ¬ k = 28 by omega), if_neg (show ¬ k = 5 by omega), em, decide_eq_true (show 1 ≤ k by omega), decide_eq_true (show k ≤ 30 by omega)]
  rfl
theorem sigP_rgt {s : ByteArray} {b : Nat} {t : Tk} (h : sigP s b = .inl t) : Rgt t := by
  have hi := sgC_in (chr s b) (chr s (b + 1))
  rw [← sgAt_C] at hi
  unfold sigP at h
  split at h
  · cases h
  split at h
  · next q => exact nmR_rgt (.inr q) h
  split at h
  · exact grpP_rgt h
  · next h0 h1 h2 => cases h; exact Rgt.plain (ri_sig hi h0 h1 h2) (by omega)
theorem ri_pts {n m a e : Int} (h0 : 0 ≤ n) (h1 : n ≤ m) (h2 : m ≤ 1114111) : Rgt ⟨5, n, a, e, ⟨#[]⟩, m, 0, 0, 0⟩ := by
  have em : ((⟨#[]⟩ : ByteArray).toList == []) = true := by rw [ByteArray.toList_eq]; rfl
  refine ⟨?_, ⟨by show n < _; omega, by show 0 ≤ m; omega, by show m < _; omega, by show (0 : Int) ≤ 0 ∧ (0 : Int) < _; omega, by show (0 : Int) ≤ 0 ∧ (0 : Int) < _; omega, by show (0 : Int) ≤ 0 ∧ (0 : Int) < _; omega⟩⟩
  unfold riF txF nbF seF
  simp []
  omega
theorem ptP_rng {s : ByteArray} {a : Nat} (h : (ptP s a).2.2 = true) : 0 ≤ (ptP s a).1 ∧ (ptP s a).1 ≤ 1114111 := by
  unfold ptP at h ⊢
  split at h
  · cases h
  · next q =>
    rw [if_neg q]
    obtain ⟨_, _, _, h7⟩ := spN_spec hxB s (by decide) _ a rfl
    exact ⟨wthR_ge0 _ _ _ (by omega) _ (fun j hj => hx_hex (h7 (a + j) (by omega) (by omega))), of_decide_eq_true h⟩
theorem ptsP_rgt {s : ByteArray} {b : Nat} {t : Tk} (h : ptsP s b = .inl t) : Rgt t := by
  unfold ptsP at h
  split at h
  · cases h
  next q1 =>
  have p1 := ptP_rng (s := s) (a := b + 3) (by simpa using q1)
  split at h
  · split at h
    · cases h
    next q2 =>
    have p2 := ptP_rng (s := s) (a := (ptP s (b + 3)).2.1 + 1) (by
      by_cases q : (ptP s ((ptP s (b + 3)).2.1 + 1)).2.2 = false
      · exact absurd (.inl q) q2
      · simpa using q)
    split at h
    · cases h; exact ri_pts p1.1 (by omega) p2.2
    · cases h
  · split at h
    · cases h; exact ri_pts p1.1 (Int.le_refl _) p1.2
    · cases h
theorem oneP_rgt {s : ByteArray} {b : Nat} {t : Tk} (_hb : b < s.size) (h : oneP s b = .inl t) : Rgt t := by
  unfold oneP at h
  split at h
  · next hh =>
    unfold nameR at h
    split at h
    · cases h
    · next hl => cases h; exact Rgt.plain (ri_name (nm_ext hh hl)) (by omega)
  split at h
  · exact nmR_rgt (.inl rfl) h
  split at h
  · exact litGo_rgt _ _ _ _ _ _ _ h
  split at h
  · cases hr : rdRead s b with
    | inr p =>
      rw [hr, clT] at h
      split at h <;> cases h
    | inl p =>
      rw [hr] at h
      cases h
      have em : ((⟨#[]⟩ : ByteArray).toList == []) = true := by rw [ByteArray.toList_eq]; rfl
      refine ⟨?_, ⟨by show (0 : Int) < _; omega, (wd_rng _ _).1, (wd_rng _ _).2, wd_rng _ _, wd_rng _ _, wd_rng _ _⟩⟩
      unfold riF txF nbF seF gtK
      simp []
  split at h
  · unfold pctP at h
    split at h
    · exact ptsP_rgt h
    split at h
    · exact sigP_rgt h
    split at h
    · next q =>
      cases h
      obtain ⟨q1, q2⟩ := q
      refine ⟨?_, ⟨by show (0 : Int) < _; omega, (wd_rng _ _).1, (wd_rng _ _).2, wd_rng _ _, wd_rng _ _, wd_rng _ _⟩⟩
      have hsz : (s.extract (b + 1) (b + 2)).size = 1 := by rw [ByteArray.size_extract]; omega
      have hc : chr (s.extract (b + 1) (b + 2)) 0 = chr s (b + 1) := by rw [chr_ext (by omega) (by omega)]
      unfold riF txF nbF seF gtK
      dsimp only
      rw [hc, hsz, q2]
      simp
    · cases h
  · exact sigP_rgt h
theorem chn_rgt (s : ByteArray) : ∀ (l : List Tk) (i : Nat), Chn s i l → ∀ t ∈ l, Rgt t := by
  intro l
  induction l with
  | nil => intro i _ t ht; cases ht
  | cons a l ih =>
    intro i h t ht
    obtain ⟨h1, h2, e, _, _, _, h3⟩ := h
    rcases List.mem_cons.1 ht with rfl | h4
    · exact oneP_rgt h1 h2
    · exact ih e h3 t h4
theorem lex_rgt {s : ByteArray} {l : List Tk} (h : lexR (oneP s) s = .inl l) : ∀ t ∈ l, Rgt t := chn_rgt s l 0 (lex_chn h).2
/-- Where it goes wrong. -/
theorem litGo_pos (s : ByteArray) (q : Int) (b : Nat) (hb : b ≤ s.size) : ∀ (f : Nat) (out : List Int) (i : Nat) (p : Nat × Int), litGo s q b f out i = .inr p → p.1 ≤ s.size := by
  intro f
  induction f with
  | zero => intro out i p h; rw [litGo] at h; cases h; exact hb
  | succ f ih =>
    intro out i p h
    rw [litGo] at h
    split at h
    · cases h; exact hb
    next hc =>
    have hi : i < s.size := chr_lt (by omega)
    split at h
    · split at h
      · cases h; exact hb
      · cases h
    split at h
    · cases h; exact Nat.le_of_lt hi
    split at h
    · exact ih _ _ _ h
    · split at h
      · cases h; exact Nat.le_of_lt hi
      · exact ih _ _ _ h
theorem nmR_pos {s : ByteArray} {b d : Nat} {k : Int} {p : Nat × Int} (hb : b ≤ s.size) (h : nmR s b d k = .inr p) : p.1 ≤ s.size := by
  unfold nmR at h
  cases hn : numR s d (gtK k) with
  | inr e => rw [hn] at h; cases h; exact hb
  | inl n => rw [hn] at h; cases h
theorem sigP_pos {s : ByteArray} {b : Nat} {p : Nat × Int} (hb : b ≤ s.size) (h : sigP s b = .inr p) : p.1 ≤ s.size := by
  have hl := sgAt_len s b hb
  unfold sigP at h
  split at h
  · cases h; exact hb
  split at h
  · exact nmR_pos hb h
  split at h
  · unfold grpP at h
    split at h
    · split at h
      · cases h; exact hl
      · split at h <;> cases h
    · cases h
  · cases h
theorem ptsP_pos {s : ByteArray} {b : Nat} {p : Nat × Int} (hb : b ≤ s.size) (h : ptsP s b = .inr p) : p.1 ≤ s.size := by
  unfold ptsP at h
  split at h
  · cases h; exact hb
  split at h
  · split at h
    · cases h; exact hb
    split at h
    · cases h
    · cases h; exact hb
  · split at h
    · cases h
    · cases h; exact hb
theorem oneP_pos {s : ByteArray} {b : Nat} {p : Nat × Int} (hb : b ≤ s.size) (h : oneP s b = .inr p) : p.1 ≤ s.size := by
  unfold oneP at h
  split at h
  · unfold nameR at h
    split at h
    · cases h; exact hb
    · cases h
  split at h
  · exact nmR_pos hb h
  split at h
  · exact litGo_pos _ _ _ hb _ _ _ _ h
  split at h
  · cases hr : rdRead s b with
    | inl q => rw [hr] at h; cases h
    | inr q =>
      rw [hr, clT] at h
      split at h
      · cases h; exact hb
      · cases h; exact rdRead_at hr
  split at h
  · unfold pctP at h
    split at h
    · exact ptsP_pos hb h
    split at h
    · exact sigP_pos hb h
    split at h
    · cases h
    · cases h; exact hb
  · exact sigP_pos hb h
theorem lexGo_pos (s : ByteArray) : ∀ (f : Nat) (out : List Tk) (i : Nat) (p : Nat × Int), lexGo (oneP s) s f out i = .inr p → p.1 ≤ s.size ∧ p.2 ≠ 0 := by
  intro f
  induction f with
  | zero => intro out i p h; rw [lexGo] at h; cases h
  | succ f ih =>
    intro out i p h
    rw [lexGo] at h
    split at h
    · next hi =>
      cases ho : oneP s i with
      | inr q => rw [ho] at h; cases h; exact ⟨oneP_pos (Nat.le_of_lt hi) ho, oneP_no s i _ ho⟩
      | inl t => rw [ho] at h; exact ih _ _ _ h
    · cases h
theorem lex_bad {s : ByteArray} {p : Nat × Int} (h : lexR (oneP s) s = .inr p) : p.1 ≤ s.size ∧ p.2 ≠ 0 := by
  unfold lexR at h
  split at h
  · cases h; exact ⟨Nat.zero_le _, by decide⟩
  · exact lexGo_pos s _ _ _ _ h
end Go.Proofs.YtkihfkcmcdiajaaGreatDoor

namespace Go.Proofs.YtkihfkcmcdiajaaGreatDoor
open Go.RowKit
theorem chn_len (s : ByteArray) : ∀ (l : List Tk) (i : Nat), i ≤ s.size → Chn s i l → i + l.length ≤ s.size := by
  intro l
  induction l with
  | nil => intro i hi _; simpa using hi
  | cons a l ih =>
    intro i hi h
    obtain ⟨h1, _, e, _, h3, h4, h5⟩ := h
    have h6 := ih e h4 h5
    have h7 := gapN_ge s i hi
    rw [List.length_cons]
    omega
theorem lex_len {s : ByteArray} {l : List Tk} (h : lexR (oneP s) s = .inl l) : l.length ≤ 65536 := by
  obtain ⟨h1, h2⟩ := lex_chn h
  have := chn_len s l 0 (by omega) h2
  omega
end Go.Proofs.YtkihfkcmcdiajaaGreatDoor
