/- DERIVED. Plain mathematics and walks, laid together (5). -/
import Derived.BigQuiet
import Derived.Lib.ItoaNum
import Derived.Lib.Builder
import Derived.RangeFuncBox
import Derived.Laws.OwnMore
import Derived.Lib.AppendStr
import Derived.Test.YtnpifgcgjgddoaaGreatDoorPg04
namespace Go.Proofs.YtnpifgcgjgddoaaGreatDoor
open Go.RowKit
/-- A byte that lengthens no token. -/
def stopB (c : Int) : Bool := !(nmB c) && !(c == 58) && !(c == 123) && !(c == 124) && !(c == 126)
/-- What stands behind a token, here and there. -/
def Fol (s : ByteArray) (e : Nat) (s' : ByteArray) (e' : Nat) : Prop :=
  stopB (chr s' e') = true ∨ (chr s' e' = chr s e ∧ (hdB (chr s e) = true → ∃ r, spN nmB s e = e + r ∧ spN nmB s' e' = e' + r ∧ (chr s' (e' + r) = 58 → chr s (e + r) = 58)))
theorem stop_facts {c : Int} (h : stopB c = true) : nmB c = false ∧ c ≠ 58 ∧ c ≠ 123 ∧ c ≠ 124 ∧ c ≠ 126 := by
  unfold stopB at h
  simp only [Bool.and_eq_true, Bool.not_eq_true', beq_eq_false_iff_ne] at h
  exact ⟨h.1.1.1.1, h.1.1.1.2, h.1.1.2, h.1.2, h.2⟩
theorem dg_nm {c : Int} (h : nmB c = false) : dgB c = false ∧ hdB c = false := by
  unfold nmB at h
  rw [Bool.or_eq_false_iff] at h
  exact ⟨h.2, h.1⟩
theorem Fol.nm {s s' : ByteArray} {e e' : Nat} (h : Fol s e s' e') (q : nmB (chr s e) = false) : nmB (chr s' e') = false := by
  rcases h with h | ⟨h, _⟩
  · exact (stop_facts h).1
  · rw [h]; exact q
theorem Fol.dg {s s' : ByteArray} {e e' : Nat} (h : Fol s e s' e') (q : dgB (chr s e) = false) : dgB (chr s' e') = false := by
  rcases h with h | ⟨h, _⟩
  · exact (dg_nm (stop_facts h).1).1
  · rw [h]; exact q
theorem Ag.in {s s' : ByteArray} {b b' m : Nat} (h : Ag s b s' b' m) (hm : 1 ≤ m) (hs : b + m ≤ s.size) : b' + m ≤ s'.size := by
  have h1 := h (m - 1) (by omega)
  have h2 := chr_in (s := s) (i := b + (m - 1)) (by omega)
  have := chr_lt (s := s') (i := b' + (m - 1)) (by rw [h1, h2]; omega)
  omega
theorem wth_move {s s' : ByteArray} {d d' m : Nat} {base : Int} (ha : Ag s d s' d' m) : ∀ k, k ≤ m → wthR s' d' base k = wthR s d base k := by
  intro k
  induction k with
  | zero => intro _; rfl
  | succ k ih => intro hk; rw [wthR, wthR, ih (by omega), ha k (by omega)]
theorem num_move {s s' : ByteArray} {d d' m : Nat} {M n : Int} (h : numR s d M = .inl n) (hm : spN dgB s d = d + m) (ha : Ag s d s' d' m) (hf : dgB (chr s' (d' + m)) = false) : numR s' d' M = .inl n ∧ spN dgB s' d' = d' + m := by
  have h1 := run_move (P := dgB) (by decide) ha hm hf
  have h2 := numR_en h
  have h0 := ha 0 (by omega)
  rw [Nat.add_zero, Nat.add_zero] at h0
  refine ⟨?_, h1⟩
  unfold numR at h ⊢
  rw [h1, show d' + m - d' = m from by omega, h0, wth_move ha m (Nat.le_refl _)]
  rw [hm, show d + m - d = m from by omega] at h
  exact h
theorem nm_move {s s' : ByteArray} {b b' d d' m : Nat} {k : Int} {t : Tk} (h : nmR s b d k = .inl t) (hm : spN dgB s d = d + m) (ha : Ag s d s' d' m) (hf : dgB (chr s' (d' + m)) = false) : nmR s' b' d' k = .inl { t with fr := b', en := (d' + m : Nat) } := by
  unfold nmR at h ⊢
  cases hn : numR s d (gtK k) with
  | inr e => rw [hn] at h; cases h
  | inl n =>
    obtain ⟨h1, h2⟩ := num_move hn hm ha hf
    rw [hn] at h
    cases h
    rw [h1, h2]
theorem name_move {s s' : ByteArray} {b b' m : Nat} {t : Tk} (h : nameR s b = .inl t) (hm : spN nmB s b = b + m) (h1 : 1 ≤ m) (hs : b + m ≤ s.size) (ha : Ag s b s' b' m) (hf : nmB (chr s' (b' + m)) = false) : nameR s' b' = .inl (mvT t b' m) := by
  have h2 := run_move (P := nmB) (by decide) ha hm hf
  have h3 := text_same ha hs (ha.in h1 hs)
  unfold nameR at h ⊢
  rw [hm, show b + m - b = m from by omega] at h
  rw [h2, show b' + m - b' = m from by omega, h3]
  split at h
  · cases h
  · next q => cases h; rw [if_neg q]; rfl
theorem pt_move {s s' : ByteArray} {a a' m : Nat} (h : (ptP s a).2.2 = true) (hm : (ptP s a).2.1 = a + m) (ha : Ag s a s' a' (m + 1)) : ptP s' a' = ((ptP s a).1, a' + m, true) := by
  have hst := (spN_spec hxB s (by decide) _ a rfl).2.2.1
  have hge := spN_ge hxB s (by decide) a
  unfold ptP at h hm ⊢
  split at h
  · cases h
  next q =>
  rw [if_neg q] at hm
  dsimp only at h hm
  rw [hm] at hst q h
  have h1 : spN hxB s' a' = a' + m := run_move (P := hxB) (by decide) (fun k hk => ha k (by omega)) hm (by rw [ha m (by omega)]; exact hst)
  rw [h1, hm, show a' + m - a' = m from by omega, show a + m - a = m from by omega, if_neg (by omega), if_neg (by omega), wth_move (m := m) (fun k hk => ha k (by omega)) m (Nat.le_refl _)]
  rw [show a + m - a = m from by omega] at h
  rw [h]
theorem pts_move {s s' : ByteArray} {b b' m : Nat} {t : Tk} (hb : b + 3 ≤ s.size) (h : ptsP s b = .inl t) (he : t.en = (b + m : Nat)) (ha : Ag s b s' b' m) : ptsP s' b' = .inl (mvT t b' m) := by
  have h1 := ptP_le hb
  unfold ptsP at h ⊢
  split at h
  · cases h
  next q1 =>
  have q1 : (ptP s (b + 3)).2.2 = true := by cases hq : (ptP s (b + 3)).2.2; exact absurd hq q1; rfl
  split at h
  · next h45 =>
    have h2 := chr_lt (s := s) (i := (ptP s (b + 3)).2.1) (by omega)
    have h3 := ptP_le (s := s) (a := (ptP s (b + 3)).2.1 + 1) (by omega)
    split at h
    · cases h
    next q2 =>
    have q3 : (ptP s ((ptP s (b + 3)).2.1 + 1)).2.2 = true := by cases hq : (ptP s ((ptP s (b + 3)).2.1 + 1)).2.2; exact absurd (.inl hq) q2; rfl
    split at h
    · next hc =>
      cases h
      dsimp only at he
      have he : (ptP s ((ptP s (b + 3)).2.1 + 1)).2.1 + 1 = b + m := by omega
      have hA := pt_move (s' := s') (a' := b' + 3) (m := (ptP s (b + 3)).2.1 - (b + 3)) q1 (by omega) (by
        exact ha.sub 3 (by omega))
      have hB := pt_move (s' := s') (a' := b' + ((ptP s (b + 3)).2.1 + 1 - b)) (m := (ptP s ((ptP s (b + 3)).2.1 + 1)).2.1 - ((ptP s (b + 3)).2.1 + 1)) q3 (by omega) (by
        have h7 := ha.sub ((ptP s (b + 3)).2.1 + 1 - b) (m2 := (ptP s ((ptP s (b + 3)).2.1 + 1)).2.1 - ((ptP s (b + 3)).2.1 + 1) + 1) (by omega)
        rwa [show b + ((ptP s (b + 3)).2.1 + 1 - b) = (ptP s (b + 3)).2.1 + 1 from by omega] at h7)
      have e1 : b' + 3 + ((ptP s (b + 3)).2.1 - (b + 3)) = b' + ((ptP s (b + 3)).2.1 - b) := by omega
      have e2 : b' + ((ptP s (b + 3)).2.1 - b) + 1 = b' + ((ptP s (b + 3)).2.1 + 1 - b) := by omega
      rw [hA]
      dsimp only
      rw [e1, e2, hB]
      dsimp only
      rw [if_neg (by decide), ha.at (j := (ptP s (b + 3)).2.1) (by omega) (by omega) rfl, if_pos h45, if_neg (by rw [q3] at q2; simpa using q2)]
      rw [ha.at (j := (ptP s ((ptP s (b + 3)).2.1 + 1)).2.1) (by omega) (by omega) (by omega), if_pos hc]
      unfold mvT
      congr 3
      omega
    · cases h
  · next h45 =>
    split at h
    · next hc =>
      cases h
      dsimp only at he
      have h4 := chr_lt (s := s) (i := (ptP s (b + 3)).2.1) (by omega)
      have he : (ptP s (b + 3)).2.1 + 1 = b + m := by omega
      have hA := pt_move (s' := s') (a' := b' + 3) (m := (ptP s (b + 3)).2.1 - (b + 3)) q1 (by omega) (ha.sub 3 (by omega))
      have e1 : b' + 3 + ((ptP s (b + 3)).2.1 - (b + 3)) = b' + ((ptP s (b + 3)).2.1 - b) := by omega
      rw [hA]
      dsimp only
      rw [e1, if_neg (by decide), ha.at (j := (ptP s (b + 3)).2.1) (by omega) (by omega) rfl, if_neg h45, if_pos hc]
      unfold mvT
      congr 3
      omega
    · cases h
end Go.Proofs.YtnpifgcgjgddoaaGreatDoor

namespace Go.Proofs.YtnpifgcgjgddoaaGreatDoor
open Go.RowKit
theorem sg_one {c0 c1 c1' : Int} (h : (sgC c0 c1).2.length = 1) (h2 : (sgC c0 c1).1 ≠ 13) (hc : c1' = c1 ∨ (c1' ≠ 58 ∧ c1' ≠ 124 ∧ c1' ≠ 126)) : sgC c0 c1' = sgC c0 c1 := by
  rcases hc with rfl | ⟨q1, q2, q3⟩
  · rfl
  unfold sgC at h h2 ⊢
  by_cases h37 : c0 = 37
  · subst h37
    by_cases a101 : c1 = 101 <;> by_cases a102 : c1 = 102 <;> simp_all
  by_cases h94 : c0 = 94
  · subst h94
    by_cases a43 : c1 = 43 <;> by_cases a45 : c1 = 45 <;> simp_all
  by_cases h60 : c0 = 60
  · subst h60
    by_cases a45 : c1 = 45 <;> simp_all
  by_cases h45 : c0 = 45
  · subst h45
    by_cases a62 : c1 = 62 <;> simp_all
  by_cases h47 : c0 = 47
  · subst h47
    simp
  by_cases h38 : c0 = 38
  · subst h38
    simp
  by_cases h33 : c0 = 33
  · subst h33
    simp
  by_cases h63 : c0 = 63
  · subst h63
    simp
  by_cases h42 : c0 = 42
  · subst h42
    simp
  by_cases h43 : c0 = 43
  · subst h43
    simp
  by_cases h40 : c0 = 40
  · subst h40
    simp
  by_cases h41 : c0 = 41
  · subst h41
    simp
  by_cases h46 : c0 = 46
  · subst h46
    simp
  by_cases h123 : c0 = 123
  · subst h123
    by_cases a58 : c1 = 58 <;> by_cases a124 : c1 = 124 <;> by_cases a126 : c1 = 126 <;> simp_all
  by_cases h58 : c0 = 58
  · subst h58
    by_cases a125 : c1 = 125 <;> simp_all
  by_cases h124 : c0 = 124
  · subst h124
    by_cases a125 : c1 = 125 <;> simp_all
  by_cases h126 : c0 = 126
  · subst h126
    by_cases a125 : c1 = 125 <;> simp_all
  by_cases h125 : c0 = 125
  · subst h125
    simp
  simp [*]
theorem sgC_len (c0 c1 : Int) : (sgC c0 c1).1 = 0 ∨ (sgC c0 c1).2.length = 1 ∨ (sgC c0 c1).2.length = 2 := by
  have h : ∀ l : List (Int × List UInt8), (∀ p ∈ l, p.2.length = 1 ∨ p.2.length = 2) → (sgGC c0 c1 l).1 = 0 ∨ (sgGC c0 c1 l).2.length = 1 ∨ (sgGC c0 c1 l).2.length = 2 := by
    intro l
    induction l with
    | nil => intro _; exact .inl rfl
    | cons p l ih =>
      intro h
      rw [sgGC]
      split
      · exact .inr (h p (List.mem_cons_self ..))
      · exact ih (fun q hq => h q (List.mem_cons_of_mem _ hq))
  rw [← sgGC_C]
  exact h sgTab (by decide)
theorem sg21 {c0 c1 : Int} (h : (sgC c0 c1).1 = 21) : (sgC c0 c1).2.length = 2 := by
  have key : ∀ l : List (Int × List UInt8), (∀ p ∈ l, p.1 = 21 → p.2.length = 2) → (sgGC c0 c1 l).1 = 21 → (sgGC c0 c1 l).2.length = 2 := by
    intro l
    induction l with
    | nil => intro _ q; cases q
    | cons p l ih =>
      intro h
      rw [sgGC]
      split
      · exact h p (List.mem_cons_self ..)
      · exact ih (fun q hq => h q (List.mem_cons_of_mem _ hq))
  rw [← sgGC_C] at h ⊢
  exact key sgTab (by decide) h
theorem grp_move {s s' : ByteArray} {b b' d d' m : Nat} {t : Tk} (_hd : d ≤ s.size) (h : grpP s b d = .inl t) (he : t.en = (d + m : Nat)) (ha : Ag s d s' d' m) (hf : Fol s (d + m) s' (d' + m)) : grpP s' b' d' = .inl { t with fr := b', en := (d' + m : Nat) } := by
  unfold grpP at h ⊢
  have hsp := spN_ge nmB s (by decide) d
  split at h
  · next q1 =>
    split at h
    · cases h
    next q2 =>
    split at h
    · next q3 =>
      cases h
      dsimp only at he
      have hlt := chr_lt (s := s) (i := spN nmB s d) (by omega)
      have hm : spN nmB s d + 1 = d + m := by omega
      have hm2 : spN nmB s d = d + (m - 1) := by omega
      have h58 : chr s' (d' + (m - 1)) = 58 := by rw [ha (m - 1) (by omega), ← hm2]; exact q3
      have h1 : spN nmB s' d' = d' + (m - 1) := run_move (P := nmB) (by decide) (fun k hk => ha k (by omega)) hm2 (by rw [h58]; rfl)
      have hnx := (spN_next (P := nmB) (s := s) (i := d) (by decide) (by unfold nmB; rw [q1]; rfl)).2
      have hnx2 := spN_ge nmB s (by decide) (d + 1)
      have h0 := ha 0 (by omega)
      rw [Nat.add_zero, Nat.add_zero] at h0
      have htx : s'.extract d' (d' + (m - 1)) = s.extract d (d + (m - 1)) := text_same (fun k hk => ha k (by omega)) (by omega) (by have := ha.in (by omega) (by omega); omega)
      rw [h0, if_pos q1, h1, show d' + (m - 1) - d' = spN nmB s d - d from by omega, if_neg q2, h58, if_pos rfl, htx, ← hm2, show d' + (m - 1) + 1 = d' + m from by omega]
    · next q3 =>
      cases h
      dsimp only at he
      obtain rfl : m = 0 := by omega
      rw [Nat.add_zero, Nat.add_zero] at hf
      rcases hf with hf | ⟨e0, hr⟩
      · rw [if_neg (by rw [(dg_nm (stop_facts hf).1).2]; decide)]; rfl
      · obtain ⟨r, r1, r2, r3⟩ := hr q1
        rw [e0, if_pos q1, r2, show d' + r - d' = spN nmB s d - d from by omega, if_neg q2, if_neg (fun q => q3 (by rw [r1]; exact r3 q))]
        rfl
  · next q1 =>
    cases h
    dsimp only at he
    obtain rfl : m = 0 := by omega
    rw [Nat.add_zero, Nat.add_zero] at hf
    rcases hf with hf | ⟨e0, hr⟩
    · rw [if_neg (by rw [(dg_nm (stop_facts hf).1).2]; decide)]; rfl
    · rw [e0, if_neg q1]; rfl
theorem sig_move {s s' : ByteArray} {b b' m : Nat} {t : Tk} (hb : b ≤ s.size) (h : sigP s b = .inl t) (he : t.en = (b + m : Nat)) (ha : Ag s b s' b' m) (hf : Fol s (b + m) s' (b' + m)) : sigP s' b' = .inl (mvT t b' m) ∧ (sgAt s' b').1 = (sgAt s b).1 := by
  have hlen := sgAt_len s b hb
  have hpos := sgAt_pos s b
  have h12 := sgC_len (chr s b) (chr s (b + 1))
  rw [← sgAt_C] at h12
  have key : 2 ≤ m → sgAt s' b' = sgAt s b := fun q => by
    have h0 := ha 0 (by omega)
    rw [Nat.add_zero, Nat.add_zero] at h0
    rw [sgAt_C, sgAt_C, h0, ha 1 (by omega)]
  unfold sigP at h
  split at h
  · cases h
  next q0 =>
  split at h
  · next q1 =>
    obtain ⟨e, a1, a2, a3⟩ := nmR_en hlen h
    have hsp : spN dgB s (b + (sgAt s b).2.length) = b + m := by
      unfold nmR at h
      cases hn : numR s (b + (sgAt s b).2.length) (gtK (sgAt s b).1) with
      | inr e => rw [hn] at h; cases h
      | inl n => rw [hn] at h; cases h; dsimp only at he; omega
    have hk := key (by omega)
    refine ⟨?_, by rw [hk]⟩
    unfold sigP
    rw [hk, if_neg q0, if_pos q1]
    have hst := (spN_spec dgB s (by decide) _ (b + (sgAt s b).2.length) rfl).2.2.1
    rw [hsp] at hst
    have := nm_move (b' := b') (d' := b' + (sgAt s b).2.length) (m := m - (sgAt s b).2.length) h (by omega) (ha.sub _ (by omega)) (by
      rw [show b' + (sgAt s b).2.length + (m - (sgAt s b).2.length) = b' + m from by omega]; exact hf.dg hst)
    rw [this, show b' + (sgAt s b).2.length + (m - (sgAt s b).2.length) = b' + m from by omega]
    rfl
  next q1 =>
  split at h
  · next q2 =>
    have hl2 : (sgAt s b).2.length = 2 := by rw [sgAt_C] at q2 ⊢; exact sg21 q2
    obtain ⟨e, a1, a2, a3⟩ := grpP_en hlen h
    have hk := key (by omega)
    refine ⟨?_, by rw [hk]⟩
    unfold sigP
    rw [hk, if_neg q0, if_neg q1, if_pos q2]
    have := grp_move (b' := b') (d' := b' + (sgAt s b).2.length) (m := m - (sgAt s b).2.length) hlen h (by rw [he]; omega) (ha.sub _ (by omega)) (by
      rw [show b + (sgAt s b).2.length + (m - (sgAt s b).2.length) = b + m from by omega, show b' + (sgAt s b).2.length + (m - (sgAt s b).2.length) = b' + m from by omega]; exact hf)
    rw [this, show b' + (sgAt s b).2.length + (m - (sgAt s b).2.length) = b' + m from by omega]
    rfl
  · next q2 =>
    cases h
    dsimp only at he
    have hm : m = (sgAt s b).2.length := by omega
    have hk : sgAt s' b' = sgAt s b := by
      rcases h12 with h12 | h12 | h12
      · exact absurd h12 q0
      · have hm1 : m = 1 := by omega
        subst hm1
        have h0 := ha 0 (by omega)
        rw [Nat.add_zero, Nat.add_zero] at h0
        rw [sgAt_C, sgAt_C, h0]
        refine sg_one (by rw [← sgAt_C]; exact h12) (by rw [← sgAt_C]; omega) ?_
        rcases hf with hf | ⟨e0, _⟩
        · have := stop_facts hf; exact .inr ⟨this.2.1, this.2.2.2.1, this.2.2.2.2⟩
        · exact .inl e0
      · exact key (by omega)
    refine ⟨?_, by rw [hk]⟩
    unfold sigP
    rw [hk, if_neg q0, if_neg q1, if_neg q2, ← hm]
    rfl
theorem read_move {s s' : ByteArray} {b b' n : Nat} {x : BitVec 256} (h : rdRead s b = .inl (x, n)) (ha : Ag s b s' b' (n - b)) : rdRead s' b' = .inl (x, b' + (n - b)) := by
  have hgt := rdRead_gt h
  have hok := rdRead_ok h
  have hin := ha.in (by omega) (by omega)
  unfold rdRead at h ⊢
  rw [Int.toNat_natCast] at h ⊢
  split at h
  · cases h
  split at h
  · next q1 =>
    have h0 := ha 0 (by omega)
    rw [Nat.add_zero, Nat.add_zero] at h0
    rw [if_neg (by omega), h0, if_pos q1]
    split at h
    · next q2 =>
      cases hm : rdMembers s (s.size + 1) 0#256 (b + 2) with
      | inr p => obtain ⟨a, c⟩ := p; rw [hm] at h; cases h
      | inl p =>
        obtain ⟨y, k⟩ := p
        rw [hm] at h
        cases h
        have hb := rdMembers_ok hm
        rw [ha 1 (by omega), if_pos q2]
        have := members_move s s' _ (s'.size + 1) _ _ _ (b' + 2) (k + 1 - b - 2) _ hm (ha.sub 2 (by omega)) (by omega) (by omega)
        rw [this, rdTurn, show b' + 2 + (k - (b + 2)) + 1 = b' + (k + 1 - b) from by omega]
    · next q2 =>
      cases hm : rdMembers s (s.size + 1) 0#256 (b + 1) with
      | inr p => obtain ⟨a, c⟩ := p; rw [hm] at h; cases h
      | inl p =>
        obtain ⟨y, k⟩ := p
        rw [hm] at h
        cases h
        have hb := rdMembers_ok hm
        rw [ha 1 (by omega), if_neg q2]
        have := members_move s s' _ (s'.size + 1) _ _ _ (b' + 1) (k + 1 - b - 1) _ hm (ha.sub 1 (by omega)) (by omega) (by omega)
        rw [this, rdEnd, show b' + 1 + (k - (b + 1)) + 1 = b' + (k + 1 - b) from by omega]
  · cases h
theorem pct_move {s s' : ByteArray} {b b' m : Nat} {t : Tk} (hb : b ≤ s.size) (h37 : chr s b = 37) (h : pctP s b = .inl t) (he : t.en = (b + m : Nat)) (ha : Ag s b s' b' m) (hf : Fol s (b + m) s' (b' + m)) : pctP s' b' = .inl (mvT t b' m) := by
  have hen := pctP_en hb h
  obtain ⟨e, x1, x2, x3⟩ := hen
  have h0 := ha 0 (by omega)
  rw [Nat.add_zero, Nat.add_zero] at h0
  unfold pctP at h
  split at h
  · next q1 =>
    have hl : b + 3 ≤ s.size := pfx_len hb q1
    have hm := ptsP_en hl h
    have := pts_move hl h he ha
    have hp : pfx s' b' [37, 117, 123] = true := by
      obtain ⟨e2, y1, y2, y3⟩ := hm
      have h3 : 3 ≤ m := by
        have hmm := this
        unfold ptsP at h
        split at h
        · cases h
        have hpt := ptP_le hl
        split at h
        · next h45 =>
          have h2 := chr_lt (s := s) (i := (ptP s (b + 3)).2.1) (by omega)
          have h3 := ptP_le (s := s) (a := (ptP s (b + 3)).2.1 + 1) (by omega)
          split at h
          · cases h
          split at h
          · cases h; dsimp only at he; omega
          · cases h
        · split at h
          · cases h; dsimp only at he; omega
          · cases h
      have e0 : pfx s' b' [37, 117, 123] = pfx s b [37, 117, 123] := by
        show (chr s' b' == 37 && (chr s' (b' + 1) == 117 && (chr s' (b' + 1 + 1) == 123 && true))) = (chr s b == 37 && (chr s (b + 1) == 117 && (chr s (b + 1 + 1) == 123 && true)))
        rw [h0, ha 1 (by omega), show b' + 1 + 1 = b' + 2 from rfl, ha 2 (by omega)]
      rw [e0]; exact q1
    unfold pctP
    rw [if_pos hp]
    exact this
  next q1 =>
  have hq : ∀ m2, m2 = m → 2 ≤ m2 → (m2 = 2 ∨ chr s (b + 1) ≠ 117) → pfx s' b' [37, 117, 123] = false := fun m2 em h2 hor => by
    subst em
    have q1 : pfx s b [37, 117, 123] = false := by cases hh : pfx s b [37, 117, 123]; rfl; exact absurd hh q1
    show (chr s' b' == 37 && (chr s' (b' + 1) == 117 && (chr s' (b' + 1 + 1) == 123 && true))) = false
    have q1 : (chr s b == 37 && (chr s (b + 1) == 117 && (chr s (b + 1 + 1) == 123 && true))) = false := q1
    rw [h0, h37, ha 1 (by omega)]
    rw [h37] at q1
    by_cases u : chr s (b + 1) = 117
    · rw [u] at q1 ⊢
      have c1 : ¬ chr s (b + 2) = 123 := by simpa using q1
      have c2 : ¬ chr s' (b' + 2) = 123 := by
        rcases hor with hor | hor
        · subst hor
          rcases hf with hf | ⟨e0, _⟩
          · exact (stop_facts hf).2.2.1
          · rw [e0]; exact c1
        · exact absurd u hor
      simpa using c2
    · rw [beq_eq_false_iff_ne.2 u]; simp
  split at h
  · next q2 =>
    have hs2 := sig_move hb h he ha hf
    have h2 : (sgAt s b).2.length = 2 ∧ chr s (b + 1) ≠ 117 := by
      rw [sgAt_C, h37] at q2 ⊢
      unfold sgC at q2 ⊢
      rw [if_pos rfl] at q2 ⊢
      by_cases u1 : chr s (b + 1) = 101
      · rw [if_pos u1]; exact ⟨rfl, by omega⟩
      · rw [if_neg u1] at q2 ⊢
        by_cases u2 : chr s (b + 1) = 102
        · rw [if_pos u2]; exact ⟨rfl, by omega⟩
        · rw [if_neg u2] at q2; exact absurd rfl q2
    have hm2 : 2 ≤ m := by
      have hl := sgAt_len s b hb
      have hsg := sigP_en hb h
      unfold sigP at h
      split at h
      · cases h
      split at h
      · obtain ⟨e, a1, a2, a3⟩ := nmR_en hl h; omega
      split at h
      · obtain ⟨e, a1, a2, a3⟩ := grpP_en hl h; omega
      · cases h; dsimp only at he; omega
    unfold pctP
    rw [if_neg (by rw [hq m rfl hm2 (.inr h2.2)]; decide), if_pos (by rw [hs2.2]; exact q2)]
    exact hs2.1
  next q2 =>
  split at h
  · next q3 =>
    cases h
    dsimp only at he
    have hm2 : m = 2 := by omega
    subst hm2
    have hin := ha.in (by omega) (by omega)
    have e1 := ha 1 (by omega)
    have hsg : sgAt s' b' = sgAt s b := by rw [sgAt_C, sgAt_C, h0, e1]
    have htx : s'.extract (b' + 1) (b' + 2) = s.extract (b + 1) (b + 2) := text_same (m := 1) (ha.sub 1 (by omega)) (by omega) (by omega)
    unfold pctP
    rw [if_neg (by rw [hq 2 rfl (by omega) (.inl rfl)]; decide), hsg, if_neg q2, e1, if_pos ⟨by omega, q3.2⟩, htx]
    rfl
  · cases h
theorem tok_move {s s' : ByteArray} {b b' m : Nat} {t : Tk} (hb : b < s.size) (h : oneP s b = .inl t) (he : t.en = (b + m : Nat)) (ha : Ag s b s' b' m) (hf : Fol s (b + m) s' (b' + m)) : oneP s' b' = .inl (mvT t b' m) := by
  obtain ⟨e, x1, x2, x3⟩ := oneP_en s b t hb h
  have h1 : 1 ≤ m := by omega
  have hin := ha.in h1 (by omega)
  have h0 := ha 0 (by omega)
  rw [Nat.add_zero, Nat.add_zero] at h0
  unfold oneP at h ⊢
  rw [h0]
  split at h
  · next q =>
    rw [if_pos q]
    have hm : spN nmB s b = b + m := by
      unfold nameR at h
      split at h
      · cases h
      · cases h; dsimp only at he; omega
    have hst := (spN_spec nmB s (by decide) _ b rfl).2.2.1
    rw [hm] at hst
    exact name_move h hm h1 (by omega) ha (hf.nm hst)
  next q0 =>
  rw [if_neg q0]
  split at h
  · next q =>
    rw [if_pos q]
    have hm : spN dgB s b = b + m := by
      unfold nmR at h
      cases hn : numR s b (gtK 4) with
      | inr e => rw [hn] at h; cases h
      | inl n => rw [hn] at h; cases h; dsimp only at he; omega
    have hst := (spN_spec dgB s (by decide) _ b rfl).2.2.1
    rw [hm] at hst
    exact nm_move h hm ha (hf.dg hst)
  next q1 =>
  rw [if_neg q1]
  split at h
  · next q =>
    rw [if_pos q]
    unfold litR at h ⊢
    rw [h0]
    have hge := litGo_en s _ b (by omega) _ _ _ _ h
    obtain ⟨e2, y1, y2, y3⟩ := hge
    have := lit_move s s' (chr s b) b b' (by omega) _ (s'.size + 1) [] (b + 1) (b' + 1) (m - 1) t (b + m) h he (by omega) (ha.sub 1 (by omega)) (by omega)
    rw [this, show b' + 1 + (m - 1) = b' + m from by omega]
    rfl
  next q2 =>
  rw [if_neg q2]
  split at h
  · next q =>
    rw [if_pos q]
    cases hr : rdRead s b with
    | inr p =>
      rw [hr, clT] at h
      split at h <;> cases h
    | inl p =>
      obtain ⟨x, n⟩ := p
      rw [hr] at h
      cases h
      dsimp only at he
      have hn : n - b = m := by omega
      rw [read_move hr (by rw [hn]; exact ha), hn]
      rfl
  next q3 =>
  rw [if_neg q3]
  split at h
  · next q => rw [if_pos q]; exact pct_move (by omega) q h he ha hf
  · next q => rw [if_neg q]; exact (sig_move (by omega) h he ha hf).1
end Go.Proofs.YtnpifgcgjgddoaaGreatDoor

namespace Go.Proofs.YtnpifgcgjgddoaaGreatDoor
open Go.RowKit
theorem tok_minus {s : ByteArray} {b m : Nat} {t : Tk} (h45 : chr s b = 45) (h : oneP s b = .inl t) (he : t.en = (b + m : Nat)) : m = 2 := by
  unfold oneP at h
  rw [h45, if_neg (by decide), if_neg (by decide), if_neg (by decide), if_neg (by decide), if_neg (by decide)] at h
  unfold sigP at h
  rw [sgAt_C, h45] at h
  have e : sgC 45 (chr s (b + 1)) = if chr s (b + 1) = 62 then (27, [45, 62]) else (0, []) := by
    unfold sgC
    rw [if_neg (by decide), if_neg (by decide), if_neg (by decide), if_pos rfl]
  rw [e] at h
  by_cases q : chr s (b + 1) = 62
  · rw [if_pos q] at h
    simp at h
    cases h
    dsimp only at he
    omega
  · rw [if_neg q] at h
    simp at h
/-- A token's place in another text is no blank, and begins no comment. -/
theorem start_move {s s' : ByteArray} {b b' m : Nat} {t : Tk} (hb : b < s.size) (hnb : ¬ (chr s b = 9 ∨ chr s b = 10 ∨ chr s b = 13 ∨ chr s b = 32)) (hnn : ¬ (chr s b = 45 ∧ chr s (b + 1) = 45)) (h : oneP s b = .inl t) (he : t.en = (b + m : Nat)) (ha : Ag s b s' b' m) : gapN s' b' = b' ∧ b' < s'.size := by
  obtain ⟨e, x1, x2, x3⟩ := oneP_en s b t hb h
  have hin := ha.in (by omega) (by omega)
  have h0 := ha 0 (by omega)
  rw [Nat.add_zero, Nat.add_zero] at h0
  refine ⟨?_, by omega⟩
  rw [gapN_unf, if_pos (by omega), if_neg (fun q => ?_), if_neg (by rw [h0]; exact hnb)]
  have h45 : chr s b = 45 := by rw [← h0]; exact q.1
  have hm := tok_minus h45 h he
  exact hnn ⟨h45, by rw [← ha 1 (by omega)]; exact q.2⟩
end Go.Proofs.YtnpifgcgjgddoaaGreatDoor

namespace Go.Proofs.YtnpifgcgjgddoaaGreatDoor
open Go.RowKit
def isNm (s : ByteArray) : Bool := decide (0 < s.size) && decide (s.size ≤ 32) && hdB (chr s 0) && spN nmB s 0 == s.size
theorem ne_emp {s : ByteArray} (h : 0 < s.size) : (s.toList == []) = false := by
  rw [beq_eq_false_iff_ne, ByteArray.toList_eq]
  intro e
  have h2 : s.data.toList.length = 0 := by rw [e]; rfl
  have h3 : s.data.toList.length = s.size := rfl
  omega
theorem emp_of {s : ByteArray} (h : ¬ 0 < s.size) : s = ⟨#[]⟩ := by
  apply ByteArray.ext
  apply Array.eq_empty_of_size_eq_zero
  have : s.data.size = s.size := rfl
  omega
end Go.Proofs.YtnpifgcgjgddoaaGreatDoor

namespace Go.Proofs.YtnpifgcgjgddoaaGreatDoor
open Go.RowKit
def txF (k : Int) (tx : ByteArray) : Bool := if k = 1 then isNm tx else if k = 21 then (tx.toList == []) || isNm tx else if k = 2 then decide ((tx.size : Int) ≤ 255) else if k = 28 then ((tx.size : Int) == 1) else (tx.toList == [])
end Go.Proofs.YtnpifgcgjgddoaaGreatDoor

namespace Go.Proofs.YtnpifgcgjgddoaaGreatDoor
open Go.RowKit
def nbF (k n s0 : Int) : Bool := decide (0 ≤ n) && decide (n ≤ if k = 5 then s0 else gtK k)
end Go.Proofs.YtnpifgcgjgddoaaGreatDoor

namespace Go.Proofs.YtnpifgcgjgddoaaGreatDoor
open Go.RowKit
def seF (k : Int) (tx : ByteArray) (s0 s1 s2 s3 : Int) : Bool := if k = 3 then true else if k = 28 then ((cls (chr tx 0).toNat).2 == 0) && (s0 == wd (cls (chr tx 0).toNat).1 0 && (s1 == wd (cls (chr tx 0).toNat).1 1 && (s2 == wd (cls (chr tx 0).toNat).1 2 && s3 == wd (cls (chr tx 0).toNat).1 3))) else if k = 5 then decide (s0 ≤ 1114111) && (s0 == s0 && (s1 == 0 && (s2 == 0 && s3 == 0))) else (s0 == 0 && (s1 == 0 && (s2 == 0 && s3 == 0)))
end Go.Proofs.YtnpifgcgjgddoaaGreatDoor

namespace Go.Proofs.YtnpifgcgjgddoaaGreatDoor
open Go.RowKit
def riF (t : Tk) : Bool := decide (1 ≤ t.kd) && decide (t.kd ≤ 30) && txF t.kd t.tx && nbF t.kd t.nn t.s0 && seF t.kd t.tx t.s0 t.s1 t.s2 t.s3
end Go.Proofs.YtnpifgcgjgddoaaGreatDoor

namespace Go.Proofs.YtnpifgcgjgddoaaGreatDoor
open Go.RowKit
/-- What a token may hold. -/
structure TkB (t : Tk) : Prop where
  n : t.nn < 9223372036854775808
  u0 : 0 ≤ t.s0
  u1 : t.s0 < 18446744073709551616
  u2 : 0 ≤ t.s1 ∧ t.s1 < 18446744073709551616
  u3 : 0 ≤ t.s2 ∧ t.s2 < 18446744073709551616
  u4 : 0 ≤ t.s3 ∧ t.s3 < 18446744073709551616
end Go.Proofs.YtnpifgcgjgddoaaGreatDoor

namespace Go.Proofs.YtnpifgcgjgddoaaGreatDoor
open Go.RowKit
def dgs (b : Nat) : Nat → Nat → List UInt8
  | 0, _ => []
  | f + 1, n => if n < b then [hexD n] else dgs b f (n / b) ++ [hexD (n % b)]
def dgT (b n : Nat) : List UInt8 := dgs b (n + 1) n
theorem div_less {b n : Nat} (hb : 2 ≤ b) (h : ¬ n < b) : n / b < n := Nat.div_lt_self (by omega) hb
theorem dgs_fuel (b : Nat) (hb : 2 ≤ b) : ∀ f g n, n < f → n < g → dgs b f n = dgs b g n := by
  intro f
  induction f with
  | zero => intro g n h; omega
  | succ f ih =>
    intro g n h1 h2
    cases g with
    | zero => omega
    | succ g =>
      unfold dgs
      by_cases h : n < b
      · rw [if_pos h, if_pos h]
      · have hd := div_less hb h
        rw [if_neg h, if_neg h, ih g (n / b) (by omega) (by omega)]
theorem dgT_lo {b n : Nat} (h : n < b) : dgT b n = [hexD n] := by
  unfold dgT dgs
  rw [if_pos h]
theorem dgT_hi {b n : Nat} (hb : 2 ≤ b) (h : ¬ n < b) : dgT b n = dgT b (n / b) ++ [hexD (n % b)] := by
  have hd := div_less hb h
  have e : dgT b n = dgs b n (n / b) ++ [hexD (n % b)] := by
    unfold dgT
    conv => lhs; unfold dgs
    rw [if_neg h]
  rw [e, dgs_fuel b hb n (n / b + 1) (n / b) hd (by omega)]
  rfl
theorem dgT_ne (b n : Nat) (hb : 2 ≤ b) : dgT b n ≠ [] := by
  by_cases h : n < b
  · rw [dgT_lo h]; simp
  · rw [dgT_hi hb h]; simp
theorem dgT_len (b : Nat) (hb : 2 ≤ b) : ∀ (k n : Nat), n < b ^ (k + 1) → (dgT b n).length ≤ k + 1 := by
  intro k
  induction k with
  | zero =>
    intro n h
    rw [dgT_lo (by simpa using h)]
    simp
  | succ k ih =>
    intro n h
    by_cases h1 : n < b
    · rw [dgT_lo h1]; simp
    · have h2 : n / b < b ^ (k + 1) := by
        rw [Nat.div_lt_iff_lt_mul (by omega), ← Nat.pow_succ]
        exact h
      rw [dgT_hi hb h1, List.length_append, List.length_singleton]
      have := ih (n / b) h2
      omega
/-- What is told so far: nothing, or the last digits. -/
def whI (b n0 n : Nat) (l : List UInt8) : Prop := (n = n0 ∧ l = []) ∨ (l ≠ [] ∧ dgT b n0 = if n = 0 then l else dgT b n ++ l)
theorem whI_step {b n0 n : Nat} {l : List UInt8} (hb : 2 ≤ b) (h : whI b n0 n l) (hn : 0 < n ∨ l = []) : whI b n0 (n / b) (hexD (n % b) :: l) := by
  refine Or.inr ⟨by simp, ?_⟩
  have key : dgT b n0 = dgT b n ++ l := by
    rcases h with ⟨h1, h2⟩ | ⟨h1, h2⟩
    · rw [h1, h2, List.append_nil]
    · rcases hn with h3 | h3
      · rw [h2, if_neg (by omega)]
      · exact absurd h3 h1
  by_cases h4 : n < b
  · rw [if_pos (Nat.div_eq_of_lt h4), key, dgT_lo h4, Nat.mod_eq_of_lt h4]
    rfl
  · have h5 : ¬ n / b = 0 := by
      have : 1 ≤ n / b := (Nat.le_div_iff_mul_le (by omega)).2 (by omega)
      omega
    rw [if_neg h5, key, dgT_hi hb h4, List.append_assoc]
    rfl
theorem whI_end {b n0 n : Nat} {l : List UInt8} (h : whI b n0 n l) (hn : n = 0) (hl : l ≠ []) : dgT b n0 = l := by
  rcases h with ⟨_, h2⟩ | ⟨_, h2⟩
  · exact absurd h2 hl
  · rw [h2, if_pos hn]
end Go.Proofs.YtnpifgcgjgddoaaGreatDoor

namespace Go.Proofs.YtnpifgcgjgddoaaGreatDoor
open Go.RowKit
def gnm (s : ByteArray) : ByteArray := if s.size = 0 then ⟨#[]⟩ else s ++ ⟨#[58]⟩
end Go.Proofs.YtnpifgcgjgddoaaGreatDoor

namespace Go.Proofs.YtnpifgcgjgddoaaGreatDoor
open Go.RowKit
theorem sp_hit (x : BitVec 256) (k : Nat) (hb : x.getLsbD k = true) : ∃ l lo, spL (bysTo x (k + 1)) = l ++ [(lo, (k : Int))] := by
  rw [bysTo_succ, hb]; exact spL_last _ _
theorem sp_miss (x : BitVec 256) (k : Nat) (hb : ∀ j, j + 1 = k → x.getLsbD j = false) : spStep (spL (bysTo x k)) (k : Int) = spL (bysTo x k) ++ [((k : Int), (k : Int))] := by
  rcases snoc_cases (bysTo x k) with h | ⟨m, c, h⟩
  · rw [h]; rfl
  · have hm := (bysTo_mem x k c).1 (by rw [h]; simp)
    rw [h]
    obtain ⟨l, lo, e⟩ := spL_last m c
    rw [e]
    refine spStep_miss l lo c k fun e2 => ?_
    have := hb c.toNat (by omega)
    rw [this] at hm; simp at hm

set_option maxRecDepth 100000 in
set_option maxHeartbeats 2000000 in
theorem spansR_any (x : BitVec 256) (w : World) :
    Calls Tryz.prog 105 #[sv x] w fun e W' => ∃ v, e = .returned v ∧ W'.ownsRow (w.heap.size + 1) 152 2 v (spL (bys x)).length (spc (spL (bys x))) ∧ (spL (bys x) = [] → v = .slice none 0 0) ∧ Below w.heap.size w W' := by
  obtain ⟨i0, hi, hz0, hz1, hz2⟩ := info_parts Tryz.info52
  go_enter Tryz.func105, Tryz.ntmps105
  go_wp2
  go_loopw [3, 4] (fun v t wr => ∃ k : Nat, k ≤ 256 ∧ t = .int .i64 k ∧ wr.ownsRow (w.heap.size + 1) 152 2 v (spL (bysTo x k)).length (spc (spL (bysTo x k))) ∧ (spL (bysTo x k) = [] → v = .slice none 0 0) ∧ Holds wr w.heap.size x ∧ Below w.heap.size w wr) (fun _ t _ => 256 - (intOf t).toNat)
  case atStart => exact ⟨0, by omega, rfl, World.ownsRow_nil _ _ _ _, fun _ => rfl, Holds.new w x, (Below.refl _ _).alloc (Nat.le_refl _) _⟩
  case round =>
    obtain ⟨k, hk, rfl, hown, hnil, hx, hbel⟩ := hrel
    have hsz : w.heap.size < wr.heap.size := hx.lt
    have HX := (show Hid _ from hx)
    have HO := (show Hid _ from hown)
    have HB := (show Hid _ from hbel)
    have HN := (show Hid _ from hnil)
    clear hnil
    by_cases hlt : k < 256
    · have HG := (show Hid _ from hasB_yes x k (by omega) (by omega))
      have hlen : (spL (bysTo x k)).length ≤ 256 := Nat.le_trans (spL_len _) (by have := cntTo_le x.getLsbD k; rw [bysTo_len]; omega)
      obtain ⟨l0, c0, c1, c2, c3, f0, f1, f2, f3⟩ := hx
      clear hown hbel
      cases hb : hasB x k
      · have HE : Hid (bysTo x (k + 1) = bysTo x k) := (by
          rw [HG.out, Int.toNat_natCast] at hb
          have h := bysTo_succ x k; rw [hb] at h; exact h)
        go_wp2_with fail
        refine (hasR_any x k _).mono ?_
        rintro e w1 ⟨rfl, hb1⟩
        have hO1 := (show Hid _ from own_below HO.out hb1 (by omega))
        have hB1 := (show Hid _ from HB.out.trans (hb1.mono (by omega)))
        have hX1 := (show Hid _ from HX.out.below hb1 (by omega))
        clear hb1
        go_wp2
        go_roundw
        case rel => exact ⟨k + 1, by omega, by go_num, (by rw [HE.out]; exact hO1.out), (by rw [HE.out]; exact HN.out), hX1.out, hB1.out⟩
        case measure => simp [intOf]; omega
      · have hbk : x.getLsbD k = true := by rw [HG.out, Int.toNat_natCast] at hb; exact hb
        have HSS : Hid (spL (bysTo x (k + 1)) = spStep (spL (bysTo x k)) (k : Int)) := (by
          show _ = _
          rw [bysTo_succ, hbk]; exact spL_snoc _ _)
        cases hp : hasB x ((k : Int) - 1)
        · have HE : Hid (spL (bysTo x (k + 1)) = spL (bysTo x k) ++ [((k : Int), (k : Int))]) := HSS.out.trans (sp_miss x k (fun j hj => by
            have h := hasB_yes x ((k : Int) - 1) (by omega) (by omega)
            rw [hp, show ((k : Int) - 1).toNat = j from by omega] at h
            exact h.symm))
          clear HSS hbk
          go_wp2_with fail
          refine (hasR_any x k _).mono ?_
          rintro e w1 ⟨rfl, hb1⟩
          have hX1 := (show Hid _ from HX.out.below hb1 (by omega))
          have hs1 := hb1.size
          clear c0 c1 c2 c3 f0 f1 f2 f3
          obtain ⟨l0, c0, c1, c2, c3, f0, f1, f2, f3⟩ := hX1.out
          go_wp2_with fail
          refine (hasR_any x ((k : Int) - 1) _).mono ?_
          rintro e w2 ⟨rfl, hb2⟩
          have hbb := hb1.trans (hb2.mono hb1.size)
          have hO1 := own_below HO.out hbb (by omega)
          have hB1 := (show Hid _ from HB.out.trans (hbb.mono (by omega)))
          have hX2 := (show Hid _ from HX.out.below hbb (by omega))
          have hsz1 : w.heap.size < w2.heap.size := hX2.out.lt
          clear c0 c1 c2 c3 f0 f1 f2 f3 HO HX HB hb1 hb2 hbb hX1
          go_wp2_with (at_builtin; refine wpList_append_own _ rfl _ _ 149 rfl (w.heap.size + 1) 152 i0 (.agg #[.int .i64 0, .int .i64 0]) 2 16 Tryz.underlying149 hi hz0 hz1 hz2 rfl (by decide) _ _ _ rfl (hO1.alloc _) ⟨w2.heap.size, 0, none⟩ 1 1 [.int .i64 (k : Int), .int .i64 (k : Int)] rfl rfl (cell_two_new _ _ _ _) ?c2 ?c3 ?c4 ?c5 ?_)
          case c2 => intro u hu; simp at hu; subst hu; rfl
          case c3 => unfold maxLen; omega
          case c4 => omega
          case c5 => simp; omega
          intro v' w3 hown' hgrow _
          have hle := fun j e => (hO1.lt j e).1
          have hB2 := (show Hid _ from (hB1.out.alloc (by omega) (.cells #[.int .i64 (k : Int), .int .i64 (k : Int)] 152)).grown hgrow (by simp; omega) (fun j e => by have := hle j e; omega))
          have hX3 := (show Hid _ from holds_grown (hX2.out.alloc (.cells #[.int .i64 (k : Int), .int .i64 (k : Int)] 152)) hgrow (fun e => by have := hle _ e; omega))
          have hO2 := (show Hid _ from hown')
          clear hO1 hown' hgrow hle
          go_wp2
          go_roundw
          case rel =>
            refine ⟨k + 1, by omega, by go_num, ?_, ?_, hX3.out, hB2.out⟩
            · rw [HE.out, List.length_append, spc_append]; exact hO2.out
            · rw [HE.out]; intro h; simp at h
          case measure => simp [intOf]; omega
        · have hpos : 1 ≤ k := by
            by_cases h : 1 ≤ k
            · exact h
            · exfalso
              rw [hasB_no x ((k : Int) - 1) (by omega)] at hp; cases hp
          obtain ⟨l, lo, hl⟩ := sp_hit x (k - 1) (by
            have h := hasB_yes x ((k : Int) - 1) (by omega) (by omega)
            rw [hp, show ((k : Int) - 1).toNat = k - 1 from by omega] at h
            exact h.symm)
          rw [show k - 1 + 1 = k from by omega] at hl
          have HE : Hid (spL (bysTo x (k + 1)) = l ++ [(lo, (k : Int))]) := (by
            have h := HSS.out
            rw [hl, spStep_hit _ _ _ _ (by omega)] at h
            exact h)
          have hown := HO.out
          rw [hl, List.length_append, List.length_singleton] at hown
          rw [hl, List.length_append, List.length_singleton] at hlen
          obtain ⟨g, cap, rfl⟩ := ownsRow_succ hown
          have HO' := (show Hid _ from hown)
          clear HSS hbk HN hl hown HO
          go_wp2_with fail
          refine (hasR_any x k _).mono ?_
          rintro e w1 ⟨rfl, hb1⟩
          have hX1 := (show Hid _ from HX.out.below hb1 (by omega))
          have hs1 := hb1.size
          clear c0 c1 c2 c3 f0 f1 f2 f3
          obtain ⟨l0, c0, c1, c2, c3, f0, f1, f2, f3⟩ := hX1.out
          go_wp2_with fail
          refine (hasR_any x ((k : Int) - 1) _).mono ?_
          rintro e w2 ⟨rfl, hb2⟩
          have hbb := hb1.trans (hb2.mono hb1.size)
          have hO1 := own_below HO'.out hbb (by omega)
          have hB1 := (show Hid _ from HB.out.trans (hbb.mono (by omega)))
          have hX2 := (show Hid _ from HX.out.below hbb (by omega))
          clear c0 c1 c2 c3 f0 f1 f2 f3 HX HB hb1 hb2 hbb hX1
          have hcu := hO1.cellAt (l.length * 2 + 1) (by omega)
          rw [spc_append, List.getElem?_append_right (by rw [spc_len]; omega), spc_len, show l.length * 2 + 1 - l.length * 2 = 1 from by omega] at hcu
          replace hcu : w2.cell? ⟨g, l.length * 2 + 1, none⟩ = some (.int .i64 ((k - 1 : Nat) : Int)) := hcu
          have hfu := hO1.frozenAt (l.length * 2 + 1)
          have hg0 : w.heap.size + 1 ≤ g := (hO1.lt g rfl).1
          have HO1 := (show Hid _ from hO1)
          clear hO1
          go_wp2
          obtain ⟨hst, hgs⟩ := World.ownsRow.stored HO1.out (l.length * 2 + 1) (.int .i64 (k : Int))
          rw [spc_set] at hst
          go_roundw
          case rel =>
            refine ⟨k + 1, by omega, by go_num, ?_, ?_, holds_grown hX2.out hgs (fun e => by cases e; omega), hB1.out.grown hgs (by have h := hX2.out.lt; omega) (fun j e => by cases e; omega)⟩
            · rw [HE.out, List.length_append, List.length_singleton]; exact hst
            · rw [HE.out]; intro h; simp at h
          case measure => simp [intOf]; omega
    · obtain rfl : k = 256 := by omega
      clear hown hx hbel
      go_wp2
      go_ret
      exact ⟨_, rfl, HO.out, HN.out, HB.out⟩
end Go.Proofs.YtnpifgcgjgddoaaGreatDoor

namespace Go.Proofs.YtnpifgcgjgddoaaGreatDoor
open Go.RowKit
theorem ext_dig : ∀ m : Fin 16, digs.extract m.val (m.val + 1) = ⟨#[hexD m.val]⟩ := by decide

set_option maxRecDepth 100000 in
set_option maxHeartbeats 2000000 in
theorem hexR_any (b : Nat) (hb : b < 256) (w : World) :
    Calls Tryz.prog 103 #[.int .i64 b] w fun e w' => e = .returned (.string ⟨#[hexD (b / 16), hexD (b % 16)]⟩) ∧ Below w.heap.size w w' := by
  have t1 : IntKind.i64.wrap ((b : Int) / 16) = ((b / 16 : Nat) : Int) := by rw [IntKind.wrap_i64]; omega
  have t2 : IntKind.i64.wrap ((b : Int) % 16) = ((b % 16 : Nat) : Int) := by rw [IntKind.wrap_i64]; omega
  have t3 : (b : Int) / 16 = ((b / 16 : Nat) : Int) := by omega
  have t4 : (b : Int) % 16 = ((b % 16 : Nat) : Int) := by omega
  have k0 : (0 : Int) ≤ ((b / 16 : Nat) : Int) := by omega
  have k1 : ((b / 16 : Nat) : Int) < 16 := by omega
  have k2 : (0 : Int) ≤ ((b % 16 : Nat) : Int) := by omega
  have k3 : ((b % 16 : Nat) : Int) < 16 := by omega
  have q1 : b / 16 < 16 := by omega
  have q2 : b % 16 < 16 := by omega
  have HM := (show Hid _ from ext_dig ⟨b / 16, q1⟩)
  have HN := (show Hid _ from ext_dig ⟨b % 16, q2⟩)
  generalize b / 16 = m at *
  generalize b % 16 = n at *
  have v1 : IntKind.i64.wrap ((m : Int) + 1) = (m : Int) + 1 := by rw [IntKind.wrap_i64]; omega
  have v2 : IntKind.i64.wrap ((n : Int) + 1) = (n : Int) + 1 := by rw [IntKind.wrap_i64]; omega
  have y1 : ((m : Int) + 1).toNat = m + 1 := by omega
  have y2 : ((n : Int) + 1).toNat = n + 1 := by omega
  have l1 : (m : Int) ≤ (m : Int) + 1 := by omega
  have l2 : (n : Int) ≤ (n : Int) + 1 := by omega
  have l3 : (m : Int) + 1 ≤ 16 := by omega
  have l4 : (n : Int) + 1 ≤ 16 := by omega
  have l5 : (0 : Int) ≤ (m : Int) + 1 := by omega
  have l6 : (0 : Int) ≤ (n : Int) + 1 := by omega
  go_enter Tryz.func103, Tryz.ntmps103
  go_wp2_with fail
  go_region
  all_goals
    go_wp2
    go_ret
    exact ⟨ret_str (by show digs.extract m (m + 1) ++ digs.extract n (n + 1) = _; rw [HM.out, HN.out]; exact cat11 _ _), (Below.refl _ _).drew⟩

set_option maxRecDepth 100000 in
set_option maxHeartbeats 1000000 in
theorem itemR_sign (b : Nat) (hb : b < 256) (w : World) (h1 : ((b : Int) == 10) = false) (h2 : ((b : Int) == 13) = false) (h3 : ((b : Int) == 9) = false) (h4 : signB (b : Int) = true) :
    Calls Tryz.prog 106 #[.int .i64 b] w fun e w' => e = .returned (.string ⟨#[92, UInt8.ofNat b]⟩) ∧ Below w.heap.size w w' := by
  have hw8 : IntKind.u8.wrap (b : Int) = (b : Int) := by rw [IntKind.wrap_u8']; omega
  have hcv := conv1 b w
  rw [Int.toNat_natCast] at hcv
  go_enter Tryz.func106, Tryz.ntmps106
  go_wp2_with fail
  refine (special_any _ _).mono ?_
  rintro e w' ⟨rfl, rfl⟩
  go_wp2
  go_ret
  exact ⟨ret_str (cat11 _ _), below1 _ _⟩

set_option maxRecDepth 100000 in
set_option maxHeartbeats 1000000 in
theorem itemR_prn (b : Nat) (hb : b < 256) (w : World) (h1 : ((b : Int) == 10) = false) (h2 : ((b : Int) == 13) = false) (h3 : ((b : Int) == 9) = false) (h4 : signB (b : Int) = false) (h5 : prnB (b : Int) = true) :
    Calls Tryz.prog 106 #[.int .i64 b] w fun e w' => e = .returned (.string ⟨#[UInt8.ofNat b]⟩) ∧ Below w.heap.size w w' := by
  have hw8 : IntKind.u8.wrap (b : Int) = (b : Int) := by rw [IntKind.wrap_u8']; omega
  have hp : 32 ≤ (b : Int) ∧ (b : Int) ≤ 126 := by simpa [prnB] using h5
  obtain ⟨p1, p2⟩ := hp
  have hcv := conv1 b w
  rw [Int.toNat_natCast] at hcv
  go_enter Tryz.func106, Tryz.ntmps106
  go_wp2_with fail
  refine (special_any _ _).mono ?_
  rintro e w' ⟨rfl, rfl⟩
  go_wp2
  go_ret
  exact ⟨rfl, below1 _ _⟩

set_option maxRecDepth 100000 in
set_option maxHeartbeats 1000000 in
theorem itemR_hex (b : Nat) (hb : b < 256) (w : World) (h1 : ((b : Int) == 10) = false) (h2 : ((b : Int) == 13) = false) (h3 : ((b : Int) == 9) = false) (h4 : signB (b : Int) = false) (h5 : prnB (b : Int) = false) :
    Calls Tryz.prog 106 #[.int .i64 b] w fun e w' => e = .returned (.string ⟨#[92, 120, hexD (b / 16), hexD (b % 16)]⟩) ∧ Below w.heap.size w w' := by
  have hp : ¬ (32 ≤ (b : Int) ∧ (b : Int) ≤ 126) := by intro h; have : prnB (b : Int) = true := by simpa [prnB] using h
                                                       rw [this] at h5; cases h5
  have HX : Hid (∀ w, Calls Tryz.prog 103 #[.int .i64 b] w fun e w' => e = .returned (.string ⟨#[hexD (b / 16), hexD (b % 16)]⟩) ∧ Below w.heap.size w w') := fun w => hexR_any b hb w
  by_cases p1 : 32 ≤ (b : Int)
  · have p2 : ¬ (b : Int) ≤ 126 := fun h => hp ⟨p1, h⟩
    clear hp h5
    go_enter Tryz.func106, Tryz.ntmps106
    go_wp2_with fail
    refine (special_any _ _).mono ?_
    rintro e w' ⟨rfl, rfl⟩
    go_wp2_with fail
    refine (HX.out _).mono ?_
    rintro e w1 ⟨rfl, hb1⟩
    have HB := (show Hid _ from hb1)
    clear hb1
    go_wp2
    go_ret
    exact ⟨ret_str (cat22 _ _ _ _), HB.out⟩
  · clear hp h5
    go_enter Tryz.func106, Tryz.ntmps106
    go_wp2_with fail
    refine (special_any _ _).mono ?_
    rintro e w' ⟨rfl, rfl⟩
    go_wp2_with fail
    refine (HX.out _).mono ?_
    rintro e w1 ⟨rfl, hb1⟩
    have HB := (show Hid _ from hb1)
    clear hb1
    go_wp2
    go_ret
    exact ⟨ret_str (cat22 _ _ _ _), HB.out⟩

theorem itmR_any (b : Nat) (hb : b < 256) (w : World) :
    Calls Tryz.prog 106 #[.int .i64 b] w fun e w' => e = .returned (.string ⟨(itm b).toArray⟩) ∧ Below w.heap.size w w' := by
  unfold itm
  by_cases h1 : b = 10
  · subst h1; rw [if_pos rfl]
    go_enter Tryz.func106, Tryz.ntmps106
    go_wp2
    go_ret
    exact ⟨rfl, Below.refl _ _⟩
  rw [if_neg h1]
  by_cases h2 : b = 13
  · subst h2; rw [if_pos rfl]
    go_enter Tryz.func106, Tryz.ntmps106
    go_wp2
    go_ret
    exact ⟨rfl, Below.refl _ _⟩
  rw [if_neg h2]
  by_cases h3 : b = 9
  · subst h3; rw [if_pos rfl]
    go_enter Tryz.func106, Tryz.ntmps106
    go_wp2
    go_ret
    exact ⟨rfl, Below.refl _ _⟩
  rw [if_neg h3]
  have e1 : ((b : Int) == 10) = false := beq_eq_false_iff_ne.2 (by omega)
  have e2 : ((b : Int) == 13) = false := beq_eq_false_iff_ne.2 (by omega)
  have e3 : ((b : Int) == 9) = false := beq_eq_false_iff_ne.2 (by omega)
  cases h4 : signB (b : Int)
  · rw [if_neg (by simp)]
    cases h5 : prnB (b : Int)
    · rw [if_neg (by simp)]; exact itemR_hex b hb w e1 e2 e3 h4 h5
    · rw [if_pos rfl]; exact itemR_prn b hb w e1 e2 e3 h4 h5
  · rw [if_pos rfl]; exact itemR_sign b hb w e1 e2 e3 h4
end Go.Proofs.YtnpifgcgjgddoaaGreatDoor

namespace Go.Proofs.YtnpifgcgjgddoaaGreatDoor.Q
open Go.RowKit
theorem Tryz.sizeB : (Tryz.prog.info? 57).map (·.size) = some 2 := by kernel_rfl

set_option maxHeartbeats 1000000 in
set_option maxRecDepth 100000 in
theorem check_used (b : Nat) (w : World) (h0 : w.cell? ⟨b, 0, none⟩ = some (.pointer (some ⟨b, 0, none⟩))) :
    Calls Tryz.prog 71 #[.pointer (some ⟨b, 0, none⟩)] w fun e w' => e = .returned (.tuple #[]) ∧ w' = w := by
  obtain ⟨j, hj, hjs⟩ := Option.map_eq_some_iff.1 Tryz.sizeB
  go_enter Tryz.func71, Tryz.ntmps71
  go_wp2
  rw [Lib.run_neq_ptr_same w _ Tryz.underlying54 hj]
  go_wp2
  go_end0
  exact ⟨rfl, rfl⟩

set_option maxHeartbeats 1000000 in
set_option maxRecDepth 100000 in
theorem check_fresh (b : Nat) (w : World) (h0 : w.cell? ⟨b, 0, none⟩ = some (.pointer none)) (hsh : w.shape? b = some (57, 2)) (hfz : w.frozen? ⟨b, 0, none⟩ = false) :
    Calls Tryz.prog 71 #[.pointer (some ⟨b, 0, none⟩)] w fun e w' => e = .returned (.tuple #[]) ∧ w' = w.setCell ⟨b, 0, none⟩ (.pointer (some ⟨b, 0, none⟩)) := by
  obtain ⟨j, hj, hjs⟩ := Option.map_eq_some_iff.1 Tryz.sizeB
  go_enter Tryz.func71, Tryz.ntmps71
  go_wp2
  rw [Lib.run_to_unsafe w ⟨b, 0, none⟩ Tryz.underlying54 Tryz.underlying140 hj (by rw [hjs]; decide) hsh (Nat.zero_lt_succ 1)]
  simp only [Result.andThen]
  rw [Oper.upon_value]
  go_wp2
  rw [run_callFunc_extern Tryz.func94 (by kernel_rfl) (by kernel_rfl) (by kernel_rfl) (e := Extern.AbiNoEscape.same) (by kernel_rfl)]
  rw [Lib.run_noEscape]
  simp only [Result.andThen]
  rw [Oper.upon_value]
  go_wp2
  rw [Lib.run_from_unsafe w ⟨b, 0, none⟩ Tryz.underlying140 Tryz.underlying54 hj hsh (by kernel_rfl)]
  simp only [Result.andThen]
  rw [Oper.upon_value]
  go_wp2
  go_end0
  exact ⟨rfl, rfl⟩

/-- Whatever is no row of bytes, and not block b, is as it was. -/
structure KeepT (b : Nat) (w w' : World) : Prop where
  size : w.heap.size ≤ w'.heap.size
  block : ∀ k, k < w.heap.size → k ≠ b → (∀ c fr, w.heap[k]? ≠ some (.cells c 5 fr)) → w'.heap[k]? = w.heap[k]?
theorem KeepT.refl (b : Nat) (w : World) : KeepT b w w := ⟨Nat.le_refl _, fun _ _ _ _ => rfl⟩
theorem KeepT.trans {b : Nat} {x y z : World} (h : KeepT b x y) (k : KeepT b y z) : KeepT b x z :=
  ⟨Nat.le_trans h.size k.size, fun j hj hb ht => by
    have e := h.block j hj hb ht
    exact (k.block j (Nat.lt_of_lt_of_le hj h.size) hb (fun c fr => by rw [e]; exact ht c fr)).trans e⟩
theorem KeepT.setCell (b j : Nat) (w : World) (u : Value) : KeepT b w (w.setCell ⟨b, j, none⟩ u) :=
  ⟨by simp [World.setCell], fun k _ hk _ => Below.heap_setCell _ _ _ _ hk⟩
theorem KeepT.alloc (b : Nat) (w : World) (o : Obj) : KeepT b w (w.alloc o) := ⟨by simp, fun k hk _ _ => Below.heap_alloc _ _ _ hk⟩
theorem KeepT.grown {b : Nat} {w w' : World} {base : Nat} {v : Value} {n : Nat} {xs : List Value} (ho : w.ownsRow base 5 1 v n xs) (hg : w.grownBy w' v.ownBlock) : KeepT b w w' :=
  ⟨hg.size, fun k hk _ ht => hg.block k hk (fun e => by
    rcases ho.2 with ⟨rfl, _⟩ | ⟨g, cap, cur, rfl, _, hgb, _⟩
    · cases e
    · obtain rfl : k = g := by simpa [Value.ownBlock] using e
      exact ht _ _ hgb)⟩
theorem check_any (b : Nat) (bs : List Value) (w : World) (h : Lib.IsBuilder 57 5 b b bs w) :
    Calls Tryz.prog 71 #[.pointer (some ⟨b, 0, none⟩)] w fun e w' => e = .returned (.tuple #[]) ∧ Lib.BuilderAt 57 5 b b (.pointer (some ⟨b, 0, none⟩)) bs w' ∧ Below b w w' ∧ KeepT b w w' := by
  rcases h with h | h
  · refine (check_fresh b w h.cell0 h.shape h.frozen0).mono ?_
    rintro e w' ⟨rfl, rfl⟩
    exact ⟨rfl, h.used _, (Below.refl b w).setCell (p := ⟨b, 0, none⟩) h.1 _, KeepT.setCell b 0 w _⟩
  · refine (check_used b w h.cell0).mono ?_
    rintro e w' ⟨rfl, rfl⟩
    exact ⟨rfl, h, Below.refl b _, KeepT.refl b _⟩

set_option maxHeartbeats 1000000 in
set_option maxRecDepth 100000 in
theorem writeByte_any (b : Nat) (bs : List Value) (c : Int) (w : World) (h : Lib.IsBuilder 57 5 b b bs w) (hlen : bs.length + 1 ≤ 140737488355328) :
    Calls Tryz.prog 123 #[.pointer (some ⟨b, 0, none⟩), .int .u8 c] w fun e w' => e = .returned .nilIface ∧ Lib.IsBuilder 57 5 b b (bs ++ [.int .u8 c]) w' ∧ Below b w w' ∧ KeepT b w w' := by
  obtain ⟨i0, hi, hz0, hz1, hz2⟩ := info_parts Tryz.info5
  go_enter Tryz.func123, Tryz.ntmps123
  go_wp2_with fail
  refine (check_any b bs _ h).mono ?_
  rintro e w1 ⟨rfl, h1, hb1, hk1⟩
  have hlt := h1.lt
  obtain ⟨hB, v, hbk, hown, hne⟩ := h1
  have c0 : w1.cell? ⟨b, 0, none⟩ = some (.pointer (some ⟨b, 0, none⟩)) := by rw [Lib.cell_of_heap hbk]; rfl
  have c1 : w1.cell? ⟨b, 1, none⟩ = some v := by rw [Lib.cell_of_heap hbk]; rfl
  go_wp2_with (at_builtin; refine wpList_append_own _ rfl _ _ 55 rfl b 5 i0 (.int .u8 0) 1 1 Tryz.underlying55 hi hz0 hz1 hz2 rfl (by decide) _ _ _ rfl (hown.alloc _) ⟨w1.heap.size, 0, none⟩ 1 1 [.int .u8 c] rfl rfl (cell_one_new _ _ _) ?c2 ?c3 ?c4 ?c5 ?_)
  case c2 => intro u hu; simp at hu; subst hu; rfl
  case c3 => unfold maxLen; omega
  case c4 => omega
  case c5 => simp; omega
  intro v' w2 hown' hgrow _
  have hb2 : w2.heap[b]? = some (.cells #[.pointer (some ⟨b, 0, none⟩), v] 57 (0, 0)) := by
    rw [hgrow.block b (by simp; omega) (fun e => hne e.symm), Lib.alloc_old w1 _ b hlt]
    exact hbk
  have d0 : w2.cell? ⟨b, 0, none⟩ = some (.pointer (some ⟨b, 0, none⟩)) := by rw [Lib.cell_of_heap hb2]; rfl
  have d1 : w2.cell? ⟨b, 1, none⟩ = some v := by rw [Lib.cell_of_heap hb2]; rfl
  have f1 : w2.frozen? ⟨b, 1, none⟩ = false := Lib.frozen_of_heap hb2 1
  obtain ⟨g, cap, rfl⟩ := ownsRow_succ hown'
  go_wp2
  go_ret
  refine ⟨rfl, .inr ?_, ?_, ?_⟩
  · exact Lib.BuilderAt.put (T := 57) (e := 5) hB hb2 (bs' := bs ++ [.int .u8 c]) (by simpa using hown') (by decide)
  · exact ((hb1.alloc (by omega) _).grown hgrow (by simp; omega) (fun k hk => (hown.lt k hk).1)).setCell (p := ⟨b, 1, none⟩) hB _
  · exact ((hk1.trans (KeepT.alloc b w1 _)).trans (KeepT.grown (hown.alloc _) hgrow)).trans (KeepT.setCell b 1 w2 _)

set_option maxHeartbeats 1000000 in
set_option maxRecDepth 100000 in
theorem writeString_any (b : Nat) (bs : List Value) (s : ByteArray) (w : World) (h : Lib.IsBuilder 57 5 b b bs w) (hlen : bs.length + s.size ≤ 140737488355328) :
    Calls Tryz.prog 48 #[.pointer (some ⟨b, 0, none⟩), .string s] w fun e w' => e = .returned (.tuple #[.int .i64 s.size, .nilIface]) ∧ Lib.IsBuilder 57 5 b b (bs ++ Lib.strCells s) w' ∧ Below b w w' ∧ KeepT b w w' := by
  obtain ⟨i0, hi, hz0, hz1, hz2⟩ := info_parts Tryz.info5
  go_enter Tryz.func48, Tryz.ntmps48
  go_wp2_with fail
  refine (check_any b bs _ h).mono ?_
  rintro e w1 ⟨rfl, h1, hb1, hk1⟩
  have hlt := h1.lt
  obtain ⟨hB, v, hbk, hown, hne⟩ := h1
  have c0 : w1.cell? ⟨b, 0, none⟩ = some (.pointer (some ⟨b, 0, none⟩)) := by rw [Lib.cell_of_heap hbk]; rfl
  have c1 : w1.cell? ⟨b, 1, none⟩ = some v := by rw [Lib.cell_of_heap hbk]; rfl
  go_wp2_with (at_builtin; refine Lib.wpList_append_own_string _ rfl _ _ 55 9 rfl b 5 i0 Tryz.underlying55 Tryz.underlying9 hi hz0 hz1 hz2 _ _ _ rfl hown s rfl ?c3 ?c4 ?c5 ?_)
  case c3 => unfold maxLen; omega
  case c4 => omega
  case c5 => omega
  intro v' w2 hown' hgrow _
  have hb2 : w2.heap[b]? = some (.cells #[.pointer (some ⟨b, 0, none⟩), v] 57 (0, 0)) := by
    rw [hgrow.block b hlt (fun e => hne e.symm)]
    exact hbk
  have d0 : w2.cell? ⟨b, 0, none⟩ = some (.pointer (some ⟨b, 0, none⟩)) := by rw [Lib.cell_of_heap hb2]; rfl
  have d1 : w2.cell? ⟨b, 1, none⟩ = some v := by rw [Lib.cell_of_heap hb2]; rfl
  have f1 : w2.frozen? ⟨b, 1, none⟩ = false := Lib.frozen_of_heap hb2 1
  obtain ⟨ao, n', cap, rfl⟩ : ∃ ao n' cap, v' = .slice ao n' cap := by
    rcases hown'.2 with ⟨hv, _⟩ | ⟨g, cap, cur, hv, _⟩
    · exact ⟨_, _, _, hv⟩
    · exact ⟨_, _, _, hv⟩
  go_wp2
  go_ret2
  refine ⟨rfl, .inr ?_, ?_, ?_⟩
  · exact Lib.BuilderAt.put (T := 57) (e := 5) hB hb2 (bs' := bs ++ Lib.strCells s) (by simpa [Lib.strCells_length] using hown') (by decide)
  · exact (hb1.grown hgrow (by omega) (fun k hk => (hown.lt k hk).1)).setCell (p := ⟨b, 1, none⟩) hB _
  · exact (hk1.trans (KeepT.grown hown hgrow)).trans (KeepT.setCell b 1 w2 _)
end Go.Proofs.YtnpifgcgjgddoaaGreatDoor.Q

namespace Go.Proofs.YtnpifgcgjgddoaaGreatDoor.Q
open Go.RowKit
theorem below1 (w : World) (o : Obj) : Below w.heap.size w (w.alloc o) := (Below.refl _ _).alloc (Nat.le_refl _) _
theorem lit_own (l : List Int) (hl : l.length ≤ 100) (w : World) : (w.alloc (.cells (l.map (Value.int .u8)).toArray 5)).ownsRow w.heap.size 5 1 (.slice (some ⟨w.heap.size, 0, none⟩) l.length l.length) l.length (l.map (Value.int .u8)) := by
  have h := World.ownsRow_lit (e := 5) (size := 1) (base := w.heap.size) w (l.map (Value.int .u8)).toArray l.length (Nat.le_refl _) (by unfold maxLen; omega) (by simp)
  simpa using h
theorem conv1 (c : Int) (w : World) : (convert 55 9 (.slice (some ⟨w.heap.size, 0, none⟩) 1 1)).run Tryz.prog (w.alloc (.cells #[.int .u8 c] 5)) = .ok (.string (asText [c])) (w.alloc (.cells #[.int .u8 c] 5)) :=
  text_own (l := [c]) (lit_own [c] (by simp) w)
theorem conv2 (c d : Int) (w : World) : (convert 55 9 (.slice (some ⟨w.heap.size, 0, none⟩) 2 2)).run Tryz.prog (w.alloc (.cells #[.int .u8 c, .int .u8 d] 5)) = .ok (.string (asText [c, d])) (w.alloc (.cells #[.int .u8 c, .int .u8 d] 5)) :=
  text_own (l := [c, d]) (lit_own [c, d] (by simp) w)
theorem conv4d (a b c d : Int) (w : World) : (convert 55 9 (.slice (some ⟨w.heap.size, 0, none⟩) 4 4)).run Tryz.prog (w.alloc (.cells #[.int .u8 a, .int .u8 b, .int .u8 c, .int .u8 d] 5)).drew = .ok (.string (asText [a, b, c, d])) (w.alloc (.cells #[.int .u8 a, .int .u8 b, .int .u8 c, .int .u8 d] 5)).drew :=
  text_own (l := [a, b, c, d]) (w := (w.alloc (.cells #[.int .u8 a, .int .u8 b, .int .u8 c, .int .u8 d] 5)).drew) (base := w.heap.size) (lit_own [a, b, c, d] (by simp) w)
theorem dig_of : ∀ m : Fin 16, ((digs[m.val]'m.isLt).toNat : Int) = hexD (m.val : Int) := by decide +kernel

set_option maxRecDepth 100000 in
set_option maxHeartbeats 1000000 in
theorem showB_hex (b : Nat) (hb : b < 256) (w : World) (h1 : ((b : Int) == 10) = false) (h2 : ((b : Int) == 13) = false) (h3 : ((b : Int) == 9) = false) (h4 : ((b : Int) == 39) = false) (h5 : ((b : Int) == 92) = false) (h6 : ¬ (32 ≤ (b : Int) ∧ (b : Int) ≤ 126)) :
    Calls Tryz.prog 124 #[.int .u8 b] w fun e w' => e = .returned (.string (asText [92, 120, hexD ((b : Int) / 16), hexD ((b : Int) % 16)])) ∧ Below w.heap.size w w' := by
  have t1 : IntKind.u8.wrap ((b : Int) / 16) = ((b / 16 : Nat) : Int) := by rw [IntKind.wrap_u8']; omega
  have t2 : IntKind.u8.wrap ((b : Int) % 16) = ((b % 16 : Nat) : Int) := by rw [IntKind.wrap_u8']; omega
  have t3 : (b : Int) / 16 = ((b / 16 : Nat) : Int) := by omega
  have t4 : (b : Int) % 16 = ((b % 16 : Nat) : Int) := by omega
  have k0 : (0 : Int) ≤ ((b / 16 : Nat) : Int) := by omega
  have k1 : ((b / 16 : Nat) : Int) < 16 := by omega
  have k2 : (0 : Int) ≤ ((b % 16 : Nat) : Int) := by omega
  have k3 : ((b % 16 : Nat) : Int) < 16 := by omega
  have q1 : b / 16 < 16 := by omega
  have q2 : b % 16 < 16 := by omega
  have hcv := conv4d 92 120 ((digs[b / 16]'q1).toNat : Int) ((digs[b % 16]'q2).toNat : Int) w
  have HR : Hid (asText [92, 120, hexD ((b : Int) / 16), hexD ((b : Int) % 16)] = asText [92, 120, ((digs[b / 16]'q1).toNat : Int), ((digs[b % 16]'q2).toNat : Int)]) := (by
    show _ = _
    rw [t3, t4, ← dig_of ⟨b / 16, q1⟩, ← dig_of ⟨b % 16, q2⟩])
  rw [HR.out]
  clear HR
  have hg : ¬ 32 ≤ (b : Int) ∨ (32 ≤ (b : Int) ∧ ¬ (b : Int) ≤ 126) := by omega
  clear h6
  generalize b / 16 = m at *
  generalize b % 16 = n at *
  rcases hg with hg | ⟨hg, hg2⟩
  all_goals
    go_enter Tryz.func124, Tryz.ntmps124
    go_wp2_with fail
    go_region
    all_goals
      go_wp2
      go_ret
      exact ⟨rfl, (below1 _ _).drew⟩

set_option maxRecDepth 100000 in
set_option maxHeartbeats 1000000 in
theorem showB_any (b : Nat) (hb : b < 256) (w : World) :
    Calls Tryz.prog 124 #[.int .u8 b] w fun e w' => e = .returned (.string (asText (shB b))) ∧ Below w.heap.size w w' := by
  unfold shB
  by_cases h1 : (b : Int) = 10
  · rw [if_pos h1]
    have e1 : ((b : Int) == 10) = true := beq_iff_eq.2 h1
    clear h1
    go_enter Tryz.func124, Tryz.ntmps124
    go_wp2
    go_ret
    exact ⟨rfl, Below.refl _ _⟩
  rw [if_neg h1]
  have e1 : ((b : Int) == 10) = false := beq_eq_false_iff_ne.2 h1
  by_cases h2 : (b : Int) = 13
  · rw [if_pos h2]
    have e2 : ((b : Int) == 13) = true := beq_iff_eq.2 h2
    clear h1 h2
    go_enter Tryz.func124, Tryz.ntmps124
    go_wp2
    go_ret
    exact ⟨rfl, Below.refl _ _⟩
  rw [if_neg h2]
  have e2 : ((b : Int) == 13) = false := beq_eq_false_iff_ne.2 h2
  by_cases h3 : (b : Int) = 9
  · rw [if_pos h3]
    have e3 : ((b : Int) == 9) = true := beq_iff_eq.2 h3
    clear h1 h2 h3
    go_enter Tryz.func124, Tryz.ntmps124
    go_wp2
    go_ret
    exact ⟨rfl, Below.refl _ _⟩
  rw [if_neg h3]
  have e3 : ((b : Int) == 9) = false := beq_eq_false_iff_ne.2 h3
  by_cases h4 : (b : Int) = 39 ∨ (b : Int) = 92
  · rw [if_pos h4]
    have hg : ((b : Int) == 39) = true ∨ (((b : Int) == 39) = false ∧ ((b : Int) == 92) = true) := by
      rcases h4 with h | h
      · exact .inl (beq_iff_eq.2 h)
      · exact .inr ⟨beq_eq_false_iff_ne.2 (by omega), beq_iff_eq.2 h⟩
    have hcv := conv2 92 (b : Int) w
    clear h1 h2 h3 h4
    rcases hg with e4 | ⟨e4, e5⟩
    all_goals
      go_enter Tryz.func124, Tryz.ntmps124
      go_wp2
      go_ret
      exact ⟨rfl, below1 _ _⟩
  rw [if_neg h4]
  have e4 : ((b : Int) == 39) = false := beq_eq_false_iff_ne.2 (by omega)
  have e5 : ((b : Int) == 92) = false := beq_eq_false_iff_ne.2 (by omega)
  by_cases h5 : 32 ≤ (b : Int) ∧ (b : Int) ≤ 126
  · rw [if_pos h5]
    obtain ⟨h6, h7⟩ := h5
    have hcv := conv1 (b : Int) w
    clear h1 h2 h3 h4
    go_enter Tryz.func124, Tryz.ntmps124
    go_wp2
    go_ret
    exact ⟨rfl, below1 _ _⟩
  rw [if_neg h5]
  exact showB_hex b hb w e1 e2 e3 e4 e5 h5
end Go.Proofs.YtnpifgcgjgddoaaGreatDoor.Q

namespace Go.Proofs.YtnpifgcgjgddoaaGreatDoor.Q
open Go.RowKit
theorem bld_below {w w' : World} {b : Nat} {bs : List Value} (h : Lib.IsBuilder 57 5 b b bs w) (hb : Below w.heap.size w w') : Lib.IsBuilder 57 5 b b bs w' := by
  have key : ∀ p, Lib.BuilderAt 57 5 b b p bs w → Lib.BuilderAt 57 5 b b p bs w' := fun p hp => by
    have hlt := hp.lt
    obtain ⟨hB, v, hbk, hown, hne⟩ := hp
    exact ⟨hB, v, (hb.block b hlt).trans hbk, own_below hown hb, hne⟩
  exact h.imp (key _) (key _)

theorem quV_long {s : ByteArray} (h : 65536 < s.size ∨ 65536 < (qT s).length) : quV s = .tuple #[.string ⟨#[]⟩, .int .i64 2] := by unfold quV; rw [if_pos h]
theorem quV_fits {s : ByteArray} (h : ¬ (65536 < s.size ∨ 65536 < (qT s).length)) : quV s = .tuple #[.string (asText (qT s)), .int .i64 0] := by unfold quV; rw [if_neg h]

set_option maxRecDepth 100000 in
set_option maxHeartbeats 4000000 in
theorem quote_any (s : ByteArray) (w : World) :
    Calls Tryz.prog 100 #[.string s] w fun e w' => e = .returned (quV s) ∧ Below w.heap.size w w' := by
  by_cases h : 65536 < s.size
  · have HE := (show Hid _ from quV_long (.inl h))
    have h1 : (65536 : Int) < (s.size : Int) := by omega
    go_enter Tryz.func100, Tryz.ntmps100
    go_wp2
    go_ret2
    exact ⟨by rw [HE.out]; rfl, Below.refl _ _⟩
  · have h1 : ¬ (65536 : Int) < (s.size : Int) := by omega
    have t1 : decide ((65536 : Int) < (s.size : Int)) = false := decide_eq_false (by omega)
    have HK := (show Hid _ from Lib.fresh_isBuilder 57 5 w)
    have HB := (show Hid _ from below1 w (.cells #[.pointer none, .slice none 0 0] 57))
    go_enter Tryz.func100, Tryz.ntmps100
    go_wp2_with fail
    refine (writeByte_any w.heap.size [] 39 _ HK.out (by simp)).mono ?_
    rintro e w1 ⟨rfl, hk1, hb1, _⟩
    have HK1 := (show Hid (Lib.IsBuilder 57 5 w.heap.size w.heap.size ((qTo s 0).map (Value.int .u8)) w1) from hk1)
    have HB1 := (show Hid _ from HB.out.trans (hb1.mono (Nat.le_refl _)))
    clear hk1 hb1 HK HB
    go_wp2_with fail
    go_loopw [5] (fun t wr => ∃ k : Nat, k ≤ s.size ∧ t = .int .i64 k ∧ Hid (Lib.IsBuilder 57 5 w.heap.size w.heap.size ((qTo s k).map (Value.int .u8)) wr ∧ Below w.heap.size w wr)) (fun t _ => s.size - (intOf t).toNat)
    case atStart => exact ⟨0, by omega, rfl, HK1.out, HB1.out⟩
    case round =>
      obtain ⟨k, hk, rfl, HI⟩ := hrel
      clear HK1 HB1
      have hql := qTo_len s k
      by_cases hlt : k < s.size
      · have HS := (show Hid _ from qTo_succ s k hlt)
        have hbb : s[k].toNat < 256 := s[k].toNat_lt
        have HW : Hid (∀ w, Calls Tryz.prog 124 #[.int .u8 (s[k].toNat : Int)] w fun e w' => e = .returned (.string (asText (shB (s[k].toNat : Int)))) ∧ Below w.heap.size w w') := fun w => showB_any _ hbb w
        have HT : Hid ((asText (shB (s[k].toNat : Int))).size ≤ 4) := (by show _ ≤ 4; rw [asText_size]; exact (shB_len _).2)
        have HC : Hid (Lib.strCells (asText (shB (s[k].toNat : Int))) = (shB (s[k].toNat : Int)).map (Value.int .u8)) := strCells_text (shB_by (by omega) (by omega))
        go_wp2_with fail
        refine (HW.out _).mono ?_
        rintro e w2 ⟨rfl, hb2⟩
        have HJ := (show Hid _ from (⟨bld_below HI.out.1 hb2, HI.out.2.trans (hb2.mono HI.out.2.size)⟩ : _ ∧ _))
        clear hb2 HI HW
        go_wp2_with fail
        refine (writeString_any w.heap.size _ _ _ HJ.out.1 (by have h := HT.out; rw [List.length_map]; omega)).mono ?_
        rintro e w3 ⟨rfl, hk3, hb3, _⟩
        have HI3 := (show Hid (Lib.IsBuilder 57 5 w.heap.size w.heap.size ((qTo s (k + 1)).map (Value.int .u8)) w3 ∧ Below w.heap.size w w3) from (by
          refine ⟨?_, HJ.out.2.trans (hb3.mono (Nat.le_refl _))⟩
          rw [HS.out, List.map_append, ← HC.out]
          exact hk3))
        clear hk3 hb3 HJ
        go_wp2
        go_roundw
        case rel => exact ⟨k + 1, by omega, by go_num, HI3⟩
        case measure => simp [intOf]; omega
      · have HA := (show Hid _ from qTo_all s k (by omega))
        go_wp2_with fail
        refine (writeByte_any w.heap.size _ 39 _ HI.out.1 (by rw [List.length_map]; omega)).mono ?_
        rintro e w3 ⟨rfl, hk3, hb3, _⟩
        have HI3 := (show Hid (Lib.IsBuilder 57 5 w.heap.size w.heap.size ((qT s).map (Value.int .u8)) w3 ∧ Below w.heap.size w w3) from (by
          refine ⟨?_, HI.out.2.trans (hb3.mono (Nat.le_refl _))⟩
          rw [← HA.out, List.map_append]
          exact hk3))
        clear hk3 hb3 HI HA
        go_wp2_with fail
        refine (Tryz.Builder_Len w.heap.size w.heap.size _ _ HI3.out.1).mono ?_
        rintro e w4 ⟨rfl, rfl⟩
        rw [List.length_map]
        by_cases hq : 65536 < (qT s).length
        · have HE := (show Hid _ from quV_long (.inr hq))
          have hqI : (65536 : Int) < ((qT s).length : Int) := by omega
          go_wp2
          go_ret2
          exact ⟨by rw [HE.out]; rfl, HI3.out.2⟩
        · have HE := (show Hid _ from quV_fits (s := s) (by omega))
          have hqI : ¬ (65536 : Int) < ((qT s).length : Int) := by omega
          have HX := (show Hid (Lib.IsBuilder 57 5 w.heap.size w.heap.size (Lib.byteCells ((qT s).map fun n => UInt8.ofNat n.toNat)) w4) from (by
            show Lib.IsBuilder _ _ _ _ _ _
            rw [by_cells (qT_by s)]
            exact HI3.out.1))
          clear hq
          generalize (qT s).length = L at *
          go_wp2_with fail
          refine (Tryz.Builder_String_any w.heap.size w.heap.size _ _ HX.out HI3.out.2.size).mono ?_
          rintro e w5 ⟨rfl, hb5⟩
          go_wp2
          go_ret2
          exact ⟨by rw [HE.out, asText_eq]; rfl, HI3.out.2.trans hb5⟩
end Go.Proofs.YtnpifgcgjgddoaaGreatDoor.Q

namespace Go.Proofs.YtnpifgcgjgddoaaGreatDoor
open Go.RowKit
/-- What is told of the first bytes. -/
def liT (s : ByteArray) (k : Nat) : List Int := ((Q.byl s).take k).flatMap Q.shB
theorem liT_succ (s : ByteArray) (k : Nat) (h : k < s.size) : liT s (k + 1) = liT s k ++ Q.shB (s[k].toNat : Int) := by
  have h2 := Q.qTo_succ s k h
  unfold Q.qTo at h2
  rw [List.cons_append] at h2
  exact (List.cons.inj h2).2
theorem liT_len (s : ByteArray) (k : Nat) : (liT s k).length ≤ 4 * k := by
  have h := (Q.qTo_len s k).1
  unfold Q.qTo at h
  rw [List.length_cons] at h
  unfold liT
  omega
theorem liT_all (s : ByteArray) (k : Nat) (h : s.size ≤ k) : (⟨#[39]⟩ : ByteArray) ++ asText (liT s k) ++ ⟨#[39]⟩ = Q.asText (Q.qT s) := by
  rw [← Q.qTo_all s k h, ← q_text, Q.asText_eq, Q.asText_eq]
  unfold Q.qTo liT
  apply ByteArray.ext
  simp
theorem own_slice {w : World} {base e sz : Nat} {v : Value} {n : Nat} {xs : List Value} (h : w.ownsRow base e sz v n xs) : ∃ ao cap, v = .slice ao n cap := by
  rcases h.2 with ⟨rfl, rfl⟩ | ⟨g, cap, cur, rfl, _⟩
  · exact ⟨_, _, rfl⟩
  · exact ⟨_, _, rfl⟩
theorem hexD_q : ∀ m : Fin 16, ((hexD m.val).toNat : Int) = Q.hexD (m.val : Int) := by decide
theorem cells2 (a b : UInt8) : Lib.strCells ⟨#[a, b]⟩ = [.int .u8 (a.toNat : Int), .int .u8 (b.toNat : Int)] := by simp [Lib.strCells]
theorem cells4 (a b c d : UInt8) : Lib.strCells ⟨#[a, b, c, d]⟩ = [.int .u8 (a.toNat : Int), .int .u8 (b.toNat : Int), .int .u8 (c.toNat : Int), .int .u8 (d.toNat : Int)] := by simp [Lib.strCells]
set_option maxRecDepth 100000 in
set_option maxHeartbeats 16000000 in
theorem literal_any (s : ByteArray) (hs : s.size ≤ 255) (w : World) : Calls Tryz.prog 80 #[.string s] w fun e w' => e = .returned (.string (Q.asText (Q.qT s))) ∧ Below w.heap.size w w' := by
  obtain ⟨i0, hinf, hz0, hz1, hz2⟩ := info_parts Tryz.info5
  have HO : Hid (w.ownsRow w.heap.size 5 1 (.slice none 0 0) (liT s 0).length ((liT s 0).map (Value.int .u8))) := World.ownsRow_nil _ _ _ _
  go_enter Tryz.func80, Tryz.ntmps80
  go_wp2_with fail
  go_loopw [3, 4] (fun v t wr => ∃ k : Nat, k ≤ s.size ∧ t = .int .i64 k ∧ Hid (wr.ownsRow w.heap.size 5 1 v (liT s k).length ((liT s k).map (Value.int .u8)) ∧ Below w.heap.size w wr)) (fun _ t _ => s.size - (intOf t).toNat)
  case atStart => exact ⟨0, by omega, by go_num, HO.out, Below.refl _ _⟩
  case round =>
    obtain ⟨k, hk, rfl, HI⟩ := hrel
    clear HO
    have hql := liT_len s k
    obtain ⟨ao, cap, hv⟩ := own_slice HI.out.1
    subst hv
    by_cases hlt : k < s.size
    · have HQ := (show Hid _ from liT_succ s k hlt)
      have hbb : (s[k].toNat : Int) ≤ 255 := by have := s[k].toNat_lt; omega
      have hwr := HI.out.2.size
      by_cases h10 : (s[k].toNat : Int) = 10
      · have HS := (show Hid (liT s (k + 1) = liT s k ++ [92, 110]) from (by show _ = _; rw [HQ.out]; unfold Q.shB; rw [if_pos h10]))
        have e10 : ((s[k].toNat : Int) == 10) = true := beq_iff_eq.2 h10
        clear HQ h10
        go_wp2_with (at_builtin; refine Lib.wpList_append_own_string _ rfl _ _ 55 9 rfl w.heap.size 5 i0 Tryz.underlying55 Tryz.underlying9 hinf hz0 hz1 hz2 _ _ _ rfl HI.out.1 ⟨#[92, 110]⟩ rfl ?c3 ?c4 ?c5 ?_)
        case c3 => unfold maxLen; show _ + 2 ≤ _; omega
        case c4 => show _ + 2 ≤ _; omega
        case c5 => exact HI.out.2.size
        intro v' w2 hown' hgrow _
        have HI2 := (show Hid (w2.ownsRow w.heap.size 5 1 v' (liT s (k + 1)).length ((liT s (k + 1)).map (Value.int .u8)) ∧ Below w.heap.size w w2) from (by
          refine ⟨?_, HI.out.2.grown hgrow HI.out.2.size (fun j e => (HI.out.1.lt j e).1)⟩
          rw [HS.out, List.length_append, List.map_append]
          rw [cells2] at hown'
          exact hown'))
        clear hown' hgrow
        go_wp2
        go_roundw
        case rel => exact ⟨k + 1, by omega, by go_num, HI2⟩
        case measure => simp [intOf]; omega
      have e10 : ((s[k].toNat : Int) == 10) = false := beq_eq_false_iff_ne.2 h10
      by_cases h13 : (s[k].toNat : Int) = 13
      · have HS := (show Hid (liT s (k + 1) = liT s k ++ [92, 114]) from (by show _ = _; rw [HQ.out]; unfold Q.shB; rw [if_neg h10, if_pos h13]))
        have e13 : ((s[k].toNat : Int) == 13) = true := beq_iff_eq.2 h13
        clear HQ h10 h13
        go_wp2_with (at_builtin; refine Lib.wpList_append_own_string _ rfl _ _ 55 9 rfl w.heap.size 5 i0 Tryz.underlying55 Tryz.underlying9 hinf hz0 hz1 hz2 _ _ _ rfl HI.out.1 ⟨#[92, 114]⟩ rfl ?c3 ?c4 ?c5 ?_)
        case c3 => unfold maxLen; show _ + 2 ≤ _; omega
        case c4 => show _ + 2 ≤ _; omega
        case c5 => exact HI.out.2.size
        intro v' w2 hown' hgrow _
        have HI2 := (show Hid (w2.ownsRow w.heap.size 5 1 v' (liT s (k + 1)).length ((liT s (k + 1)).map (Value.int .u8)) ∧ Below w.heap.size w w2) from (by
          refine ⟨?_, HI.out.2.grown hgrow HI.out.2.size (fun j e => (HI.out.1.lt j e).1)⟩
          rw [HS.out, List.length_append, List.map_append]
          rw [cells2] at hown'
          exact hown'))
        clear hown' hgrow
        go_wp2
        go_roundw
        case rel => exact ⟨k + 1, by omega, by go_num, HI2⟩
        case measure => simp [intOf]; omega
      have e13 : ((s[k].toNat : Int) == 13) = false := beq_eq_false_iff_ne.2 h13
      by_cases h9 : (s[k].toNat : Int) = 9
      · have HS := (show Hid (liT s (k + 1) = liT s k ++ [92, 116]) from (by show _ = _; rw [HQ.out]; unfold Q.shB; rw [if_neg h10, if_neg h13, if_pos h9]))
        have e9 : ((s[k].toNat : Int) == 9) = true := beq_iff_eq.2 h9
        clear HQ h10 h13 h9
        go_wp2_with (at_builtin; refine Lib.wpList_append_own_string _ rfl _ _ 55 9 rfl w.heap.size 5 i0 Tryz.underlying55 Tryz.underlying9 hinf hz0 hz1 hz2 _ _ _ rfl HI.out.1 ⟨#[92, 116]⟩ rfl ?c3 ?c4 ?c5 ?_)
        case c3 => unfold maxLen; show _ + 2 ≤ _; omega
        case c4 => show _ + 2 ≤ _; omega
        case c5 => exact HI.out.2.size
        intro v' w2 hown' hgrow _
        have HI2 := (show Hid (w2.ownsRow w.heap.size 5 1 v' (liT s (k + 1)).length ((liT s (k + 1)).map (Value.int .u8)) ∧ Below w.heap.size w w2) from (by
          refine ⟨?_, HI.out.2.grown hgrow HI.out.2.size (fun j e => (HI.out.1.lt j e).1)⟩
          rw [HS.out, List.length_append, List.map_append]
          rw [cells2] at hown'
          exact hown'))
        clear hown' hgrow
        go_wp2
        go_roundw
        case rel => exact ⟨k + 1, by omega, by go_num, HI2⟩
        case measure => simp [intOf]; omega
      have e9 : ((s[k].toNat : Int) == 9) = false := beq_eq_false_iff_ne.2 h9
      by_cases hg : (s[k].toNat : Int) = 39 ∨ (s[k].toNat : Int) = 92
      · have HS := (show Hid (liT s (k + 1) = liT s k ++ [92, (s[k].toNat : Int)]) from (by show _ = _; rw [HQ.out]; unfold Q.shB; rw [if_neg h10, if_neg h13, if_neg h9, if_pos hg]))
        have hg2 : ((s[k].toNat : Int) == 92) = true ∨ (((s[k].toNat : Int) == 92) = false ∧ ((s[k].toNat : Int) == 39) = true) := by
          rcases hg with h | h
          · exact .inr ⟨beq_eq_false_iff_ne.2 (by omega), beq_iff_eq.2 h⟩
          · exact .inl (beq_iff_eq.2 h)
        clear HQ h10 h13 h9 hg
        rcases hg2 with e92 | ⟨e92, e39⟩
        all_goals
          go_wp2_with (at_builtin; refine wpList_append_own _ rfl _ _ 55 rfl w.heap.size 5 i0 (.int .u8 0) 1 1 Tryz.underlying55 hinf hz0 hz1 hz2 rfl (by decide) _ _ _ rfl (HI.out.1.alloc _) ⟨wr.heap.size, 0, none⟩ 2 2 [.int .u8 92, .int .u8 (s[k].toNat : Int)] rfl rfl ?c1 ?c2 ?c3 ?c4 ?c5 ?_)
          case c1 => exact (Q.lit_own [92, (s[k].toNat : Int)] (by simp) wr).cells rfl
          case c2 => first | rfl | (intro u hu; simp at hu; rcases hu with rfl | rfl <;> rfl) | (intro u hu; simp at hu; subst hu; rfl)
          case c3 => unfold maxLen; omega
          case c4 => omega
          case c5 => first | omega | (simp; omega)
          intro v' w2 hown' hgrow _
          have hle := fun j e => (HI.out.1.lt j e).1
          have HI2 := (show Hid (w2.ownsRow w.heap.size 5 1 v' (liT s (k + 1)).length ((liT s (k + 1)).map (Value.int .u8)) ∧ Below w.heap.size w w2) from (by
            refine ⟨?_, (HI.out.2.alloc HI.out.2.size (.cells #[.int .u8 92, .int .u8 (s[k].toNat : Int)] 5)).grown hgrow (by have := HI.out.2.size; simp; omega) (fun j e => hle j e)⟩
            rw [HS.out, List.length_append, List.map_append]
            exact hown'))
          clear hown' hgrow hle
          go_wp2
          go_roundw
          case rel => exact ⟨k + 1, by omega, by go_num, HI2⟩
          case measure => simp [intOf]; omega
      have e39 : ((s[k].toNat : Int) == 39) = false := beq_eq_false_iff_ne.2 (by omega)
      have e92 : ((s[k].toNat : Int) == 92) = false := beq_eq_false_iff_ne.2 (by omega)
      by_cases hp : 32 ≤ (s[k].toNat : Int) ∧ (s[k].toNat : Int) ≤ 126
      · have HS := (show Hid (liT s (k + 1) = liT s k ++ [(s[k].toNat : Int)]) from (by show _ = _; rw [HQ.out]; unfold Q.shB; rw [if_neg h10, if_neg h13, if_neg h9, if_neg hg, if_pos hp]))
        obtain ⟨hp1, hp2⟩ := hp
        clear HQ h10 h13 h9 hg
        go_wp2_with (at_builtin; refine wpList_append_own _ rfl _ _ 55 rfl w.heap.size 5 i0 (.int .u8 0) 1 1 Tryz.underlying55 hinf hz0 hz1 hz2 rfl (by decide) _ _ _ rfl (HI.out.1.alloc _) ⟨wr.heap.size, 0, none⟩ 1 1 [.int .u8 (s[k].toNat : Int)] rfl rfl ?c1 ?c2 ?c3 ?c4 ?c5 ?_)
        case c1 => exact (Q.lit_own [(s[k].toNat : Int)] (by simp) wr).cells rfl
        case c2 => first | rfl | (intro u hu; simp at hu; rcases hu with rfl | rfl <;> rfl) | (intro u hu; simp at hu; subst hu; rfl)
        case c3 => unfold maxLen; omega
        case c4 => omega
        case c5 => first | omega | (simp; omega)
        intro v' w2 hown' hgrow _
        have hle := fun j e => (HI.out.1.lt j e).1
        have HI2 := (show Hid (w2.ownsRow w.heap.size 5 1 v' (liT s (k + 1)).length ((liT s (k + 1)).map (Value.int .u8)) ∧ Below w.heap.size w w2) from (by
          refine ⟨?_, (HI.out.2.alloc HI.out.2.size (.cells #[.int .u8 (s[k].toNat : Int)] 5)).grown hgrow (by have := HI.out.2.size; simp; omega) (fun j e => hle j e)⟩
          rw [HS.out, List.length_append, List.map_append]
          exact hown'))
        clear hown' hgrow hle
        go_wp2
        go_roundw
        case rel => exact ⟨k + 1, by omega, by go_num, HI2⟩
        case measure => simp [intOf]; omega
      have hm1 : s[k].toNat / 16 < 16 := by omega
      have hm2 : s[k].toNat % 16 < 16 := by omega
      have HS := (show Hid (liT s (k + 1) = liT s k ++ [92, 120, ((hexD (s[k].toNat / 16)).toNat : Int), ((hexD (s[k].toNat % 16)).toNat : Int)]) from (by
        show _ = _
        rw [HQ.out, hexD_q ⟨_, hm1⟩, hexD_q ⟨_, hm2⟩]
        unfold Q.shB
        rw [if_neg h10, if_neg h13, if_neg h9, if_neg hg, if_neg hp]
        rfl))
      have HX : Hid (∀ w, Calls Tryz.prog 103 #[.int .i64 (s[k].toNat : Int)] w fun e w' => e = .returned (.string ⟨#[hexD (s[k].toNat / 16), hexD (s[k].toNat % 16)]⟩) ∧ Below w.heap.size w w') := fun w => hexR_any _ (by omega) w
      have hp2 : ¬ 32 ≤ (s[k].toNat : Int) ∨ (32 ≤ (s[k].toNat : Int) ∧ ¬ (s[k].toNat : Int) ≤ 126) := by omega
      have hw8 : IntKind.i64.wrap (s[k].toNat : Int) = (s[k].toNat : Int) := by rw [IntKind.wrap_i64]; omega
      clear HQ h10 h13 h9 hg hp hm1 hm2
      generalize hexD (s[k].toNat / 16) = x at *
      generalize hexD (s[k].toNat % 16) = y at *
      rcases hp2 with hp2 | ⟨hp2, hp3⟩
      all_goals
        go_wp2_with fail
        refine (HX.out _).mono ?_
        rintro e w1 ⟨rfl, hb⟩
        have HJ := (show Hid (w1.ownsRow w.heap.size 5 1 (.slice ao (liT s k).length cap) (liT s k).length ((liT s k).map (Value.int .u8)) ∧ Below w.heap.size w w1) from ⟨own_below' HI.out.1 hb, HI.out.2.trans (hb.mono HI.out.2.size)⟩)
        clear hb HX HI
        go_wp2_with (at_builtin; refine Lib.wpList_append_own_string _ rfl _ _ 55 9 rfl w.heap.size 5 i0 Tryz.underlying55 Tryz.underlying9 hinf hz0 hz1 hz2 _ _ _ rfl HJ.out.1 (⟨#[92, 120]⟩ ++ ⟨#[x, y]⟩) rfl ?c3 ?c4 ?c5 ?_)
        case c3 => unfold maxLen; show _ + 4 ≤ _; omega
        case c4 => show _ + 4 ≤ _; omega
        case c5 => exact HJ.out.2.size
        intro v' w2 hown' hgrow _
        have HI2 := (show Hid (w2.ownsRow w.heap.size 5 1 v' (liT s (k + 1)).length ((liT s (k + 1)).map (Value.int .u8)) ∧ Below w.heap.size w w2) from (by
          refine ⟨?_, HJ.out.2.grown hgrow HJ.out.2.size (fun j e => (HJ.out.1.lt j e).1)⟩
          rw [HS.out, List.length_append, List.map_append]
          rw [cat22, cells4] at hown'
          exact hown'))
        clear hown' hgrow HJ
        go_wp2
        go_roundw
        case rel => exact ⟨k + 1, by omega, by go_num, HI2⟩
        case measure => simp [intOf]; omega
    · have HL := (show Hid _ from liT_all s k (by omega))
      have hct := text_own HI.out.1
      have hsz : (asText (liT s k)).size ≤ 1020 := by rw [asText_size]; omega
      have HB := (show Hid _ from HI.out.2)
      clear HI
      generalize asText (liT s k) = A at *
      go_wp2_with fail
      go_ret
      exact ⟨ret_str HL.out, HB.out⟩
end Go.Proofs.YtnpifgcgjgddoaaGreatDoor
