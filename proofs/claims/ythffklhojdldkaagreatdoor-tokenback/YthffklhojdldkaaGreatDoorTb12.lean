/- DERIVED. Plain mathematics and walks, laid together (12). -/
import Derived.Test.YthffklhojdldkaaGreatDoorTb11
namespace Go.Proofs.YthffklhojdldkaaGreatDoor
open Go.RowKit
theorem litGo_en (s : ByteArray) (q : Int) (b : Nat) (hq : 0 ≤ q) : ∀ (f : Nat) (out : List Int) (i : Nat) (t : Tk), litGo s q b f out i = .inl t → ∃ e : Nat, t.en = e ∧ i < e ∧ e ≤ s.size := by
  intro f
  induction f with
  | zero => intro out i t h; rw [litGo] at h; cases h
  | succ f ih =>
    intro out i t h
    rw [litGo] at h
    split at h
    · cases h
    next h0 =>
    split at h
    next h1 =>
      split at h
      · cases h
      · cases h
        have := chr_lt (s := s) (i := i) (by omega)
        exact ⟨i + 1, rfl, by omega, by omega⟩
    split at h
    · cases h
    split at h
    · obtain ⟨e, h1, h2, h3⟩ := ih _ _ _ h
      exact ⟨e, h1, by omega, h3⟩
    · split at h
      · cases h
      · next c n he =>
        have h4 := escT_lt he
        obtain ⟨e, h1, h2, h3⟩ := ih _ _ _ h
        exact ⟨e, h1, by omega, h3⟩
theorem litGo_ne (s : ByteArray) (q : Int) (b : Nat) : ∀ (f : Nat) (out : List Int) (i : Nat) (p : Nat × Int), litGo s q b f out i = .inr p → p.2 ≠ 0 := by
  intro f
  induction f with
  | zero => intro out i p h; rw [litGo] at h; cases h; simp
  | succ f ih =>
    intro out i p h
    rw [litGo] at h
    split at h
    · cases h; simp
    split at h
    · split at h
      · cases h; simp
      · cases h
    split at h
    · cases h; simp
    split at h
    · exact ih _ _ _ h
    · split at h
      · cases h; simp
      · exact ih _ _ _ h
theorem numR_en {s : ByteArray} {d : Nat} {m n : Int} (h : numR s d m = .inl n) : d < spN dgB s d := by
  unfold numR at h
  split at h
  · cases h
  · omega
theorem nmR_en {s : ByteArray} {b d : Nat} {k : Int} {t : Tk} (hd : d ≤ s.size) (h : nmR s b d k = .inl t) : ∃ e : Nat, t.en = e ∧ d < e ∧ e ≤ s.size := by
  unfold nmR at h
  cases hn : numR s d (gtK k) with
  | inr e => rw [hn] at h; cases h
  | inl n =>
    rw [hn] at h
    cases h
    exact ⟨_, rfl, numR_en hn, spN_le dgB s (by decide) d hd⟩
theorem numR_no {s : ByteArray} {d : Nat} {m e : Int} (h : numR s d m = .inr e) : e ≠ 0 := by
  unfold numR at h
  split at h
  · cases h; simp
  · split at h
    · cases h; simp
    · cases h
theorem nmR_no {s : ByteArray} {b d : Nat} {k : Int} {q : Nat × Int} (h : nmR s b d k = .inr q) : q.2 ≠ 0 := by
  unfold nmR at h
  cases hn : numR s d (gtK k) with
  | inr e => rw [hn] at h; cases h; exact numR_no hn
  | inl n => rw [hn] at h; cases h
theorem nameR_no {s : ByteArray} {b : Nat} {q : Nat × Int} (h : nameR s b = .inr q) : q.2 ≠ 0 := by
  unfold nameR at h
  split at h
  · cases h; simp
  · cases h
theorem grpP_no {s : ByteArray} {b d : Nat} {q : Nat × Int} (h : grpP s b d = .inr q) : q.2 ≠ 0 := by
  unfold grpP at h
  split at h
  · split at h
    · cases h; simp
    · split at h <;> cases h
  · cases h
theorem grpP_en {s : ByteArray} {b d : Nat} {t : Tk} (hd : d ≤ s.size) (h : grpP s b d = .inl t) : ∃ e : Nat, t.en = e ∧ d ≤ e ∧ e ≤ s.size := by
  unfold grpP at h
  split at h
  · split at h
    · cases h
    · split at h
      · next hc =>
        cases h
        have h1 := spN_ge nmB s (by decide) d
        have h2 := chr_lt (s := s) (i := spN nmB s d) (by omega)
        exact ⟨_, rfl, by omega, by omega⟩
      · cases h; exact ⟨d, rfl, Nat.le_refl _, hd⟩
  · cases h; exact ⟨d, rfl, Nat.le_refl _, hd⟩
theorem sgGo_pos (s : ByteArray) (i : Nat) : ∀ l : List (Int × List UInt8), (∀ p ∈ l, p.1 ≠ 0 ∧ 1 ≤ p.2.length) → (sgGo s i l).1 = 0 ∨ 1 ≤ (sgGo s i l).2.length := by
  intro l
  induction l with
  | nil => intro _; exact .inl rfl
  | cons p l ih =>
    intro h
    rw [sgGo]
    split
    · exact .inr (h p (List.mem_cons_self ..)).2
    · exact ih (fun q hq => h q (List.mem_cons_of_mem _ hq))
theorem sgAt_pos (s : ByteArray) (i : Nat) : (sgAt s i).1 = 0 ∨ 1 ≤ (sgAt s i).2.length := sgGo_pos s i sgTab (by decide)
theorem sigP_en {s : ByteArray} {b : Nat} {t : Tk} (hb : b ≤ s.size) (h : sigP s b = .inl t) : ∃ e : Nat, t.en = e ∧ b < e ∧ e ≤ s.size := by
  have h1 := sgAt_len s b hb
  have h2 := sgAt_pos s b
  unfold sigP at h
  split at h
  · cases h
  next h0 =>
  have h3 : 1 ≤ (sgAt s b).2.length := by rcases h2 with q | q; exact absurd q h0; exact q
  split at h
  · obtain ⟨e, a1, a2, a3⟩ := nmR_en h1 h
    exact ⟨e, a1, by omega, a3⟩
  split at h
  · obtain ⟨e, a1, a2, a3⟩ := grpP_en h1 h
    exact ⟨e, a1, by omega, a3⟩
  · cases h
    exact ⟨_, rfl, by omega, h1⟩
theorem sigP_no {s : ByteArray} {b : Nat} {q : Nat × Int} (h : sigP s b = .inr q) : q.2 ≠ 0 := by
  unfold sigP at h
  split at h
  · cases h; simp
  split at h
  · exact nmR_no h
  split at h
  · exact grpP_no h
  · cases h
theorem ptsP_en {s : ByteArray} {b : Nat} {t : Tk} (hb : b + 3 ≤ s.size) (h : ptsP s b = .inl t) : ∃ e : Nat, t.en = e ∧ b < e ∧ e ≤ s.size := by
  have h1 := ptP_le hb
  unfold ptsP at h
  split at h
  · cases h
  split at h
  · next h45 =>
    have h2 := chr_lt (s := s) (i := (ptP s (b + 3)).2.1) (by omega)
    have h3 := ptP_le (s := s) (a := (ptP s (b + 3)).2.1 + 1) (by omega)
    split at h
    · cases h
    split at h
    · next hc =>
      cases h
      have h4 := chr_lt (s := s) (i := (ptP s ((ptP s (b + 3)).2.1 + 1)).2.1) (by omega)
      exact ⟨_, rfl, by omega, by omega⟩
    · cases h
  · split at h
    · next hc =>
      cases h
      have h4 := chr_lt (s := s) (i := (ptP s (b + 3)).2.1) (by omega)
      exact ⟨_, rfl, by omega, by omega⟩
    · cases h
theorem ptsP_no {s : ByteArray} {b : Nat} {q : Nat × Int} (h : ptsP s b = .inr q) : q.2 ≠ 0 := by
  unfold ptsP at h
  split at h
  · cases h; simp
  split at h
  · split at h
    · cases h; simp
    split at h
    · cases h
    · cases h; simp
  · split at h
    · cases h
    · cases h; simp
theorem pctP_en {s : ByteArray} {b : Nat} {t : Tk} (hb : b ≤ s.size) (h : pctP s b = .inl t) : ∃ e : Nat, t.en = e ∧ b < e ∧ e ≤ s.size := by
  unfold pctP at h
  split at h
  · next hp => exact ptsP_en (pfx_len hb hp) h
  split at h
  · exact sigP_en hb h
  split at h
  · next hc => cases h; exact ⟨_, rfl, by omega, by omega⟩
  · cases h
theorem pctP_no {s : ByteArray} {b : Nat} {q : Nat × Int} (h : pctP s b = .inr q) : q.2 ≠ 0 := by
  unfold pctP at h
  split at h
  · exact ptsP_no h
  split at h
  · exact sigP_no h
  split at h
  · cases h
  · cases h; simp
theorem oneP_no (s : ByteArray) (b : Nat) (q : Nat × Int) (h : oneP s b = .inr q) : q.2 ≠ 0 := by
  unfold oneP at h
  split at h
  · exact nameR_no h
  split at h
  · exact nmR_no h
  split at h
  · exact litGo_ne _ _ _ _ _ _ _ h
  split at h
  · unfold clT at h
    cases hr : rdRead s b with
    | inl p => rw [hr] at h; cases h
    | inr p =>
      obtain ⟨a, c⟩ := p
      rw [hr] at h
      have hne := rdRead_ne hr
      dsimp only at h
      split at h
      · cases h; simp
      · cases h; exact hne
  split at h
  · exact pctP_no h
  · exact sigP_no h
theorem rdRead_gt {s : ByteArray} {i : Nat} {x : BitVec 256} {n : Nat} (h : rdRead s i = .inl (x, n)) : i < n := by
  unfold rdRead at h
  split at h
  · simp at h
  · split at h
    · split at h
      · cases hm : rdMembers s (s.size + 1) 0#256 ((i : Int).toNat + 2) with
        | inr pq =>
          obtain ⟨a', c'⟩ := pq
          rw [hm] at h; simp [rdTurn] at h
        | inl p => obtain ⟨y, m⟩ := p; have b := rdMembers_ok hm; rw [hm] at h; simp only [rdTurn, Sum.inl.injEq, Prod.mk.injEq] at h; omega
      · cases hm : rdMembers s (s.size + 1) 0#256 ((i : Int).toNat + 1) with
        | inr pq =>
          obtain ⟨a', c'⟩ := pq
          rw [hm] at h; simp [rdEnd] at h
        | inl p => obtain ⟨y, m⟩ := p; have b := rdMembers_ok hm; rw [hm] at h; simp only [rdEnd, Sum.inl.injEq, Prod.mk.injEq] at h; omega
    · simp at h
theorem oneP_en (s : ByteArray) (b : Nat) (t : Tk) (hb : b < s.size) (h : oneP s b = .inl t) : ∃ e : Nat, t.en = e ∧ b < e ∧ e ≤ s.size := by
  unfold oneP at h
  split at h
  · next hh =>
    unfold nameR at h
    split at h
    · cases h
    · cases h
      have h1 := (spN_next (P := nmB) (s := s) (i := b) (by decide) (by unfold nmB; rw [hh]; rfl)).2
      have h2 := spN_ge nmB s (by decide) (b + 1)
      exact ⟨_, rfl, by omega, spN_le nmB s (by decide) b (by omega)⟩
  split at h
  · exact nmR_en (by omega) h
  split at h
  · next hq =>
    obtain ⟨e, a1, a2, a3⟩ := litGo_en s _ b (by omega) _ _ _ _ h
    exact ⟨e, a1, by omega, a3⟩
  split at h
  · cases hr : rdRead s b with
    | inr p =>
      rw [hr, clT] at h
      split at h <;> cases h
    | inl p =>
      obtain ⟨x, n⟩ := p
      rw [hr] at h
      cases h
      exact ⟨n, rfl, rdRead_gt hr, rdRead_ok hr⟩
  split at h
  · exact pctP_en (by omega) h
  · exact sigP_en (by omega) h
end Go.Proofs.YthffklhojdldkaaGreatDoor

namespace Go.Proofs.YthffklhojdldkaaGreatDoor
open Go.RowKit
theorem spN_eq {P : Int → Bool} {s : ByteArray} (hn : P (-1) = false) {i e : Nat} (hie : i ≤ e) (h : ∀ k, i ≤ k → k < e → P (chr s k) = true) (he : P (chr s e) = false) : spN P s i = e := by
  obtain ⟨h1, _, h3, h4⟩ := spN_spec P s hn _ i rfl
  by_cases q : spN P s i < e
  · rw [h _ h1 q] at h3; cases h3
  · by_cases q2 : e < spN P s i
    · rw [h4 e hie q2] at he; cases he
    · omega
/-- The bytes of two texts are the same, so many from two places on. -/
def Ag (s : ByteArray) (b : Nat) (s' : ByteArray) (b' : Nat) (m : Nat) : Prop := ∀ k, k < m → chr s' (b' + k) = chr s (b + k)
theorem Ag.at {s s' : ByteArray} {b b' m : Nat} (h : Ag s b s' b' m) {j j' : Nat} (hb : b ≤ j) (hj : j < b + m) (e : j' = b' + (j - b)) : chr s' j' = chr s j := by
  have := h (j - b) (by omega)
  rw [show b + (j - b) = j from by omega] at this
  rw [e]; exact this
theorem Ag.sub {s s' : ByteArray} {b b' m : Nat} (h : Ag s b s' b' m) (d : Nat) {m2 : Nat} (hm : d + m2 ≤ m) : Ag s (b + d) s' (b' + d) m2 := fun k hk => by
  have := h (d + k) (by omega)
  rw [Nat.add_assoc, Nat.add_assoc]; exact this
theorem run_move {P : Int → Bool} {s s' : ByteArray} (hn : P (-1) = false) {i i' m : Nat} (h : Ag s i s' i' m) (hs : spN P s i = i + m) (he : P (chr s' (i' + m)) = false) : spN P s' i' = i' + m := by
  obtain ⟨_, _, _, h4⟩ := spN_spec P s hn _ i rfl
  refine spN_eq hn (by omega) (fun k k1 k2 => ?_) he
  have := h (k - i') (by omega)
  rw [show i' + (k - i') = k from by omega] at this
  rw [this]
  exact h4 _ (by omega) (by omega)
theorem gapN_ge (s : ByteArray) (i : Nat) (h : i ≤ s.size) : i ≤ gapN s i := (gapN_bd h).1
theorem text_same {s s' : ByteArray} {b b' m : Nat} (h : Ag s b s' b' m) (h1 : b + m ≤ s.size) (h2 : b' + m ≤ s'.size) : s'.extract b' (b' + m) = s.extract b (b + m) := by
  apply ByteArray.ext
  apply Array.ext
  · show (s'.extract b' (b' + m)).size = (s.extract b (b + m)).size
    rw [ByteArray.size_extract, ByteArray.size_extract]; omega
  · intro k hk1 hk2
    have hk1' : k < (s'.extract b' (b' + m)).size := hk1
    have hk2' : k < (s.extract b (b + m)).size := hk2
    have hm : k < m := by rw [ByteArray.size_extract] at hk2'; omega
    have e1 := chr_ext (s := s') (a := b') (b := b' + m) (k := k) (by omega) h2
    have e2 := chr_ext (s := s) (a := b) (b := b + m) (k := k) (by omega) h1
    rw [h k hm, ← e2, chr_in hk1', chr_in hk2'] at e1
    exact (UInt8.toNat_inj.1 (Int.ofNat_inj.1 e1) : (s'.extract b' (b' + m))[k] = (s.extract b (b + m))[k])
end Go.Proofs.YthffklhojdldkaaGreatDoor

namespace Go.Proofs.YthffklhojdldkaaGreatDoor
open Go.RowKit
/-- A token at another place. -/
def mvT (t : Tk) (b' m : Nat) : Tk := { t with fr := b', en := (b' + m : Nat) }
theorem esc_move {s s' : ByteArray} {i i' m c n : Nat} (ha : Ag s i s' i' m) (h : escT s i = some (c, n)) (hn : n ≤ i + m) : escT s' i' = some (c, i' + (n - i)) := by
  have h2 := escT_lt h
  unfold escT at h ⊢
  have e1 : chr s' (i' + 1) = chr s (i + 1) := by
    by_cases q : 1 < m
    · exact ha 1 q
    · exfalso
      split at h; cases h; omega
      split at h; cases h; omega
      split at h; cases h; omega
      split at h; cases h; omega
      split at h; cases h; omega
      cases h
  rw [e1]
  split at h
  · next q => rw [if_pos q]; cases h; rw [show i + 2 - i = 2 from by omega]
  next q1 =>
  rw [if_neg q1]
  split at h
  · next q => rw [if_pos q]; cases h; rw [show i + 2 - i = 2 from by omega]
  next q2 =>
  rw [if_neg q2]
  split at h
  · next q => rw [if_pos q]; cases h; rw [show i + 2 - i = 2 from by omega]
  next q3 =>
  rw [if_neg q3]
  split at h
  · next q => rw [if_pos q]; cases h; rw [show i + 2 - i = 2 from by omega]
  next q4 =>
  rw [if_neg q4]
  split at h
  · next q =>
    cases h
    rw [ha 2 (by omega), ha 3 (by omega), if_pos q, show i + 4 - i = 4 from by omega]
  · cases h
theorem lit_move (s s' : ByteArray) (q : Int) (b b' : Nat) (hq : 0 ≤ q) : ∀ (f f' : Nat) (out : List Int) (i i' m : Nat) (t : Tk) (e : Nat), litGo s q b f out i = .inl t → t.en = e → e = i + m → Ag s i s' i' m → m ≤ f' → litGo s' q b' f' out i' = .inl { t with fr := b', en := (i' + m : Nat) } := by
  intro f
  induction f with
  | zero => intro f' out i i' m t e h; rw [litGo] at h; cases h
  | succ f ih =>
    intro f' out i i' m t e h he hm ha hf
    obtain ⟨e2, x1, x2, x3⟩ := litGo_en s q b hq _ _ _ _ h
    have : e2 = e := by omega
    subst this
    obtain ⟨f', rfl⟩ : ∃ g, f' = g + 1 := ⟨f' - 1, by omega⟩
    have h0 := ha 0 (by omega)
    rw [Nat.add_zero, Nat.add_zero] at h0
    rw [litGo] at h ⊢
    rw [h0]
    split at h
    · cases h
    next h1 =>
    rw [if_neg h1]
    split at h
    · next h2 =>
      rw [if_pos h2]
      split at h
      · cases h
      next h3 =>
      rw [if_neg h3]
      cases h
      have : m = 1 := by
        have he : ((i + 1 : Nat) : Int) = ((i + m : Nat) : Int) := by rw [← hm, ← he]; rfl
        omega
      subst this
      rfl
    next h2 =>
    rw [if_neg h2]
    split at h
    · cases h
    next h3 =>
    rw [if_neg h3]
    split at h
    · next h4 =>
      rw [if_pos h4]
      have h5 := litGo_en s q b hq _ _ _ _ h
      obtain ⟨e3, y1, y2, y3⟩ := h5
      have := ih f' (out ++ [chr s i]) (i + 1) (i' + 1) (m - 1) t e2 h he (by omega) (ha.sub 1 (by omega)) (by omega)
      rw [this, show i' + 1 + (m - 1) = i' + m from by omega]
    next h4 =>
    rw [if_neg h4]
    cases hx : escT s i with
    | none => rw [hx] at h; cases h
    | some p =>
      obtain ⟨c, n⟩ := p
      rw [hx] at h
      have h5 := escT_lt hx
      obtain ⟨e3, y1, y2, y3⟩ := litGo_en s q b hq _ _ _ _ h
      rw [esc_move ha hx (by omega)]
      have := ih f' (out ++ [(c : Int)]) n (i' + (n - i)) (m - (n - i)) t e2 h he (by omega) (by
        have h7 := ha.sub (n - i) (m2 := m - (n - i)) (by omega)
        rwa [show i + (n - i) = n from by omega] at h7) (by omega)
      show litGo s' q b' f' (out ++ [(c : Int)]) (i' + (n - i)) = _
      rw [this, show i' + (n - i) + (m - (n - i)) = i' + m from by omega]
theorem item_move {s s' : ByteArray} {i i' m c n : Nat} (ha : Ag s i s' i' m) (h : rdItem s i = some (c, n)) (hn : n ≤ i + m) : rdItem s' i' = some (c, i' + (n - i)) := by
  have hb := rdItem_bd h
  have h0 := ha 0 (by omega)
  rw [Nat.add_zero, Nat.add_zero] at h0
  unfold rdItem at h ⊢
  rw [h0]
  split at h
  · next q =>
    rw [if_pos q]
    unfold rdEsc at h ⊢
    have hm : 2 ≤ n - i := by
      split at h; cases h; omega
      split at h; cases h; omega
      split at h; cases h; omega
      split at h
      · unfold rdHex at h
        split at h
        · cases h; omega
        · cases h
      split at h
      · cases h; omega
      · cases h
    rw [ha 1 (by omega)]
    split at h
    · next q => rw [if_pos q]; cases h; rw [show i + 2 - i = 2 from by omega]
    next q1 =>
    rw [if_neg q1]
    split at h
    · next q => rw [if_pos q]; cases h; rw [show i + 2 - i = 2 from by omega]
    next q2 =>
    rw [if_neg q2]
    split at h
    · next q => rw [if_pos q]; cases h; rw [show i + 2 - i = 2 from by omega]
    next q3 =>
    rw [if_neg q3]
    split at h
    · next q =>
      rw [if_pos q]
      unfold rdHex at h ⊢
      split at h
      · next q5 =>
        cases h
        rw [ha 2 (by omega), ha 3 (by omega), if_pos q5, show i + 4 - i = 4 from by omega]
      · cases h
    next q4 =>
    rw [if_neg q4]
    split at h
    · next q5 => rw [if_pos q5]; cases h; rw [show i + 2 - i = 2 from by omega]
    · cases h
  · next q =>
    rw [if_neg q]
    split at h
    · cases h
    · next q2 => rw [if_neg q2]; cases h; rw [show i + 1 - i = 1 from by omega]
theorem member_move {s s' : ByteArray} {i i' m n : Nat} {y : BitVec 256} (ha : Ag s i s' i' m) (h : rdMember s i = .inl (y, n)) (hn : n < i + m) : rdMember s' i' = .inl (y, i' + (n - i)) := by
  have hb := rdMember_bd h
  have h0 := ha 0 (by omega)
  rw [Nat.add_zero, Nat.add_zero] at h0
  unfold rdMember at h ⊢
  rw [h0]
  split at h
  · next q =>
    rw [if_pos q]
    unfold rdClass at h ⊢
    split at h
    · next q2 =>
      cases h
      have e1 := ha 1 (by omega)
      have hlt : i' + 1 < s'.size := chr_lt (by rw [e1, chr_in q2.1]; omega)
      rw [e1, if_pos ⟨hlt, q2.2⟩, show i + 2 - i = 2 from by omega]
    · cases h
  · next q =>
    rw [if_neg q]
    cases hi : rdItem s i with
    | none => rw [hi] at h; cases h
    | some p =>
      obtain ⟨lo, n1⟩ := p
      rw [hi] at h
      have hb1 := rdItem_bd hi
      dsimp only at h
      split at h
      · next q45 =>
        cases hj : rdItem s (n1 + 1) with
        | none => rw [hj] at h; cases h
        | some p =>
          obtain ⟨hi2, e⟩ := p
          rw [hj] at h
          dsimp only at h
          have hb2 := rdItem_bd hj
          split at h
          · cases h
          · next q6 =>
            cases h
            rw [item_move ha hi (by omega)]
            dsimp only
            rw [ha.at (j := n1) (by omega) (by omega) rfl, if_pos q45]
            have := item_move (i' := i' + (n1 - i) + 1) (m := i + m - (n1 + 1)) (by
              have h7 := ha.sub (n1 + 1 - i) (m2 := i + m - (n1 + 1)) (by omega)
              rwa [show i + (n1 + 1 - i) = n1 + 1 from by omega, show i' + (n1 + 1 - i) = i' + (n1 - i) + 1 from by omega] at h7) hj (by omega)
            rw [this]
            dsimp only
            rw [if_neg q6, show i' + (n1 - i) + 1 + (n - (n1 + 1)) = i' + (n - i) from by omega]
      · next q45 =>
        cases h
        rw [item_move ha hi (by omega)]
        dsimp only
        rw [ha.at (j := n) (by omega) (by omega) rfl, if_neg q45]
theorem members_move (s s' : ByteArray) : ∀ (f f' : Nat) (x y : BitVec 256) (i i' m n : Nat), rdMembers s f x i = .inl (y, n) → Ag s i s' i' m → n < i + m → n - i < f' → rdMembers s' f' x i' = .inl (y, i' + (n - i)) := by
  intro f
  induction f with
  | zero => intro f' x y i i' m n h; rw [rdMembers] at h; cases h
  | succ f ih =>
    intro f' x y i i' m n h ha hn hf
    have hok := rdMembers_ok h
    obtain ⟨f', rfl⟩ : ∃ g, f' = g + 1 := ⟨f' - 1, by omega⟩
    have h0 := ha 0 (by omega)
    rw [Nat.add_zero, Nat.add_zero] at h0
    rw [rdMembers] at h ⊢
    rw [h0]
    split at h
    · next q => cases h; rw [if_pos q, Nat.sub_self, Nat.add_zero]
    · next q =>
      rw [if_neg q]
      cases hm : rdMember s i with
      | inr p => obtain ⟨a, c⟩ := p; rw [hm] at h; cases h
      | inl p =>
        obtain ⟨z, k⟩ := p
        rw [hm] at h
        dsimp only at h
        have hb := rdMember_bd hm
        have hok2 := rdMembers_ok h
        rw [member_move ha hm (by omega)]
        dsimp only
        have := ih f' (x ||| z) y k (i' + (k - i)) (i + m - k) n h (by
          have h7 := ha.sub (k - i) (m2 := i + m - k) (by omega)
          rwa [show i + (k - i) = k from by omega] at h7) (by omega) (by omega)
        rw [this, show i' + (k - i) + (n - k) = i' + (n - i) from by omega]
end Go.Proofs.YthffklhojdldkaaGreatDoor

namespace Go.Proofs.YthffklhojdldkaaGreatDoor
open Go.RowKit
/-- The sign that two bytes begin. -/
def sgC (c0 c1 : Int) : Int × List UInt8 :=
  if c0 = 37 then (if c1 = 101 then (29, [37, 101]) else if c1 = 102 then (30, [37, 102]) else (0, []))
  else if c0 = 94 then (if c1 = 43 then (14, [94, 43]) else if c1 = 45 then (15, [94, 45]) else (13, [94]))
  else if c0 = 60 then (if c1 = 45 then (6, [60, 45]) else (0, []))
  else if c0 = 45 then (if c1 = 62 then (27, [45, 62]) else (0, []))
  else if c0 = 47 then (7, [47])
  else if c0 = 38 then (8, [38])
  else if c0 = 33 then (9, [33])
  else if c0 = 63 then (10, [63])
  else if c0 = 42 then (11, [42])
  else if c0 = 43 then (12, [43])
  else if c0 = 40 then (16, [40])
  else if c0 = 41 then (17, [41])
  else if c0 = 46 then (18, [46])
  else if c0 = 123 then (if c1 = 58 then (21, [123, 58]) else if c1 = 124 then (23, [123, 124]) else if c1 = 126 then (25, [123, 126]) else (19, [123]))
  else if c0 = 58 then (if c1 = 125 then (22, [58, 125]) else (0, []))
  else if c0 = 124 then (if c1 = 125 then (24, [124, 125]) else (0, []))
  else if c0 = 126 then (if c1 = 125 then (26, [126, 125]) else (0, []))
  else if c0 = 125 then (20, [125]) else (0, [])
def pfC (c0 c1 : Int) : List UInt8 → Bool
  | [] => true
  | [x] => c0 == (x.toNat : Int)
  | x :: y :: _ => c0 == (x.toNat : Int) && c1 == (y.toNat : Int)
def sgGC (c0 c1 : Int) : List (Int × List UInt8) → Int × List UInt8
  | [] => (0, [])
  | p :: l => if pfC c0 c1 p.2 = true then p else sgGC c0 c1 l
theorem pfx_C (s : ByteArray) (b : Nat) (l : List UInt8) (h : l.length ≤ 2) : pfx s b l = pfC (chr s b) (chr s (b + 1)) l := by
  match l, h with
  | [], _ => rfl
  | [x], _ => show (chr s b == (x.toNat : Int) && true) = _; rw [Bool.and_true]; rfl
  | [x, y], _ => show (chr s b == (x.toNat : Int) && (chr s (b + 1) == (y.toNat : Int) && true)) = _; rw [Bool.and_true]; rfl
theorem sgGo_C (s : ByteArray) (b : Nat) : ∀ l : List (Int × List UInt8), (∀ p ∈ l, p.2.length ≤ 2) → sgGo s b l = sgGC (chr s b) (chr s (b + 1)) l := by
  intro l
  induction l with
  | nil => intro _; rfl
  | cons p l ih =>
    intro h
    rw [sgGo, sgGC, pfx_C s b p.2 (h p (List.mem_cons_self ..)), ih (fun q hq => h q (List.mem_cons_of_mem _ hq))]
theorem sgGC_C (c0 c1 : Int) : sgGC c0 c1 sgTab = sgC c0 c1 := by
  unfold sgC
  by_cases h37 : c0 = 37
  · subst h37; simp [sgTab, sgGC, pfC]
    try (by_cases a1 : c1 = 101 <;> by_cases a2 : c1 = 102 <;> by_cases a3 : c1 = 43 <;> by_cases a4 : c1 = 45 <;> by_cases a5 : c1 = 62 <;> by_cases a6 : c1 = 58 <;> by_cases a7 : c1 = 124 <;> by_cases a8 : c1 = 126 <;> by_cases a9 : c1 = 125 <;> simp [*])
  by_cases h94 : c0 = 94
  · subst h94; simp [sgTab, sgGC, pfC]
    try (by_cases a1 : c1 = 101 <;> by_cases a2 : c1 = 102 <;> by_cases a3 : c1 = 43 <;> by_cases a4 : c1 = 45 <;> by_cases a5 : c1 = 62 <;> by_cases a6 : c1 = 58 <;> by_cases a7 : c1 = 124 <;> by_cases a8 : c1 = 126 <;> by_cases a9 : c1 = 125 <;> simp [*])
  by_cases h60 : c0 = 60
  · subst h60; simp [sgTab, sgGC, pfC]
    try (by_cases a1 : c1 = 101 <;> by_cases a2 : c1 = 102 <;> by_cases a3 : c1 = 43 <;> by_cases a4 : c1 = 45 <;> by_cases a5 : c1 = 62 <;> by_cases a6 : c1 = 58 <;> by_cases a7 : c1 = 124 <;> by_cases a8 : c1 = 126 <;> by_cases a9 : c1 = 125 <;> simp [*])
  by_cases h45 : c0 = 45
  · subst h45; simp [sgTab, sgGC, pfC]
    try (by_cases a1 : c1 = 101 <;> by_cases a2 : c1 = 102 <;> by_cases a3 : c1 = 43 <;> by_cases a4 : c1 = 45 <;> by_cases a5 : c1 = 62 <;> by_cases a6 : c1 = 58 <;> by_cases a7 : c1 = 124 <;> by_cases a8 : c1 = 126 <;> by_cases a9 : c1 = 125 <;> simp [*])
  by_cases h47 : c0 = 47
  · subst h47; simp [sgTab, sgGC, pfC]
    try (by_cases a1 : c1 = 101 <;> by_cases a2 : c1 = 102 <;> by_cases a3 : c1 = 43 <;> by_cases a4 : c1 = 45 <;> by_cases a5 : c1 = 62 <;> by_cases a6 : c1 = 58 <;> by_cases a7 : c1 = 124 <;> by_cases a8 : c1 = 126 <;> by_cases a9 : c1 = 125 <;> simp [*])
  by_cases h38 : c0 = 38
  · subst h38; simp [sgTab, sgGC, pfC]
    try (by_cases a1 : c1 = 101 <;> by_cases a2 : c1 = 102 <;> by_cases a3 : c1 = 43 <;> by_cases a4 : c1 = 45 <;> by_cases a5 : c1 = 62 <;> by_cases a6 : c1 = 58 <;> by_cases a7 : c1 = 124 <;> by_cases a8 : c1 = 126 <;> by_cases a9 : c1 = 125 <;> simp [*])
  by_cases h33 : c0 = 33
  · subst h33; simp [sgTab, sgGC, pfC]
    try (by_cases a1 : c1 = 101 <;> by_cases a2 : c1 = 102 <;> by_cases a3 : c1 = 43 <;> by_cases a4 : c1 = 45 <;> by_cases a5 : c1 = 62 <;> by_cases a6 : c1 = 58 <;> by_cases a7 : c1 = 124 <;> by_cases a8 : c1 = 126 <;> by_cases a9 : c1 = 125 <;> simp [*])
  by_cases h63 : c0 = 63
  · subst h63; simp [sgTab, sgGC, pfC]
    try (by_cases a1 : c1 = 101 <;> by_cases a2 : c1 = 102 <;> by_cases a3 : c1 = 43 <;> by_cases a4 : c1 = 45 <;> by_cases a5 : c1 = 62 <;> by_cases a6 : c1 = 58 <;> by_cases a7 : c1 = 124 <;> by_cases a8 : c1 = 126 <;> by_cases a9 : c1 = 125 <;> simp [*])
  by_cases h42 : c0 = 42
  · subst h42; simp [sgTab, sgGC, pfC]
    try (by_cases a1 : c1 = 101 <;> by_cases a2 : c1 = 102 <;> by_cases a3 : c1 = 43 <;> by_cases a4 : c1 = 45 <;> by_cases a5 : c1 = 62 <;> by_cases a6 : c1 = 58 <;> by_cases a7 : c1 = 124 <;> by_cases a8 : c1 = 126 <;> by_cases a9 : c1 = 125 <;> simp [*])
  by_cases h43 : c0 = 43
  · subst h43; simp [sgTab, sgGC, pfC]
    try (by_cases a1 : c1 = 101 <;> by_cases a2 : c1 = 102 <;> by_cases a3 : c1 = 43 <;> by_cases a4 : c1 = 45 <;> by_cases a5 : c1 = 62 <;> by_cases a6 : c1 = 58 <;> by_cases a7 : c1 = 124 <;> by_cases a8 : c1 = 126 <;> by_cases a9 : c1 = 125 <;> simp [*])
  by_cases h40 : c0 = 40
  · subst h40; simp [sgTab, sgGC, pfC]
    try (by_cases a1 : c1 = 101 <;> by_cases a2 : c1 = 102 <;> by_cases a3 : c1 = 43 <;> by_cases a4 : c1 = 45 <;> by_cases a5 : c1 = 62 <;> by_cases a6 : c1 = 58 <;> by_cases a7 : c1 = 124 <;> by_cases a8 : c1 = 126 <;> by_cases a9 : c1 = 125 <;> simp [*])
  by_cases h41 : c0 = 41
  · subst h41; simp [sgTab, sgGC, pfC]
    try (by_cases a1 : c1 = 101 <;> by_cases a2 : c1 = 102 <;> by_cases a3 : c1 = 43 <;> by_cases a4 : c1 = 45 <;> by_cases a5 : c1 = 62 <;> by_cases a6 : c1 = 58 <;> by_cases a7 : c1 = 124 <;> by_cases a8 : c1 = 126 <;> by_cases a9 : c1 = 125 <;> simp [*])
  by_cases h46 : c0 = 46
  · subst h46; simp [sgTab, sgGC, pfC]
    try (by_cases a1 : c1 = 101 <;> by_cases a2 : c1 = 102 <;> by_cases a3 : c1 = 43 <;> by_cases a4 : c1 = 45 <;> by_cases a5 : c1 = 62 <;> by_cases a6 : c1 = 58 <;> by_cases a7 : c1 = 124 <;> by_cases a8 : c1 = 126 <;> by_cases a9 : c1 = 125 <;> simp [*])
  by_cases h123 : c0 = 123
  · subst h123; simp [sgTab, sgGC, pfC]
    try (by_cases a1 : c1 = 101 <;> by_cases a2 : c1 = 102 <;> by_cases a3 : c1 = 43 <;> by_cases a4 : c1 = 45 <;> by_cases a5 : c1 = 62 <;> by_cases a6 : c1 = 58 <;> by_cases a7 : c1 = 124 <;> by_cases a8 : c1 = 126 <;> by_cases a9 : c1 = 125 <;> simp [*])
  by_cases h58 : c0 = 58
  · subst h58; simp [sgTab, sgGC, pfC]
    try (by_cases a1 : c1 = 101 <;> by_cases a2 : c1 = 102 <;> by_cases a3 : c1 = 43 <;> by_cases a4 : c1 = 45 <;> by_cases a5 : c1 = 62 <;> by_cases a6 : c1 = 58 <;> by_cases a7 : c1 = 124 <;> by_cases a8 : c1 = 126 <;> by_cases a9 : c1 = 125 <;> simp [*])
  by_cases h124 : c0 = 124
  · subst h124; simp [sgTab, sgGC, pfC]
    try (by_cases a1 : c1 = 101 <;> by_cases a2 : c1 = 102 <;> by_cases a3 : c1 = 43 <;> by_cases a4 : c1 = 45 <;> by_cases a5 : c1 = 62 <;> by_cases a6 : c1 = 58 <;> by_cases a7 : c1 = 124 <;> by_cases a8 : c1 = 126 <;> by_cases a9 : c1 = 125 <;> simp [*])
  by_cases h126 : c0 = 126
  · subst h126; simp [sgTab, sgGC, pfC]
    try (by_cases a1 : c1 = 101 <;> by_cases a2 : c1 = 102 <;> by_cases a3 : c1 = 43 <;> by_cases a4 : c1 = 45 <;> by_cases a5 : c1 = 62 <;> by_cases a6 : c1 = 58 <;> by_cases a7 : c1 = 124 <;> by_cases a8 : c1 = 126 <;> by_cases a9 : c1 = 125 <;> simp [*])
  by_cases h125 : c0 = 125
  · subst h125; simp [sgTab, sgGC, pfC]
    try (by_cases a1 : c1 = 101 <;> by_cases a2 : c1 = 102 <;> by_cases a3 : c1 = 43 <;> by_cases a4 : c1 = 45 <;> by_cases a5 : c1 = 62 <;> by_cases a6 : c1 = 58 <;> by_cases a7 : c1 = 124 <;> by_cases a8 : c1 = 126 <;> by_cases a9 : c1 = 125 <;> simp [*])
  simp [sgTab, sgGC, pfC, *]
theorem sgAt_C (s : ByteArray) (b : Nat) : sgAt s b = sgC (chr s b) (chr s (b + 1)) := by
  rw [← sgGC_C]
  exact sgGo_C s b sgTab (by decide)
end Go.Proofs.YthffklhojdldkaaGreatDoor

namespace Go.Proofs.YthffklhojdldkaaGreatDoor
open Go.RowKit
/-- A byte that lengthens no token. -/
def stopB (c : Int) : Bool := !(nmB c) && !(c == 58) && !(c == 123) && !(c == 124) && !(c == 126)
/-- What stands behind a token, here and there. -/
def Fol (s : ByteArray) (e : Nat) (s' : ByteArray) (e' : Nat) : Prop :=
  stopB (chr s' e') = true ∨ (chr s' e' = chr s e ∧ (hdB (chr s e) = true → ∃ r, spN nmB s e = e + r ∧ spN nmB s' e' = e' + r ∧ (chr s' (e' + r) = 58 → chr s (e + r) = 58)))
theorem stop_facts {c : Int} (h : stopB c = true) : nmB c = false ∧ c ≠ 58 ∧ c ≠ 123 ∧ c ≠ 124 ∧ c ≠ 126 := by
  unfold stopB at h
  simp only [Bool.and_eq_true, Bool.not_eq_true', beq_eq_false_iff_ne] at h
  exact ⟨h.1.1.1.1, h.1.1.1.2, h.1.1.2, h.1.2, h.2⟩
theorem dg_nm {c : Int} (h : nmB c = false) : dgB c = false ∧ hdB c = false := by
  unfold nmB at h
  rw [Bool.or_eq_false_iff] at h
  exact ⟨h.2, h.1⟩
theorem Fol.nm {s s' : ByteArray} {e e' : Nat} (h : Fol s e s' e') (q : nmB (chr s e) = false) : nmB (chr s' e') = false := by
  rcases h with h | ⟨h, _⟩
  · exact (stop_facts h).1
  · rw [h]; exact q
theorem Fol.dg {s s' : ByteArray} {e e' : Nat} (h : Fol s e s' e') (q : dgB (chr s e) = false) : dgB (chr s' e') = false := by
  rcases h with h | ⟨h, _⟩
  · exact (dg_nm (stop_facts h).1).1
  · rw [h]; exact q
theorem Ag.in {s s' : ByteArray} {b b' m : Nat} (h : Ag s b s' b' m) (hm : 1 ≤ m) (hs : b + m ≤ s.size) : b' + m ≤ s'.size := by
  have h1 := h (m - 1) (by omega)
  have h2 := chr_in (s := s) (i := b + (m - 1)) (by omega)
  have := chr_lt (s := s') (i := b' + (m - 1)) (by rw [h1, h2]; omega)
  omega
theorem wth_move {s s' : ByteArray} {d d' m : Nat} {base : Int} (ha : Ag s d s' d' m) : ∀ k, k ≤ m → wthR s' d' base k = wthR s d base k := by
  intro k
  induction k with
  | zero => intro _; rfl
  | succ k ih => intro hk; rw [wthR, wthR, ih (by omega), ha k (by omega)]
theorem num_move {s s' : ByteArray} {d d' m : Nat} {M n : Int} (h : numR s d M = .inl n) (hm : spN dgB s d = d + m) (ha : Ag s d s' d' m) (hf : dgB (chr s' (d' + m)) = false) : numR s' d' M = .inl n ∧ spN dgB s' d' = d' + m := by
  have h1 := run_move (P := dgB) (by decide) ha hm hf
  have h2 := numR_en h
  have h0 := ha 0 (by omega)
  rw [Nat.add_zero, Nat.add_zero] at h0
  refine ⟨?_, h1⟩
  unfold numR at h ⊢
  rw [h1, show d' + m - d' = m from by omega, h0, wth_move ha m (Nat.le_refl _)]
  rw [hm, show d + m - d = m from by omega] at h
  exact h
theorem nm_move {s s' : ByteArray} {b b' d d' m : Nat} {k : Int} {t : Tk} (h : nmR s b d k = .inl t) (hm : spN dgB s d = d + m) (ha : Ag s d s' d' m) (hf : dgB (chr s' (d' + m)) = false) : nmR s' b' d' k = .inl { t with fr := b', en := (d' + m : Nat) } := by
  unfold nmR at h ⊢
  cases hn : numR s d (gtK k) with
  | inr e => rw [hn] at h; cases h
  | inl n =>
    obtain ⟨h1, h2⟩ := num_move hn hm ha hf
    rw [hn] at h
    cases h
    rw [h1, h2]
theorem name_move {s s' : ByteArray} {b b' m : Nat} {t : Tk} (h : nameR s b = .inl t) (hm : spN nmB s b = b + m) (h1 : 1 ≤ m) (hs : b + m ≤ s.size) (ha : Ag s b s' b' m) (hf : nmB (chr s' (b' + m)) = false) : nameR s' b' = .inl (mvT t b' m) := by
  have h2 := run_move (P := nmB) (by decide) ha hm hf
  have h3 := text_same ha hs (ha.in h1 hs)
  unfold nameR at h ⊢
  rw [hm, show b + m - b = m from by omega] at h
  rw [h2, show b' + m - b' = m from by omega, h3]
  split at h
  · cases h
  · next q => cases h; rw [if_neg q]; rfl
theorem pt_move {s s' : ByteArray} {a a' m : Nat} (h : (ptP s a).2.2 = true) (hm : (ptP s a).2.1 = a + m) (ha : Ag s a s' a' (m + 1)) : ptP s' a' = ((ptP s a).1, a' + m, true) := by
  have hst := (spN_spec hxB s (by decide) _ a rfl).2.2.1
  have hge := spN_ge hxB s (by decide) a
  unfold ptP at h hm ⊢
  split at h
  · cases h
  next q =>
  rw [if_neg q] at hm
  dsimp only at h hm
  rw [hm] at hst q h
  have h1 : spN hxB s' a' = a' + m := run_move (P := hxB) (by decide) (fun k hk => ha k (by omega)) hm (by rw [ha m (by omega)]; exact hst)
  rw [h1, hm, show a' + m - a' = m from by omega, show a + m - a = m from by omega, if_neg (by omega), if_neg (by omega), wth_move (m := m) (fun k hk => ha k (by omega)) m (Nat.le_refl _)]
  rw [show a + m - a = m from by omega] at h
  rw [h]
theorem pts_move {s s' : ByteArray} {b b' m : Nat} {t : Tk} (hb : b + 3 ≤ s.size) (h : ptsP s b = .inl t) (he : t.en = (b + m : Nat)) (ha : Ag s b s' b' m) : ptsP s' b' = .inl (mvT t b' m) := by
  have h1 := ptP_le hb
  unfold ptsP at h ⊢
  split at h
  · cases h
  next q1 =>
  have q1 : (ptP s (b + 3)).2.2 = true := by cases hq : (ptP s (b + 3)).2.2; exact absurd hq q1; rfl
  split at h
  · next h45 =>
    have h2 := chr_lt (s := s) (i := (ptP s (b + 3)).2.1) (by omega)
    have h3 := ptP_le (s := s) (a := (ptP s (b + 3)).2.1 + 1) (by omega)
    split at h
    · cases h
    next q2 =>
    have q3 : (ptP s ((ptP s (b + 3)).2.1 + 1)).2.2 = true := by cases hq : (ptP s ((ptP s (b + 3)).2.1 + 1)).2.2; exact absurd (.inl hq) q2; rfl
    split at h
    · next hc =>
      cases h
      dsimp only at he
      have he : (ptP s ((ptP s (b + 3)).2.1 + 1)).2.1 + 1 = b + m := by omega
      have hA := pt_move (s' := s') (a' := b' + 3) (m := (ptP s (b + 3)).2.1 - (b + 3)) q1 (by omega) (by
        exact ha.sub 3 (by omega))
      have hB := pt_move (s' := s') (a' := b' + ((ptP s (b + 3)).2.1 + 1 - b)) (m := (ptP s ((ptP s (b + 3)).2.1 + 1)).2.1 - ((ptP s (b + 3)).2.1 + 1)) q3 (by omega) (by
        have h7 := ha.sub ((ptP s (b + 3)).2.1 + 1 - b) (m2 := (ptP s ((ptP s (b + 3)).2.1 + 1)).2.1 - ((ptP s (b + 3)).2.1 + 1) + 1) (by omega)
        rwa [show b + ((ptP s (b + 3)).2.1 + 1 - b) = (ptP s (b + 3)).2.1 + 1 from by omega] at h7)
      have e1 : b' + 3 + ((ptP s (b + 3)).2.1 - (b + 3)) = b' + ((ptP s (b + 3)).2.1 - b) := by omega
      have e2 : b' + ((ptP s (b + 3)).2.1 - b) + 1 = b' + ((ptP s (b + 3)).2.1 + 1 - b) := by omega
      rw [hA]
      dsimp only
      rw [e1, e2, hB]
      dsimp only
      rw [if_neg (by decide), ha.at (j := (ptP s (b + 3)).2.1) (by omega) (by omega) rfl, if_pos h45, if_neg (by rw [q3] at q2; simpa using q2)]
      rw [ha.at (j := (ptP s ((ptP s (b + 3)).2.1 + 1)).2.1) (by omega) (by omega) (by omega), if_pos hc]
      unfold mvT
      congr 3
      omega
    · cases h
  · next h45 =>
    split at h
    · next hc =>
      cases h
      dsimp only at he
      have h4 := chr_lt (s := s) (i := (ptP s (b + 3)).2.1) (by omega)
      have he : (ptP s (b + 3)).2.1 + 1 = b + m := by omega
      have hA := pt_move (s' := s') (a' := b' + 3) (m := (ptP s (b + 3)).2.1 - (b + 3)) q1 (by omega) (ha.sub 3 (by omega))
      have e1 : b' + 3 + ((ptP s (b + 3)).2.1 - (b + 3)) = b' + ((ptP s (b + 3)).2.1 - b) := by omega
      rw [hA]
      dsimp only
      rw [e1, if_neg (by decide), ha.at (j := (ptP s (b + 3)).2.1) (by omega) (by omega) rfl, if_neg h45, if_pos hc]
      unfold mvT
      congr 3
      omega
    · cases h
end Go.Proofs.YthffklhojdldkaaGreatDoor

namespace Go.Proofs.YthffklhojdldkaaGreatDoor
open Go.RowKit
theorem sg_one {c0 c1 c1' : Int} (h : (sgC c0 c1).2.length = 1) (h2 : (sgC c0 c1).1 ≠ 13) (hc : c1' = c1 ∨ (c1' ≠ 58 ∧ c1' ≠ 124 ∧ c1' ≠ 126)) : sgC c0 c1' = sgC c0 c1 := by
  rcases hc with rfl | ⟨q1, q2, q3⟩
  · rfl
  unfold sgC at h h2 ⊢
  by_cases h37 : c0 = 37
  · subst h37
    by_cases a101 : c1 = 101 <;> by_cases a102 : c1 = 102 <;> simp_all
  by_cases h94 : c0 = 94
  · subst h94
    by_cases a43 : c1 = 43 <;> by_cases a45 : c1 = 45 <;> simp_all
  by_cases h60 : c0 = 60
  · subst h60
    by_cases a45 : c1 = 45 <;> simp_all
  by_cases h45 : c0 = 45
  · subst h45
    by_cases a62 : c1 = 62 <;> simp_all
  by_cases h47 : c0 = 47
  · subst h47
    simp
  by_cases h38 : c0 = 38
  · subst h38
    simp
  by_cases h33 : c0 = 33
  · subst h33
    simp
  by_cases h63 : c0 = 63
  · subst h63
    simp
  by_cases h42 : c0 = 42
  · subst h42
    simp
  by_cases h43 : c0 = 43
  · subst h43
    simp
  by_cases h40 : c0 = 40
  · subst h40
    simp
  by_cases h41 : c0 = 41
  · subst h41
    simp
  by_cases h46 : c0 = 46
  · subst h46
    simp
  by_cases h123 : c0 = 123
  · subst h123
    by_cases a58 : c1 = 58 <;> by_cases a124 : c1 = 124 <;> by_cases a126 : c1 = 126 <;> simp_all
  by_cases h58 : c0 = 58
  · subst h58
    by_cases a125 : c1 = 125 <;> simp_all
  by_cases h124 : c0 = 124
  · subst h124
    by_cases a125 : c1 = 125 <;> simp_all
  by_cases h126 : c0 = 126
  · subst h126
    by_cases a125 : c1 = 125 <;> simp_all
  by_cases h125 : c0 = 125
  · subst h125
    simp
  simp [*]
theorem sgC_len (c0 c1 : Int) : (sgC c0 c1).1 = 0 ∨ (sgC c0 c1).2.length = 1 ∨ (sgC c0 c1).2.length = 2 := by
  have h : ∀ l : List (Int × List UInt8), (∀ p ∈ l, p.2.length = 1 ∨ p.2.length = 2) → (sgGC c0 c1 l).1 = 0 ∨ (sgGC c0 c1 l).2.length = 1 ∨ (sgGC c0 c1 l).2.length = 2 := by
    intro l
    induction l with
    | nil => intro _; exact .inl rfl
    | cons p l ih =>
      intro h
      rw [sgGC]
      split
      · exact .inr (h p (List.mem_cons_self ..))
      · exact ih (fun q hq => h q (List.mem_cons_of_mem _ hq))
  rw [← sgGC_C]
  exact h sgTab (by decide)
theorem sg21 {c0 c1 : Int} (h : (sgC c0 c1).1 = 21) : (sgC c0 c1).2.length = 2 := by
  have key : ∀ l : List (Int × List UInt8), (∀ p ∈ l, p.1 = 21 → p.2.length = 2) → (sgGC c0 c1 l).1 = 21 → (sgGC c0 c1 l).2.length = 2 := by
    intro l
    induction l with
    | nil => intro _ q; cases q
    | cons p l ih =>
      intro h
      rw [sgGC]
      split
      · exact h p (List.mem_cons_self ..)
      · exact ih (fun q hq => h q (List.mem_cons_of_mem _ hq))
  rw [← sgGC_C] at h ⊢
  exact key sgTab (by decide) h
theorem grp_move {s s' : ByteArray} {b b' d d' m : Nat} {t : Tk} (_hd : d ≤ s.size) (h : grpP s b d = .inl t) (he : t.en = (d + m : Nat)) (ha : Ag s d s' d' m) (hf : Fol s (d + m) s' (d' + m)) : grpP s' b' d' = .inl { t with fr := b', en := (d' + m : Nat) } := by
  unfold grpP at h ⊢
  have hsp := spN_ge nmB s (by decide) d
  split at h
  · next q1 =>
    split at h
    · cases h
    next q2 =>
    split at h
    · next q3 =>
      cases h
      dsimp only at he
      have hlt := chr_lt (s := s) (i := spN nmB s d) (by omega)
      have hm : spN nmB s d + 1 = d + m := by omega
      have hm2 : spN nmB s d = d + (m - 1) := by omega
      have h58 : chr s' (d' + (m - 1)) = 58 := by rw [ha (m - 1) (by omega), ← hm2]; exact q3
      have h1 : spN nmB s' d' = d' + (m - 1) := run_move (P := nmB) (by decide) (fun k hk => ha k (by omega)) hm2 (by rw [h58]; rfl)
      have hnx := (spN_next (P := nmB) (s := s) (i := d) (by decide) (by unfold nmB; rw [q1]; rfl)).2
      have hnx2 := spN_ge nmB s (by decide) (d + 1)
      have h0 := ha 0 (by omega)
      rw [Nat.add_zero, Nat.add_zero] at h0
      have htx : s'.extract d' (d' + (m - 1)) = s.extract d (d + (m - 1)) := text_same (fun k hk => ha k (by omega)) (by omega) (by have := ha.in (by omega) (by omega); omega)
      rw [h0, if_pos q1, h1, show d' + (m - 1) - d' = spN nmB s d - d from by omega, if_neg q2, h58, if_pos rfl, htx, ← hm2, show d' + (m - 1) + 1 = d' + m from by omega]
    · next q3 =>
      cases h
      dsimp only at he
      obtain rfl : m = 0 := by omega
      rw [Nat.add_zero, Nat.add_zero] at hf
      rcases hf with hf | ⟨e0, hr⟩
      · rw [if_neg (by rw [(dg_nm (stop_facts hf).1).2]; decide)]; rfl
      · obtain ⟨r, r1, r2, r3⟩ := hr q1
        rw [e0, if_pos q1, r2, show d' + r - d' = spN nmB s d - d from by omega, if_neg q2, if_neg (fun q => q3 (by rw [r1]; exact r3 q))]
        rfl
  · next q1 =>
    cases h
    dsimp only at he
    obtain rfl : m = 0 := by omega
    rw [Nat.add_zero, Nat.add_zero] at hf
    rcases hf with hf | ⟨e0, hr⟩
    · rw [if_neg (by rw [(dg_nm (stop_facts hf).1).2]; decide)]; rfl
    · rw [e0, if_neg q1]; rfl
theorem sig_move {s s' : ByteArray} {b b' m : Nat} {t : Tk} (hb : b ≤ s.size) (h : sigP s b = .inl t) (he : t.en = (b + m : Nat)) (ha : Ag s b s' b' m) (hf : Fol s (b + m) s' (b' + m)) : sigP s' b' = .inl (mvT t b' m) ∧ (sgAt s' b').1 = (sgAt s b).1 := by
  have hlen := sgAt_len s b hb
  have hpos := sgAt_pos s b
  have h12 := sgC_len (chr s b) (chr s (b + 1))
  rw [← sgAt_C] at h12
  have key : 2 ≤ m → sgAt s' b' = sgAt s b := fun q => by
    have h0 := ha 0 (by omega)
    rw [Nat.add_zero, Nat.add_zero] at h0
    rw [sgAt_C, sgAt_C, h0, ha 1 (by omega)]
  unfold sigP at h
  split at h
  · cases h
  next q0 =>
  split at h
  · next q1 =>
    obtain ⟨e, a1, a2, a3⟩ := nmR_en hlen h
    have hsp : spN dgB s (b + (sgAt s b).2.length) = b + m := by
      unfold nmR at h
      cases hn : numR s (b + (sgAt s b).2.length) (gtK (sgAt s b).1) with
      | inr e => rw [hn] at h; cases h
      | inl n => rw [hn] at h; cases h; dsimp only at he; omega
    have hk := key (by omega)
    refine ⟨?_, by rw [hk]⟩
    unfold sigP
    rw [hk, if_neg q0, if_pos q1]
    have hst := (spN_spec dgB s (by decide) _ (b + (sgAt s b).2.length) rfl).2.2.1
    rw [hsp] at hst
    have := nm_move (b' := b') (d' := b' + (sgAt s b).2.length) (m := m - (sgAt s b).2.length) h (by omega) (ha.sub _ (by omega)) (by
      rw [show b' + (sgAt s b).2.length + (m - (sgAt s b).2.length) = b' + m from by omega]; exact hf.dg hst)
    rw [this, show b' + (sgAt s b).2.length + (m - (sgAt s b).2.length) = b' + m from by omega]
    rfl
  next q1 =>
  split at h
  · next q2 =>
    have hl2 : (sgAt s b).2.length = 2 := by rw [sgAt_C] at q2 ⊢; exact sg21 q2
    obtain ⟨e, a1, a2, a3⟩ := grpP_en hlen h
    have hk := key (by omega)
    refine ⟨?_, by rw [hk]⟩
    unfold sigP
    rw [hk, if_neg q0, if_neg q1, if_pos q2]
    have := grp_move (b' := b') (d' := b' + (sgAt s b).2.length) (m := m - (sgAt s b).2.length) hlen h (by rw [he]; omega) (ha.sub _ (by omega)) (by
      rw [show b + (sgAt s b).2.length + (m - (sgAt s b).2.length) = b + m from by omega, show b' + (sgAt s b).2.length + (m - (sgAt s b).2.length) = b' + m from by omega]; exact hf)
    rw [this, show b' + (sgAt s b).2.length + (m - (sgAt s b).2.length) = b' + m from by omega]
    rfl
  · next q2 =>
    cases h
    dsimp only at he
    have hm : m = (sgAt s b).2.length := by omega
    have hk : sgAt s' b' = sgAt s b := by
      rcases h12 with h12 | h12 | h12
      · exact absurd h12 q0
      · have hm1 : m = 1 := by omega
        subst hm1
        have h0 := ha 0 (by omega)
        rw [Nat.add_zero, Nat.add_zero] at h0
        rw [sgAt_C, sgAt_C, h0]
        refine sg_one (by rw [← sgAt_C]; exact h12) (by rw [← sgAt_C]; omega) ?_
        rcases hf with hf | ⟨e0, _⟩
        · have := stop_facts hf; exact .inr ⟨this.2.1, this.2.2.2.1, this.2.2.2.2⟩
        · exact .inl e0
      · exact key (by omega)
    refine ⟨?_, by rw [hk]⟩
    unfold sigP
    rw [hk, if_neg q0, if_neg q1, if_neg q2, ← hm]
    rfl
theorem read_move {s s' : ByteArray} {b b' n : Nat} {x : BitVec 256} (h : rdRead s b = .inl (x, n)) (ha : Ag s b s' b' (n - b)) : rdRead s' b' = .inl (x, b' + (n - b)) := by
  have hgt := rdRead_gt h
  have hok := rdRead_ok h
  have hin := ha.in (by omega) (by omega)
  unfold rdRead at h ⊢
  rw [Int.toNat_natCast] at h ⊢
  split at h
  · cases h
  split at h
  · next q1 =>
    have h0 := ha 0 (by omega)
    rw [Nat.add_zero, Nat.add_zero] at h0
    rw [if_neg (by omega), h0, if_pos q1]
    split at h
    · next q2 =>
      cases hm : rdMembers s (s.size + 1) 0#256 (b + 2) with
      | inr p => obtain ⟨a, c⟩ := p; rw [hm] at h; cases h
      | inl p =>
        obtain ⟨y, k⟩ := p
        rw [hm] at h
        cases h
        have hb := rdMembers_ok hm
        rw [ha 1 (by omega), if_pos q2]
        have := members_move s s' _ (s'.size + 1) _ _ _ (b' + 2) (k + 1 - b - 2) _ hm (ha.sub 2 (by omega)) (by omega) (by omega)
        rw [this, rdTurn, show b' + 2 + (k - (b + 2)) + 1 = b' + (k + 1 - b) from by omega]
    · next q2 =>
      cases hm : rdMembers s (s.size + 1) 0#256 (b + 1) with
      | inr p => obtain ⟨a, c⟩ := p; rw [hm] at h; cases h
      | inl p =>
        obtain ⟨y, k⟩ := p
        rw [hm] at h
        cases h
        have hb := rdMembers_ok hm
        rw [ha 1 (by omega), if_neg q2]
        have := members_move s s' _ (s'.size + 1) _ _ _ (b' + 1) (k + 1 - b - 1) _ hm (ha.sub 1 (by omega)) (by omega) (by omega)
        rw [this, rdEnd, show b' + 1 + (k - (b + 1)) + 1 = b' + (k + 1 - b) from by omega]
  · cases h
theorem pct_move {s s' : ByteArray} {b b' m : Nat} {t : Tk} (hb : b ≤ s.size) (h37 : chr s b = 37) (h : pctP s b = .inl t) (he : t.en = (b + m : Nat)) (ha : Ag s b s' b' m) (hf : Fol s (b + m) s' (b' + m)) : pctP s' b' = .inl (mvT t b' m) := by
  have hen := pctP_en hb h
  obtain ⟨e, x1, x2, x3⟩ := hen
  have h0 := ha 0 (by omega)
  rw [Nat.add_zero, Nat.add_zero] at h0
  unfold pctP at h
  split at h
  · next q1 =>
    have hl : b + 3 ≤ s.size := pfx_len hb q1
    have hm := ptsP_en hl h
    have := pts_move hl h he ha
    have hp : pfx s' b' [37, 117, 123] = true := by
      obtain ⟨e2, y1, y2, y3⟩ := hm
      have h3 : 3 ≤ m := by
        have hmm := this
        unfold ptsP at h
        split at h
        · cases h
        have hpt := ptP_le hl
        split at h
        · next h45 =>
          have h2 := chr_lt (s := s) (i := (ptP s (b + 3)).2.1) (by omega)
          have h3 := ptP_le (s := s) (a := (ptP s (b + 3)).2.1 + 1) (by omega)
          split at h
          · cases h
          split at h
          · cases h; dsimp only at he; omega
          · cases h
        · split at h
          · cases h; dsimp only at he; omega
          · cases h
      have e0 : pfx s' b' [37, 117, 123] = pfx s b [37, 117, 123] := by
        show (chr s' b' == 37 && (chr s' (b' + 1) == 117 && (chr s' (b' + 1 + 1) == 123 && true))) = (chr s b == 37 && (chr s (b + 1) == 117 && (chr s (b + 1 + 1) == 123 && true)))
        rw [h0, ha 1 (by omega), show b' + 1 + 1 = b' + 2 from rfl, ha 2 (by omega)]
      rw [e0]; exact q1
    unfold pctP
    rw [if_pos hp]
    exact this
  next q1 =>
  have hq : ∀ m2, m2 = m → 2 ≤ m2 → (m2 = 2 ∨ chr s (b + 1) ≠ 117) → pfx s' b' [37, 117, 123] = false := fun m2 em h2 hor => by
    subst em
    have q1 : pfx s b [37, 117, 123] = false := by cases hh : pfx s b [37, 117, 123]; rfl; exact absurd hh q1
    show (chr s' b' == 37 && (chr s' (b' + 1) == 117 && (chr s' (b' + 1 + 1) == 123 && true))) = false
    have q1 : (chr s b == 37 && (chr s (b + 1) == 117 && (chr s (b + 1 + 1) == 123 && true))) = false := q1
    rw [h0, h37, ha 1 (by omega)]
    rw [h37] at q1
    by_cases u : chr s (b + 1) = 117
    · rw [u] at q1 ⊢
      have c1 : ¬ chr s (b + 2) = 123 := by simpa using q1
      have c2 : ¬ chr s' (b' + 2) = 123 := by
        rcases hor with hor | hor
        · subst hor
          rcases hf with hf | ⟨e0, _⟩
          · exact (stop_facts hf).2.2.1
          · rw [e0]; exact c1
        · exact absurd u hor
      simpa using c2
    · rw [beq_eq_false_iff_ne.2 u]; simp
  split at h
  · next q2 =>
    have hs2 := sig_move hb h he ha hf
    have h2 : (sgAt s b).2.length = 2 ∧ chr s (b + 1) ≠ 117 := by
      rw [sgAt_C, h37] at q2 ⊢
      unfold sgC at q2 ⊢
      rw [if_pos rfl] at q2 ⊢
      by_cases u1 : chr s (b + 1) = 101
      · rw [if_pos u1]; exact ⟨rfl, by omega⟩
      · rw [if_neg u1] at q2 ⊢
        by_cases u2 : chr s (b + 1) = 102
        · rw [if_pos u2]; exact ⟨rfl, by omega⟩
        · rw [if_neg u2] at q2; exact absurd rfl q2
    have hm2 : 2 ≤ m := by
      have hl := sgAt_len s b hb
      have hsg := sigP_en hb h
      unfold sigP at h
      split at h
      · cases h
      split at h
      · obtain ⟨e, a1, a2, a3⟩ := nmR_en hl h; omega
      split at h
      · obtain ⟨e, a1, a2, a3⟩ := grpP_en hl h; omega
      · cases h; dsimp only at he; omega
    unfold pctP
    rw [if_neg (by rw [hq m rfl hm2 (.inr h2.2)]; decide), if_pos (by rw [hs2.2]; exact q2)]
    exact hs2.1
  next q2 =>
  split at h
  · next q3 =>
    cases h
    dsimp only at he
    have hm2 : m = 2 := by omega
    subst hm2
    have hin := ha.in (by omega) (by omega)
    have e1 := ha 1 (by omega)
    have hsg : sgAt s' b' = sgAt s b := by rw [sgAt_C, sgAt_C, h0, e1]
    have htx : s'.extract (b' + 1) (b' + 2) = s.extract (b + 1) (b + 2) := text_same (m := 1) (ha.sub 1 (by omega)) (by omega) (by omega)
    unfold pctP
    rw [if_neg (by rw [hq 2 rfl (by omega) (.inl rfl)]; decide), hsg, if_neg q2, e1, if_pos ⟨by omega, q3.2⟩, htx]
    rfl
  · cases h
theorem tok_move {s s' : ByteArray} {b b' m : Nat} {t : Tk} (hb : b < s.size) (h : oneP s b = .inl t) (he : t.en = (b + m : Nat)) (ha : Ag s b s' b' m) (hf : Fol s (b + m) s' (b' + m)) : oneP s' b' = .inl (mvT t b' m) := by
  obtain ⟨e, x1, x2, x3⟩ := oneP_en s b t hb h
  have h1 : 1 ≤ m := by omega
  have hin := ha.in h1 (by omega)
  have h0 := ha 0 (by omega)
  rw [Nat.add_zero, Nat.add_zero] at h0
  unfold oneP at h ⊢
  rw [h0]
  split at h
  · next q =>
    rw [if_pos q]
    have hm : spN nmB s b = b + m := by
      unfold nameR at h
      split at h
      · cases h
      · cases h; dsimp only at he; omega
    have hst := (spN_spec nmB s (by decide) _ b rfl).2.2.1
    rw [hm] at hst
    exact name_move h hm h1 (by omega) ha (hf.nm hst)
  next q0 =>
  rw [if_neg q0]
  split at h
  · next q =>
    rw [if_pos q]
    have hm : spN dgB s b = b + m := by
      unfold nmR at h
      cases hn : numR s b (gtK 4) with
      | inr e => rw [hn] at h; cases h
      | inl n => rw [hn] at h; cases h; dsimp only at he; omega
    have hst := (spN_spec dgB s (by decide) _ b rfl).2.2.1
    rw [hm] at hst
    exact nm_move h hm ha (hf.dg hst)
  next q1 =>
  rw [if_neg q1]
  split at h
  · next q =>
    rw [if_pos q]
    unfold litR at h ⊢
    rw [h0]
    have hge := litGo_en s _ b (by omega) _ _ _ _ h
    obtain ⟨e2, y1, y2, y3⟩ := hge
    have := lit_move s s' (chr s b) b b' (by omega) _ (s'.size + 1) [] (b + 1) (b' + 1) (m - 1) t (b + m) h he (by omega) (ha.sub 1 (by omega)) (by omega)
    rw [this, show b' + 1 + (m - 1) = b' + m from by omega]
    rfl
  next q2 =>
  rw [if_neg q2]
  split at h
  · next q =>
    rw [if_pos q]
    cases hr : rdRead s b with
    | inr p =>
      rw [hr, clT] at h
      split at h <;> cases h
    | inl p =>
      obtain ⟨x, n⟩ := p
      rw [hr] at h
      cases h
      dsimp only at he
      have hn : n - b = m := by omega
      rw [read_move hr (by rw [hn]; exact ha), hn]
      rfl
  next q3 =>
  rw [if_neg q3]
  split at h
  · next q => rw [if_pos q]; exact pct_move (by omega) q h he ha hf
  · next q => rw [if_neg q]; exact (sig_move (by omega) h he ha hf).1
end Go.Proofs.YthffklhojdldkaaGreatDoor

namespace Go.Proofs.YthffklhojdldkaaGreatDoor
open Go.RowKit
/-- Tokens one behind the other, from a place on. -/
def Chn (s : ByteArray) (i : Nat) : List Tk → Prop
  | [] => gapN s i = s.size
  | t :: l => gapN s i < s.size ∧ oneP s (gapN s i) = .inl t ∧ ∃ e : Nat, t.en = e ∧ gapN s i < e ∧ e ≤ s.size ∧ Chn s e l
theorem chn_of (s : ByteArray) : ∀ (f : Nat) (out : List Tk) (i : Nat) (l : List Tk), i ≤ s.size → s.size < f + gapN s i → lexGo (oneP s) s f out (gapN s i) = .inl l → ∃ l2, l = out ++ l2 ∧ Chn s i l2 := by
  intro f
  induction f with
  | zero => intro out i l hi hf h; have := (gapN_bd hi).2; omega
  | succ f ih =>
    intro out i l hi hf h
    have hb := gapN_bd hi
    rw [lexGo] at h
    by_cases hlt : gapN s i < s.size
    · rw [if_pos hlt] at h
      cases ho : oneP s (gapN s i) with
      | inr q => rw [ho] at h; cases h
      | inl t =>
        rw [ho] at h
        dsimp only at h
        obtain ⟨e, e1, e2, e3⟩ := oneP_en s _ t hlt ho
        rw [e1, Int.toNat_natCast] at h
        have hge := gapN_ge s e e3
        obtain ⟨l2, h2, h3⟩ := ih (out ++ [t]) e l e3 (by omega) h
        refine ⟨t :: l2, by rw [h2, List.append_assoc]; rfl, hlt, ho, e, e1, e2, e3, h3⟩
    · rw [if_neg hlt] at h
      cases h
      exact ⟨[], by rw [List.append_nil], by show gapN s i = s.size; omega⟩
theorem chn_lex (s : ByteArray) : ∀ (l : List Tk) (f : Nat) (out : List Tk) (i : Nat), i ≤ s.size → s.size < f + gapN s i → Chn s i l → lexGo (oneP s) s f out (gapN s i) = .inl (out ++ l) := by
  intro l
  induction l with
  | nil =>
    intro f out i hi hf h
    have h : gapN s i = s.size := h
    cases f with
    | zero => omega
    | succ f => rw [lexGo, if_neg (by omega), List.append_nil]
  | cons t l ih =>
    intro f out i hi hf h
    obtain ⟨h1, h2, e, e1, e2, e3, h3⟩ := h
    cases f with
    | zero => omega
    | succ f =>
      have hge := gapN_ge s e e3
      rw [lexGo, if_pos h1, h2]
      dsimp only
      rw [e1, Int.toNat_natCast, ih f (out ++ [t]) e e3 (by omega) h3, List.append_assoc]
      rfl
theorem lex_chn {s : ByteArray} {l : List Tk} (h : lexR (oneP s) s = .inl l) : s.size ≤ 65536 ∧ Chn s 0 l := by
  unfold lexR at h
  split at h
  · cases h
  · next q =>
    obtain ⟨l2, h2, h3⟩ := chn_of s _ _ 0 l (by omega) (by have := (gapN_bd (s := s) (i := 0) (by omega)).1; omega) h
    rw [h2]
    exact ⟨by omega, h3⟩
theorem lex_of_chn {s : ByteArray} {l : List Tk} (hs : s.size ≤ 65536) (h : Chn s 0 l) : lexR (oneP s) s = .inl l := by
  unfold lexR
  rw [if_neg (by omega), chn_lex s l _ [] 0 (by omega) (by have := (gapN_bd (s := s) (i := 0) (by omega)).1; omega) h]
  rfl
theorem tok_minus {s : ByteArray} {b m : Nat} {t : Tk} (h45 : chr s b = 45) (h : oneP s b = .inl t) (he : t.en = (b + m : Nat)) : m = 2 := by
  unfold oneP at h
  rw [h45, if_neg (by decide), if_neg (by decide), if_neg (by decide), if_neg (by decide), if_neg (by decide)] at h
  unfold sigP at h
  rw [sgAt_C, h45] at h
  have e : sgC 45 (chr s (b + 1)) = if chr s (b + 1) = 62 then (27, [45, 62]) else (0, []) := by
    unfold sgC
    rw [if_neg (by decide), if_neg (by decide), if_neg (by decide), if_pos rfl]
  rw [e] at h
  by_cases q : chr s (b + 1) = 62
  · rw [if_pos q] at h
    simp at h
    cases h
    dsimp only at he
    omega
  · rw [if_neg q] at h
    simp at h
/-- A token's place in another text is no blank, and begins no comment. -/
theorem start_move {s s' : ByteArray} {b b' m : Nat} {t : Tk} (hb : b < s.size) (hnb : ¬ (chr s b = 9 ∨ chr s b = 10 ∨ chr s b = 13 ∨ chr s b = 32)) (hnn : ¬ (chr s b = 45 ∧ chr s (b + 1) = 45)) (h : oneP s b = .inl t) (he : t.en = (b + m : Nat)) (ha : Ag s b s' b' m) : gapN s' b' = b' ∧ b' < s'.size := by
  obtain ⟨e, x1, x2, x3⟩ := oneP_en s b t hb h
  have hin := ha.in (by omega) (by omega)
  have h0 := ha 0 (by omega)
  rw [Nat.add_zero, Nat.add_zero] at h0
  refine ⟨?_, by omega⟩
  rw [gapN_unf, if_pos (by omega), if_neg (fun q => ?_), if_neg (by rw [h0]; exact hnb)]
  have h45 : chr s b = 45 := by rw [← h0]; exact q.1
  have hm := tok_minus h45 h he
  exact hnn ⟨h45, by rw [← ha 1 (by omega)]; exact q.2⟩
end Go.Proofs.YthffklhojdldkaaGreatDoor
