/- Plain: there and back. -/
import Derived.Test.YtlcmlipldkpliabBackP
import Derived.Test.YtlcmlipldkpliabFsA
import Derived.Test.YtlcmlipldkpliabWrk
import Derived.Test.YtlcmlipldkpliabTexts
namespace Go.Proofs.Ytlcmlipldkpliab
open Go.RowKit

theorem unL_get (l : List (Int × Int)) (hl : ∀ p ∈ l, p.2 ≤ 255) (s : BitVec 256) (j : Nat) : (unL l s).getLsbD j = true ↔ s.getLsbD j = true ∨ ∃ p ∈ l, p.1 ≤ (j : Int) ∧ (j : Int) ≤ p.2 := by
  induction l generalizing s with
  | nil => simp [unL]
  | cons a l ih =>
    rw [unL_cons, ih (fun p hp => hl p (List.mem_cons_of_mem _ hp)), BitVec.getLsbD_or, spn_get _ _ (hl a (by simp))]
    simp only [Bool.or_eq_true, Bool.and_eq_true, decide_eq_true_eq, List.mem_cons, exists_eq_or_imp]
    constructor
    · rintro ((h | h) | h)
      · exact .inl h
      · exact .inr (.inl h)
      · exact .inr (.inr h)
    · rintro (h | h | h)
      · exact .inl (.inl h)
      · exact .inl (.inr h)
      · exact .inr h
theorem spL_cover (j : Int) : ∀ (n : Nat) (bs : List Int), bs.length = n → ((∃ p ∈ spL bs, p.1 ≤ j ∧ j ≤ p.2) ↔ j ∈ bs) := by
  intro n
  induction n with
  | zero => intro bs h; rw [List.eq_nil_of_length_eq_zero h]; simp [spL]
  | succ n ih =>
    intro bs h
    rcases snoc_cases bs with rfl | ⟨m, b, rfl⟩
    · simp at h
    · have ihm := ih m (by simp at h; exact h)
      have hok := spL_ok m
      rw [spL_snoc]
      rcases snoc_cases (spL m) with hs | ⟨l, ⟨lo, hi⟩, hs⟩
      · rw [hs] at ihm ⊢
        rw [List.mem_append, ← ihm]
        simp [spStep]
        omega
      · rw [hs] at ihm hok ⊢
        have hle := hok (lo, hi) (by simp)
        simp only at hle
        rw [List.mem_append, ← ihm]
        by_cases e : hi + 1 = b
        · rw [spStep_hit _ _ _ _ e]
          constructor
          · rintro ⟨p, hp, h1, h2⟩
            rcases List.mem_append.1 hp with h3 | h3
            · exact .inl ⟨p, List.mem_append_left _ h3, h1, h2⟩
            · simp at h3; subst h3
              simp only at h1 h2
              by_cases hj : j ≤ hi
              · exact .inl ⟨(lo, hi), by simp, h1, hj⟩
              · exact .inr (by simp; omega)
          · rintro (⟨p, hp, h1, h2⟩ | h1)
            · rcases List.mem_append.1 hp with h3 | h3
              · exact ⟨p, List.mem_append_left _ h3, h1, h2⟩
              · simp at h3; subst h3
                exact ⟨(lo, b), by simp, h1, by simp only at h2 ⊢; omega⟩
            · simp at h1; subst h1
              exact ⟨(lo, j), by simp, by simp only; omega, by simp only; omega⟩
        · rw [spStep_miss _ _ _ _ e]
          constructor
          · rintro ⟨p, hp, h1, h2⟩
            rcases List.mem_append.1 hp with h3 | h3
            · exact .inl ⟨p, h3, h1, h2⟩
            · simp at h3; subst h3; simp only at h1 h2; exact .inr (by simp; omega)
          · rintro (⟨p, hp, h1, h2⟩ | h1)
            · exact ⟨p, List.mem_append_left _ hp, h1, h2⟩
            · simp at h1; subst h1; exact ⟨(j, j), by simp, by simp only; omega, by simp only; omega⟩
theorem unL_spL (x : BitVec 256) : unL (spL (bys x)) 0#256 = x := by
  apply BitVec.eq_of_getLsbD_eq
  intro j hj
  rw [Bool.eq_iff_iff, unL_get _ (fun p hp => by have := spL_byte x p hp; omega), spL_cover (j : Int) _ (bys x) rfl]
  have h := bysTo_mem x 256 (j : Int)
  rw [show bys x = bysTo x 256 from rfl, h]
  simp
  omega
theorem frL_un (l : List (Int × Int)) (hl : ∀ p ∈ l, 0 ≤ p.1 ∧ p.1 ≤ p.2 ∧ p.2 < 256) (s : BitVec 256) : frL l s = (unL l s, 0) := by
  induction l generalizing s with
  | nil => rfl
  | cons a l ih =>
    have h := hl a (by simp)
    rw [frL, if_pos (by simp [spanB]; omega), unL_cons]
    exact ih (fun p hp => hl p (List.mem_cons_of_mem _ hp)) _
/-- The spans lead back. -/
theorem back_spans (x : BitVec 256) : frS (spL (bys x)) = (x, 0) := by
  unfold frS
  rw [if_neg (by have := spL_len256 x; omega), frL_un _ (spL_byte x), unL_spL]
/-- The class text leads back. -/
theorem back_text (x : BitVec 256) : rdParse (tx (shT x)) = .inl x := by
  unfold shT
  cases hf : fulB x
  · rw [if_neg (by simp)]
    have hL := spL_byte x
    have hlen := spL_len256 x
    have hm := head_mems _ hL
    have hml := mems_len (spL (bys x))
    have key := rdMembers_mems _ hL [91] 0#256
    rw [unL_spL] at key
    generalize mems (spL (bys x)) = M at *
    have e0 : chr (tx (91 :: M ++ [93])) 0 = 91 := by rw [chr_tx]; rfl
    have e1 : chr (tx (91 :: M ++ [93])) 1 = chL (M ++ [93]) 0 := atj [91] (M ++ [93]) 0
    have hsz : (tx (91 :: M ++ [93])).size = M.length + 2 := by rw [tx_size]; simp
    have k := key ((tx (91 :: M ++ [93])).size + 1) (by rw [hsz]; omega)
    have hr : rdRead (tx (91 :: M ++ [93])) 0 = .inl (x, M.length + 2) := by
      unfold rdRead
      rw [if_neg (by omega), show Int.toNat 0 = 0 from rfl, if_pos e0, if_neg (by show ¬ chr _ 1 = 94; rw [e1]; exact hm.2)]
      show rdEnd (rdMembers (tx ([91] ++ (M ++ [93]))) _ 0#256 1) = _
      rw [show rdMembers (tx ([91] ++ (M ++ [93]))) ((tx (91 :: M ++ [93])).size + 1) 0#256 1 = .inl (x, [91].length + M.length) from k]
      show Sum.inl (x, [91].length + M.length + 1) = _
      congr 2
      simp
      omega
    unfold rdParse
    rw [if_neg (by rw [hsz]; omega), hr]
    exact if_neg (by rw [hsz]; omega)
  · rw [if_pos rfl]
    have hx : x = ~~~ 0#256 := by simpa [fulB] using hf
    rw [hx]
    exact isOk_eq (by decide +kernel)

theorem fold_get (l : List UInt8) (s : BitVec 256) (j : Nat) : (l.foldl (fun x c => x ||| bt c.toNat) s).getLsbD j = true ↔ s.getLsbD j = true ∨ ∃ c ∈ l, c.toNat = j := by
  induction l generalizing s with
  | nil => simp
  | cons a l ih =>
    rw [List.foldl_cons, ih, BitVec.getLsbD_or, bt_get _ _ a.toNat_lt]
    simp only [Bool.or_eq_true, decide_eq_true_eq, List.mem_cons, exists_eq_or_imp]
    constructor
    · rintro ((h | h) | h)
      · exact .inl h
      · exact .inr (.inl h.symm)
      · exact .inr (.inr h)
    · rintro (h | h | h)
      · exact .inl (.inl h)
      · exact .inl (.inr h.symm)
      · exact .inr h
/-- The bytes lead back. -/
theorem back_bytes (x : BitVec 256) : ofL (asText (bys x)).data.toList = x := by
  apply BitVec.eq_of_getLsbD_eq
  intro j hj
  unfold ofL
  rw [Bool.eq_iff_iff, fold_get, asText_data]
  have h := bysTo_mem x 256
  constructor
  · rintro (h0 | ⟨c, hc, rfl⟩)
    · simp at h0
    · obtain ⟨n, hn, rfl⟩ := List.mem_map.1 hc
      have h1 := (h n).1 hn
      rw [of8 (by omega)]
      exact h1.2.2
  · intro hx
    refine .inr ⟨UInt8.ofNat j, List.mem_map.2 ⟨(j : Int), (h j).2 ⟨by omega, by omega, by simpa using hx⟩, by simp⟩, of8 hj⟩
theorem rdMember_at {s : ByteArray} {i a : Nat} {c : Int} (hi : i ≤ s.size) (h : rdMember s i = .inr (a, c)) : a ≤ s.size := by
  unfold rdMember at h
  split at h
  · unfold rdClass at h
    split at h
    · simp at h
    · simp only [Sum.inr.injEq, Prod.mk.injEq] at h; omega
  · split at h
    · simp only [Sum.inr.injEq, Prod.mk.injEq] at h; omega
    · rename_i lo m hm
      split at h
      · rename_i hc
        have hlt : m < s.size := chr_lt (by rw [hc]; omega)
        split at h
        · simp only [Sum.inr.injEq, Prod.mk.injEq] at h; omega
        · split at h
          · simp only [Sum.inr.injEq, Prod.mk.injEq] at h; omega
          · simp at h
      · simp at h
theorem rdMembers_at {s : ByteArray} : ∀ {f : Nat} {x : BitVec 256} {i a : Nat} {c : Int}, i ≤ s.size → rdMembers s f x i = .inr (a, c) → a ≤ s.size := by
  intro f
  induction f with
  | zero => intro x i a c hi h; simp only [rdMembers, Sum.inr.injEq, Prod.mk.injEq] at h; omega
  | succ f ih =>
    intro x i a c hi h
    by_cases hc : chr s i = 93
    · rw [rdMembers_end hc] at h; simp at h
    · cases hm : rdMember s i with
      | inr pq =>
        obtain ⟨a', c'⟩ := pq
        rw [rdMembers_err hc hm] at h; simp only [Sum.inr.injEq, Prod.mk.injEq] at h; rw [← h.1]; exact rdMember_at hi hm
      | inl p => obtain ⟨y, n⟩ := p; rw [rdMembers_step hc hm] at h; exact ih (rdMember_bd hm).2 h
theorem rdRead_at {s : ByteArray} {i : Int} {a : Nat} {c : Int} (h : rdRead s i = .inr (a, c)) : a ≤ s.size := by
  unfold rdRead at h
  split at h
  · simp only [Sum.inr.injEq, Prod.mk.injEq] at h; omega
  · rename_i hr
    split at h
    · rename_i h1
      have hlt : i.toNat < s.size := chr_lt (by rw [h1]; omega)
      split at h
      · rename_i h2
        have hlt2 : i.toNat + 1 < s.size := chr_lt (by rw [h2]; omega)
        cases hm : rdMembers s (s.size + 1) 0#256 (i.toNat + 2) with
        | inr pq =>
          obtain ⟨a', c'⟩ := pq
          rw [hm] at h; simp only [rdTurn, Sum.inr.injEq, Prod.mk.injEq] at h; rw [← h.1]; exact rdMembers_at (by omega) hm
        | inl p => rw [hm] at h; simp [rdTurn] at h
      · cases hm : rdMembers s (s.size + 1) 0#256 (i.toNat + 1) with
        | inr pq =>
          obtain ⟨a', c'⟩ := pq
          rw [hm] at h; simp only [rdEnd, Sum.inr.injEq, Prod.mk.injEq] at h; rw [← h.1]; exact rdMembers_at (by omega) hm
        | inl p => rw [hm] at h; simp [rdEnd] at h
    · simp only [Sum.inr.injEq, Prod.mk.injEq] at h; omega
theorem rdParse_at {s : ByteArray} {a : Nat} {c : Int} (h : rdParse s = .inr (a, c)) : a ≤ s.size ∧ (c != 0) = true := by
  unfold rdParse at h
  split at h
  · simp only [Sum.inr.injEq, Prod.mk.injEq] at h; obtain ⟨rfl, rfl⟩ := h; exact ⟨by omega, rfl⟩
  · cases hm : rdRead s 0 with
    | inr pq =>
      obtain ⟨a', c'⟩ := pq
      rw [hm] at h; simp only [Sum.inr.injEq, Prod.mk.injEq] at h; obtain ⟨rfl, rfl⟩ := h; exact ⟨rdRead_at hm, rdRead_code hm⟩
    | inl p =>
      obtain ⟨x, n⟩ := p
      rw [hm] at h
      by_cases hn : n < s.size
      · have h2 : (Sum.inr (n, 6) : Rd (BitVec 256)) = .inr (a, c) := (if_pos hn).symm.trans h
        simp only [Sum.inr.injEq, Prod.mk.injEq] at h2; obtain ⟨rfl, rfl⟩ := h2; exact ⟨by omega, rfl⟩
      · have h2 : (Sum.inl x : Rd (BitVec 256)) = .inr (a, c) := (if_neg hn).symm.trans h
        simp at h2
end Go.Proofs.Ytlcmlipldkpliab
