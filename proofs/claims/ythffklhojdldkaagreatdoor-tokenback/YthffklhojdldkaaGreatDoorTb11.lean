/- DERIVED. Plain mathematics and walks, laid together (11). -/
import Derived.Test.YthffklhojdldkaaGreatDoorTb10
namespace Go.Proofs.YthffklhojdldkaaGreatDoor
open Go.RowKit
/-- A list of bytes as a text. -/
abbrev tx8 (l : List UInt8) : ByteArray := ⟨l.toArray⟩
/-- The byte at a place of a list, or -1. -/
def chL (l : List UInt8) (i : Nat) : Int := match l[i]? with
  | some c => (c.toNat : Int)
  | none => -1
theorem tx_size (l : List UInt8) : (tx8 l).size = l.length := rfl
theorem chr_tx (l : List UInt8) (i : Nat) : chr (tx8 l) i = chL l i := by
  unfold chr chL
  by_cases h : i < l.length
  · rw [dif_pos (show i < (tx8 l).size from h), List.getElem?_eq_getElem h]
    rfl
  · rw [dif_neg (show ¬ i < (tx8 l).size from h), List.getElem?_eq_none (by omega)]
theorem chL_app (p r : List UInt8) (j : Nat) : chL (p ++ r) (p.length + j) = chL r j := by
  unfold chL
  rw [List.getElem?_append_right (by omega), Nat.add_sub_cancel_left]
theorem at0 (p r : List UInt8) : chr (tx8 (p ++ r)) p.length = chL r 0 := by rw [chr_tx]; exact chL_app p r 0
theorem atj (p r : List UInt8) (j : Nat) : chr (tx8 (p ++ r)) (p.length + j) = chL r j := by rw [chr_tx]; exact chL_app p r j
theorem of8 {b : Nat} (h : b < 256) : (UInt8.ofNat b).toNat = b := by rw [UInt8.toNat_ofNat']; omega
theorem hexV_hexD : ∀ n : Fin 16, hexV ((hexD n.val).toNat : Int) = (n.val : Int) := by decide
theorem sign_cases {b : Nat} (h : signB b = true) : b = 92 ∨ b = 93 ∨ b = 91 ∨ b = 94 ∨ b = 45 ∨ b = 37 := by
  simp [signB] at h; omega
theorem sign_not {b : Nat} (h : ¬ signB b = true) : b ≠ 92 ∧ b ≠ 93 ∧ b ≠ 91 ∧ b ≠ 94 ∧ b ≠ 45 ∧ b ≠ 37 := by
  simp [signB] at h; omega

theorem rdItem_esc (p r : List UInt8) : rdItem (tx8 (p ++ (92 :: r))) p.length = rdEsc (tx8 (p ++ (92 :: r))) p.length := by
  unfold rdItem
  rw [at0]
  exact if_pos rfl
theorem rdEsc_at (p r : List UInt8) (c : UInt8) : chr (tx8 (p ++ (92 :: c :: r))) (p.length + 1) = (c.toNat : Int) := by rw [atj]; rfl
theorem rdItem_itm (p q : List UInt8) (b : Nat) (hb : b < 256) : rdItem (tx8 (p ++ (itm b ++ q))) p.length = some (b, p.length + (itm b).length) := by
  unfold itm
  split
  · subst b; rw [List.cons_append, rdItem_esc]; unfold rdEsc; rw [List.cons_append, rdEsc_at]; exact if_pos rfl
  split
  · subst b; rw [List.cons_append, rdItem_esc]; unfold rdEsc; rw [List.cons_append, rdEsc_at]; rfl
  split
  · subst b; rw [List.cons_append, rdItem_esc]; unfold rdEsc; rw [List.cons_append, rdEsc_at]; rfl
  split
  · rename_i hs
    rw [List.cons_append, rdItem_esc]; unfold rdEsc; rw [List.cons_append, rdEsc_at]
    rcases sign_cases hs with rfl | rfl | rfl | rfl | rfl | rfl <;> rfl
  split
  · rename_i hs hp
    obtain ⟨s1, s2, s3, s4, s5, s6⟩ := sign_not hs
    have e : chL ([UInt8.ofNat b] ++ q) 0 = (b : Int) := by show ((UInt8.ofNat b).toNat : Int) = b; rw [of8 hb]
    unfold rdItem; rw [at0, e, if_neg (by omega), if_neg (by rw [hp]; simp; omega)]; rfl
  · have e2 : chL ([92, 120, hexD (b / 16), hexD (b % 16)] ++ q) 2 = ((hexD (b / 16)).toNat : Int) := rfl
    have e3 : chL ([92, 120, hexD (b / 16), hexD (b % 16)] ++ q) 3 = ((hexD (b % 16)).toNat : Int) := rfl
    have h2 := hexV_hexD ⟨b / 16, by omega⟩
    have h3 := hexV_hexD ⟨b % 16, by omega⟩
    simp only at h2 h3
    have k : rdHex (tx8 (p ++ ([92, 120, hexD (b / 16), hexD (b % 16)] ++ q))) p.length = some (b, p.length + 4) := by
      unfold rdHex
      rw [atj, atj, e2, e3, h2, h3, if_pos (by omega)]
      congr 2
      omega
    rw [List.cons_append, rdItem_esc]
    unfold rdEsc
    rw [List.cons_append, rdEsc_at]
    exact k
theorem head_itm (b : Nat) (hb : b < 256) (q : List UInt8) : chL (itm b ++ q) 0 ≠ 45 ∧ chL (itm b ++ q) 0 ≠ 37 ∧ chL (itm b ++ q) 0 ≠ 93 ∧ chL (itm b ++ q) 0 ≠ 94 := by
  have h92 : ∀ r : List UInt8, chL (92 :: r) 0 = 92 := fun _ => rfl
  unfold itm
  split
  · rw [List.cons_append, h92]; decide
  split
  · rw [List.cons_append, h92]; decide
  split
  · rw [List.cons_append, h92]; decide
  split
  · rw [List.cons_append, h92]; decide
  split
  · rename_i hs hp
    obtain ⟨s1, s2, s3, s4, s5, s6⟩ := sign_not hs
    have e : chL ([UInt8.ofNat b] ++ q) 0 = (b : Int) := by show ((UInt8.ofNat b).toNat : Int) = b; rw [of8 hb]
    rw [e]; omega
  · rw [List.cons_append, h92]; decide
theorem itm_pos (b : Nat) : 1 ≤ (itm b).length := by
  unfold itm
  repeat' split
  all_goals simp

theorem mem_one (p q : List UInt8) (b : Nat) (hb : b < 256) (hq : chL q 0 ≠ 45) : rdMember (tx8 (p ++ (itm b ++ q))) p.length = .inl (spn b b, p.length + (itm b).length) := by
  unfold rdMember
  rw [at0, if_neg (head_itm b hb q).2.1, rdItem_itm p q b hb]
  have e : chr (tx8 (p ++ (itm b ++ q))) (p.length + (itm b).length) = chL q 0 := by
    rw [← List.append_assoc, ← List.length_append]; exact at0 _ q
  exact if_neg (by rw [e]; exact hq)
theorem mem_span (p q : List UInt8) (lo hi : Nat) (hlo : lo < 256) (hhi : hi < 256) (hle : lo ≤ hi) : rdMember (tx8 (p ++ (itm lo ++ (45 :: (itm hi ++ q))))) p.length = .inl (spn lo hi, p.length + (itm lo).length + 1 + (itm hi).length) := by
  unfold rdMember
  rw [at0, if_neg (head_itm lo hlo _).2.1, rdItem_itm p _ lo hlo]
  have e : chr (tx8 (p ++ (itm lo ++ (45 :: (itm hi ++ q))))) (p.length + (itm lo).length) = 45 := by
    rw [← List.append_assoc, ← List.length_append, at0]; rfl
  have e2 : rdItem (tx8 (p ++ (itm lo ++ (45 :: (itm hi ++ q))))) (p.length + (itm lo).length + 1) = some (hi, p.length + (itm lo).length + 1 + (itm hi).length) := by
    have h := rdItem_itm (p ++ itm lo ++ [45]) q hi hhi
    rw [show p ++ itm lo ++ [45] ++ (itm hi ++ q) = p ++ (itm lo ++ (45 :: (itm hi ++ q))) from by simp] at h
    have hlen : (p ++ itm lo ++ [(45 : UInt8)]).length = p.length + (itm lo).length + 1 := by simp; omega
    rw [hlen] at h
    exact h
  refine (if_pos e).trans ?_
  rw [e2]
  exact if_neg (by omega)

/-- The union of spans. -/
def unL (l : List (Int × Int)) (s : BitVec 256) : BitVec 256 := l.foldl (fun s p => s ||| spn p.1 p.2) s
theorem unL_cons (p : Int × Int) (l : List (Int × Int)) (s : BitVec 256) : unL (p :: l) s = unL l (s ||| spn p.1 p.2) := rfl
theorem mems_cons' (p : Int × Int) (l : List (Int × Int)) : mems (p :: l) = spT p.1.toNat p.2.toNat ++ mems l := by unfold mems; rfl
theorem head_mems (l : List (Int × Int)) (hl : ∀ p ∈ l, 0 ≤ p.1 ∧ p.1 ≤ p.2 ∧ p.2 < 256) : chL (mems l ++ [93]) 0 ≠ 45 ∧ chL (mems l ++ [93]) 0 ≠ 94 := by
  cases l with
  | nil => decide
  | cons p l =>
    have h := hl p (by simp)
    rw [mems_cons']
    unfold spT
    split
    · rw [List.append_assoc]; have := head_itm p.1.toNat (by omega) (mems l ++ [93]); exact ⟨this.1, this.2.2.2⟩
    split
    · rw [List.append_assoc, List.append_assoc]; have := head_itm p.1.toNat (by omega) (itm p.2.toNat ++ (mems l ++ [93])); exact ⟨this.1, this.2.2.2⟩
    · rw [List.append_assoc, List.append_assoc, List.append_assoc]; have := head_itm p.1.toNat (by omega) ([45] ++ (itm p.2.toNat ++ (mems l ++ [93]))); exact ⟨this.1, this.2.2.2⟩
theorem spn_two (lo : Nat) (h : lo + 1 < 256) (s : BitVec 256) : s ||| spn lo lo ||| spn ((lo + 1 : Nat) : Int) ((lo + 1 : Nat) : Int) = s ||| spn lo ((lo + 1 : Nat) : Int) := by
  apply BitVec.eq_of_getLsbD_eq
  intro i _
  simp only [BitVec.getLsbD_or]
  rw [spn_get _ _ (by omega), spn_get _ _ (by omega), spn_get _ _ (by omega), Bool.or_assoc]
  congr 1
  rw [Bool.eq_iff_iff]
  simp
  omega

theorem rdMembers_mems : ∀ (l : List (Int × Int)), (∀ p ∈ l, 0 ≤ p.1 ∧ p.1 ≤ p.2 ∧ p.2 < 256) → ∀ (p : List UInt8) (s : BitVec 256) (f : Nat), (mems l).length + 1 ≤ f →
    rdMembers (tx8 (p ++ (mems l ++ [93]))) f s p.length = .inl (unL l s, p.length + (mems l).length) := by
  intro l
  induction l with
  | nil =>
    intro _ p s f hf
    obtain ⟨g, rfl⟩ : ∃ g, f = g + 1 := ⟨f - 1, by simp [mems] at hf; omega⟩
    rw [rdMembers_end (by rw [at0]; rfl)]
    rfl
  | cons a l ih =>
    intro hl p s f hf
    have h := hl a (by simp)
    have hl' : ∀ q ∈ l, 0 ≤ q.1 ∧ q.1 ≤ q.2 ∧ q.2 < 256 := fun q hq => hl q (List.mem_cons_of_mem _ hq)
    have hm := head_mems l hl'
    obtain ⟨g, rfl⟩ : ∃ g, f = g + 1 := ⟨f - 1, by omega⟩
    obtain ⟨lo, hlo⟩ : ∃ lo : Nat, a.1 = lo := ⟨a.1.toNat, by omega⟩
    obtain ⟨hi, hhi⟩ : ∃ hi : Nat, a.2 = hi := ⟨a.2.toNat, by omega⟩
    have i1 := itm_pos lo
    have i2 := itm_pos hi
    rw [mems_cons', unL_cons, hlo, hhi, Int.toNat_natCast, Int.toNat_natCast]
    rw [mems_cons', hlo, hhi, Int.toNat_natCast, Int.toNat_natCast] at hf
    unfold spT at hf ⊢
    split
    · rename_i h0
      obtain rfl : hi = lo := by omega
      rw [if_pos h0, List.length_append] at hf
      rw [List.append_assoc, rdMembers_step (by rw [at0]; exact (head_itm hi (by omega) _).2.2.1) (mem_one p _ hi (by omega) hm.1)]
      have := ih hl' (p ++ itm hi) (s ||| spn hi hi) g (by omega)
      rw [List.append_assoc, List.length_append] at this
      rw [this, List.length_append]
      congr 2
      omega
    · rename_i h0
      rw [if_neg h0] at hf
      split
      · rename_i h1
        obtain rfl : hi = lo + 1 := by omega
        rw [if_pos h1, List.length_append, List.length_append] at hf
        obtain ⟨g', rfl⟩ : ∃ g', g = g' + 1 := ⟨g - 1, by omega⟩
        rw [List.append_assoc, List.append_assoc, rdMembers_step (by rw [at0]; exact (head_itm lo (by omega) _).2.2.1) (mem_one p _ lo (by omega) (head_itm (lo + 1) (by omega) _).1)]
        have e := mem_one (p ++ itm lo) (mems l ++ [93]) (lo + 1) (by omega) hm.1
        rw [List.append_assoc, List.length_append] at e
        have e0 : ¬ chr (tx8 (p ++ (itm lo ++ (itm (lo + 1) ++ (mems l ++ [93]))))) (p.length + (itm lo).length) = 93 := by
          rw [← List.append_assoc, ← List.length_append, at0]; exact (head_itm (lo + 1) (by omega) _).2.2.1
        rw [rdMembers_step e0 e]
        have := ih hl' (p ++ itm lo ++ itm (lo + 1)) (s ||| spn lo lo ||| spn ((lo + 1 : Nat) : Int) ((lo + 1 : Nat) : Int)) g' (by omega)
        rw [List.append_assoc, List.append_assoc, List.length_append, List.length_append] at this
        rw [this, List.length_append, List.length_append, spn_two lo (by omega)]
        congr 2
        omega
      · rename_i h1
        rw [if_neg h1, List.length_append, List.length_append, List.length_append] at hf
        rw [show itm lo ++ [45] ++ itm hi ++ mems l ++ [93] = itm lo ++ (45 :: (itm hi ++ (mems l ++ [93]))) from by simp]
        rw [rdMembers_step (by rw [at0]; exact (head_itm lo (by omega) _).2.2.1) (mem_span p _ lo hi (by omega) (by omega) (by omega))]
        have hlen : (p ++ itm lo ++ [(45 : UInt8)] ++ itm hi).length = p.length + (itm lo).length + 1 + (itm hi).length := by simp; omega
        have := ih hl' (p ++ itm lo ++ [45] ++ itm hi) (s ||| spn lo hi) g (by simp at hf; omega)
        rw [show p ++ itm lo ++ [45] ++ itm hi ++ (mems l ++ [93]) = p ++ (itm lo ++ (45 :: (itm hi ++ (mems l ++ [93])))) from by simp, hlen] at this
        rw [this]
        congr 2
        simp
        omega
end Go.Proofs.YthffklhojdldkaaGreatDoor

namespace Go.Proofs.YthffklhojdldkaaGreatDoor
open Go.RowKit
theorem unL_get (l : List (Int × Int)) (hl : ∀ p ∈ l, p.2 ≤ 255) (s : BitVec 256) (j : Nat) : (unL l s).getLsbD j = true ↔ s.getLsbD j = true ∨ ∃ p ∈ l, p.1 ≤ (j : Int) ∧ (j : Int) ≤ p.2 := by
  induction l generalizing s with
  | nil => simp [unL]
  | cons a l ih =>
    rw [unL_cons, ih (fun p hp => hl p (List.mem_cons_of_mem _ hp)), BitVec.getLsbD_or, spn_get _ _ (hl a (by simp))]
    simp only [Bool.or_eq_true, Bool.and_eq_true, decide_eq_true_eq, List.mem_cons, exists_eq_or_imp]
    constructor
    · rintro ((h | h) | h)
      · exact .inl h
      · exact .inr (.inl h)
      · exact .inr (.inr h)
    · rintro (h | h | h)
      · exact .inl (.inl h)
      · exact .inl (.inr h)
      · exact .inr h
theorem spL_cover (j : Int) : ∀ (n : Nat) (bs : List Int), bs.length = n → ((∃ p ∈ spL bs, p.1 ≤ j ∧ j ≤ p.2) ↔ j ∈ bs) := by
  intro n
  induction n with
  | zero => intro bs h; rw [List.eq_nil_of_length_eq_zero h]; simp [spL]
  | succ n ih =>
    intro bs h
    rcases snoc_cases bs with rfl | ⟨m, b, rfl⟩
    · simp at h
    · have ihm := ih m (by simp at h; exact h)
      have hok := spL_ok m
      rw [spL_snoc]
      rcases snoc_cases (spL m) with hs | ⟨l, ⟨lo, hi⟩, hs⟩
      · rw [hs] at ihm ⊢
        rw [List.mem_append, ← ihm]
        simp [spStep]
        omega
      · rw [hs] at ihm hok ⊢
        have hle := hok (lo, hi) (by simp)
        simp only at hle
        rw [List.mem_append, ← ihm]
        by_cases e : hi + 1 = b
        · rw [spStep_hit _ _ _ _ e]
          constructor
          · rintro ⟨p, hp, h1, h2⟩
            rcases List.mem_append.1 hp with h3 | h3
            · exact .inl ⟨p, List.mem_append_left _ h3, h1, h2⟩
            · simp at h3; subst h3
              simp only at h1 h2
              by_cases hj : j ≤ hi
              · exact .inl ⟨(lo, hi), by simp, h1, hj⟩
              · exact .inr (by simp; omega)
          · rintro (⟨p, hp, h1, h2⟩ | h1)
            · rcases List.mem_append.1 hp with h3 | h3
              · exact ⟨p, List.mem_append_left _ h3, h1, h2⟩
              · simp at h3; subst h3
                exact ⟨(lo, b), by simp, h1, by simp only at h2 ⊢; omega⟩
            · simp at h1; subst h1
              exact ⟨(lo, j), by simp, by simp only; omega, by simp only; omega⟩
        · rw [spStep_miss _ _ _ _ e]
          constructor
          · rintro ⟨p, hp, h1, h2⟩
            rcases List.mem_append.1 hp with h3 | h3
            · exact .inl ⟨p, h3, h1, h2⟩
            · simp at h3; subst h3; simp only at h1 h2; exact .inr (by simp; omega)
          · rintro (⟨p, hp, h1, h2⟩ | h1)
            · exact ⟨p, List.mem_append_left _ hp, h1, h2⟩
            · simp at h1; subst h1; exact ⟨(j, j), by simp, by simp only; omega, by simp only; omega⟩
theorem unL_spL (x : BitVec 256) : unL (spL (bys x)) 0#256 = x := by
  apply BitVec.eq_of_getLsbD_eq
  intro j hj
  rw [Bool.eq_iff_iff, unL_get _ (fun p hp => by have := spL_byte x p hp; omega), spL_cover (j : Int) _ (bys x) rfl]
  have h := bysTo_mem x 256 (j : Int)
  rw [show bys x = bysTo x 256 from rfl, h]
  simp
  omega
def isRd (r : Rd (BitVec 256 × Nat)) (x : BitVec 256) (n : Nat) : Bool := match r with
  | .inl p => p.1 == x && p.2 == n
  | .inr _ => false
theorem isRd_eq {r : Rd (BitVec 256 × Nat)} {x : BitVec 256} {n : Nat} (h : isRd r x n = true) : r = .inl (x, n) := by
  cases r with
  | inr q => cases h
  | inl p =>
    obtain ⟨a, b⟩ := p
    simp only [isRd, Bool.and_eq_true, beq_iff_eq] at h
    rw [h.1, h.2]
/-- The class text leads back. -/
theorem back_read (x : BitVec 256) : rdRead (tx8 (shT x)) 0 = .inl (x, (shT x).length) := by
  unfold shT
  cases hf : fulB x
  · rw [if_neg (by simp)]
    have hL := spL_byte x
    have hlen := spL_len256 x
    have hm := head_mems _ hL
    have hml := mems_len (spL (bys x))
    have key := rdMembers_mems _ hL [91] 0#256
    rw [unL_spL] at key
    generalize mems (spL (bys x)) = M at *
    have e0 : chr (tx8 (91 :: M ++ [93])) 0 = 91 := by rw [chr_tx]; rfl
    have e1 : chr (tx8 (91 :: M ++ [93])) 1 = chL (M ++ [93]) 0 := atj [91] (M ++ [93]) 0
    have hsz : (tx8 (91 :: M ++ [93])).size = M.length + 2 := by rw [tx_size]; simp
    have k := key ((tx8 (91 :: M ++ [93])).size + 1) (by rw [hsz]; omega)
    have hr : rdRead (tx8 (91 :: M ++ [93])) 0 = .inl (x, M.length + 2) := by
      unfold rdRead
      rw [if_neg (by omega), show Int.toNat 0 = 0 from rfl, if_pos e0, if_neg (by show ¬ chr _ 1 = 94; rw [e1]; exact hm.2)]
      show rdEnd (rdMembers (tx8 ([91] ++ (M ++ [93]))) _ 0#256 1) = _
      rw [show rdMembers (tx8 ([91] ++ (M ++ [93]))) ((tx8 (91 :: M ++ [93])).size + 1) 0#256 1 = .inl (x, [91].length + M.length) from k]
      show Sum.inl (x, [91].length + M.length + 1) = _
      congr 2
      simp
      omega
    rw [hr]
    congr 2
    simp
  · rw [if_pos rfl]
    have hx : x = ~~~ 0#256 := by simpa [fulB] using hf
    rw [hx]
    exact isRd_eq (by decide +kernel)
theorem rdMember_at {s : ByteArray} {i a : Nat} {c : Int} (hi : i ≤ s.size) (h : rdMember s i = .inr (a, c)) : a ≤ s.size := by
  unfold rdMember at h
  split at h
  · unfold rdClass at h
    split at h
    · simp at h
    · simp only [Sum.inr.injEq, Prod.mk.injEq] at h; omega
  · split at h
    · simp only [Sum.inr.injEq, Prod.mk.injEq] at h; omega
    · rename_i lo m hm
      split at h
      · rename_i hc
        have hlt : m < s.size := chr_lt (by rw [hc]; omega)
        split at h
        · simp only [Sum.inr.injEq, Prod.mk.injEq] at h; omega
        · split at h
          · simp only [Sum.inr.injEq, Prod.mk.injEq] at h; omega
          · simp at h
      · simp at h
theorem rdMembers_at {s : ByteArray} : ∀ {f : Nat} {x : BitVec 256} {i a : Nat} {c : Int}, i ≤ s.size → rdMembers s f x i = .inr (a, c) → a ≤ s.size := by
  intro f
  induction f with
  | zero => intro x i a c hi h; simp only [rdMembers, Sum.inr.injEq, Prod.mk.injEq] at h; omega
  | succ f ih =>
    intro x i a c hi h
    by_cases hc : chr s i = 93
    · rw [rdMembers_end hc] at h; simp at h
    · cases hm : rdMember s i with
      | inr pq =>
        obtain ⟨a', c'⟩ := pq
        rw [rdMembers_err hc hm] at h; simp only [Sum.inr.injEq, Prod.mk.injEq] at h; rw [← h.1]; exact rdMember_at hi hm
      | inl p => obtain ⟨y, n⟩ := p; rw [rdMembers_step hc hm] at h; exact ih (rdMember_bd hm).2 h
theorem rdRead_at {s : ByteArray} {i : Int} {a : Nat} {c : Int} (h : rdRead s i = .inr (a, c)) : a ≤ s.size := by
  unfold rdRead at h
  split at h
  · simp only [Sum.inr.injEq, Prod.mk.injEq] at h; omega
  · rename_i hr
    split at h
    · rename_i h1
      have hlt : i.toNat < s.size := chr_lt (by rw [h1]; omega)
      split at h
      · rename_i h2
        have hlt2 : i.toNat + 1 < s.size := chr_lt (by rw [h2]; omega)
        cases hm : rdMembers s (s.size + 1) 0#256 (i.toNat + 2) with
        | inr pq =>
          obtain ⟨a', c'⟩ := pq
          rw [hm] at h; simp only [rdTurn, Sum.inr.injEq, Prod.mk.injEq] at h; rw [← h.1]; exact rdMembers_at (by omega) hm
        | inl p => rw [hm] at h; simp [rdTurn] at h
      · cases hm : rdMembers s (s.size + 1) 0#256 (i.toNat + 1) with
        | inr pq =>
          obtain ⟨a', c'⟩ := pq
          rw [hm] at h; simp only [rdEnd, Sum.inr.injEq, Prod.mk.injEq] at h; rw [← h.1]; exact rdMembers_at (by omega) hm
        | inl p => rw [hm] at h; simp [rdEnd] at h
    · simp only [Sum.inr.injEq, Prod.mk.injEq] at h; omega
end Go.Proofs.YthffklhojdldkaaGreatDoor

namespace Go.Proofs.YthffklhojdldkaaGreatDoor.Q
open Go.RowKit
set_option maxRecDepth 100000 in
set_option maxHeartbeats 4000000 in
theorem cut_any (s : ByteArray) (i : Int) (w : World) :
    Calls Tryz.prog 82 #[.string s, .int .i64 i] w fun e w' => e = .returned (cuV (rdCut s i)) ∧ Below w.heap.size w w' := by
  have HF := (show Hid _ from FHolds.new w 0 0)
  have HB := (show Hid _ from (Below.refl w.heap.size w).alloc (Nat.le_refl _) (.cells #[.int .i64 0, .int .i64 0] 37))
  have HP : Hid (∀ w, Calls Tryz.prog 102 #[.string s, .int .i64 i] w fun e w' => e = .returned (.int .i64 (cpE s i)) ∧ w' = w) := fun w => checkPlace_any s i w
  by_cases hcp : cpE s i = 0
  · have hc : ¬ 65536 < s.size ∧ ¬ (i < 0 ∨ (s.size : Int) < i) := by
      unfold cpE at hcp; split at hcp
      · omega
      · split at hcp
        · omega
        · next a b => exact ⟨a, b⟩
    obtain ⟨h1, h2⟩ := hc
    have h0 : 0 ≤ i := by omega
    obtain ⟨n, rfl⟩ := Int.eq_ofNat_of_zero_le h0
    have HE : Hid (rdCut s (n : Int) = if chr s n = 39 ∨ chr s n = 34 then rdBody s (chr s n) (s.size + 1) (n + 1) [] else .inr (n, 20)) := (by show rdCut s (n : Int) = _; unfold rdCut; rw [if_neg h1, if_neg h2, Int.toNat_natCast])
    rw [hcp] at HP
    clear hcp
    by_cases hn : n < s.size
    · have hnI : (n : Int) < (s.size : Int) := by omega
      have en : ((n : Int) == (s.size : Int)) = false := beq_eq_false_iff_ne.2 (by omega)
      have HC := (show Hid _ from chr_in hn)
      have hb := chr_bd hn
      rw [HC.out] at hb
      have HM : Hid (∀ w, Calls Tryz.prog 103 #[.int .u8 (s[n].toNat : Int)] w fun e w' => e = .returned (.bool (mkB (s[n].toNat : Int))) ∧ w' = w) := fun w => isMark_any _ w
      cases hmk : mkB (s[n].toNat : Int)
      · have HG := (show Hid (rdCut s (n : Int) = .inr (n, 20)) from (by
          show rdCut s (n : Int) = _
          rw [HE.out, if_neg]
          rw [HC.out]
          unfold mkB at hmk
          simp at hmk
          omega))
        rw [hmk] at HM
        clear HE hmk HC
        go_enter Tryz.func82, Tryz.ntmps82
        go_wp2_with fail
        refine (HP.out _).mono ?_
        rintro e w1 ⟨rfl, rfl⟩
        go_wp2_with fail
        refine (HM.out _).mono ?_
        rintro e w1 ⟨rfl, rfl⟩
        obtain ⟨_, c0, c1, f0, f1⟩ := HF.out
        go_wp2_with fail
        rw [HG.out]
        refine bodyPost_ret (v := cuV (.inr (n, 20))) (by simp [results, Tryz.results82, go_sem, cuV, *]) rfl ⟨rfl, ?_⟩
        exact (Below.refl _ _).alloc (Nat.le_refl _) _
      · have HG := (show Hid (rdCut s (n : Int) = rdBody s (s[n].toNat : Int) (s.size + 1) (n + 1) []) from (by
          show rdCut s (n : Int) = _
          rw [HE.out, if_pos]
          · rw [HC.out]
          · rw [HC.out]
            unfold mkB at hmk
            simp at hmk
            omega))
        have HR : Hid (∀ w, Calls Tryz.prog 104 #[.string s, .int .i64 ((n : Int) + 1), .int .u8 (s[n].toNat : Int)] w fun e w' => e = .returned (cuV (rdBody s (s[n].toNat : Int) (s.size + 1) (n + 1) [])) ∧ Below w.heap.size w w') := fun w => readBehind_any s (n + 1) _ (by omega) (by omega) (by omega) w
        rw [hmk] at HM
        rw [← HG.out] at HR
        clear HE hmk HC HG
        generalize rdCut s (n : Int) = R at *
        go_enter Tryz.func82, Tryz.ntmps82
        go_wp2_with fail
        refine (HP.out _).mono ?_
        rintro e w1 ⟨rfl, rfl⟩
        go_wp2_with fail
        refine (HM.out _).mono ?_
        rintro e w1 ⟨rfl, rfl⟩
        go_wp2_with fail
        refine (HR.out _).mono ?_
        rintro e w2 ⟨rfl, hb2⟩
        have HF2 := (show Hid _ from HF.out.below hb2 HF.out.lt)
        have HB2 := (show Hid _ from HB.out.trans (hb2.mono HB.out.size))
        have hl : w.heap.size < w2.heap.size := HF2.out.lt
        clear hb2 HR
        obtain ⟨_, c0, c1, f0, f1⟩ := HF2.out
        cases R with
        | inr pq =>
          obtain ⟨a, c⟩ := pq
          dsimp only [cuV]
          go_wp2_with fail
          refine bodyPost_ret (v := cuV (.inr (a, c))) (by simp [results, Tryz.results82, go_sem, cuV, *]) rfl ⟨rfl, ?_⟩
          exact putF_below HB2.out (Nat.le_refl _) _ _
        | inl p =>
          obtain ⟨l, e⟩ := p
          dsimp only [cuV]
          go_wp2_with fail
          refine bodyPost_ret (v := cuV (.inl (l, e))) (by simp [results, Tryz.results82, go_sem, cuV, *]) rfl ⟨rfl, ?_⟩
          exact putF_below HB2.out (Nat.le_refl _) _ _
    · have hnI : ¬ (n : Int) < (s.size : Int) := by omega
      have en : ((n : Int) == (s.size : Int)) = true := beq_iff_eq.2 (by omega)
      have HG := (show Hid (rdCut s (n : Int) = .inr (n, 20)) from (by
        show rdCut s (n : Int) = _
        rw [HE.out, if_neg]
        rw [chr_out hn]
        omega))
      clear HE
      go_enter Tryz.func82, Tryz.ntmps82
      go_wp2_with fail
      refine (HP.out _).mono ?_
      rintro e w1 ⟨rfl, rfl⟩
      obtain ⟨_, c0, c1, f0, f1⟩ := HF.out
      go_wp2_with fail
      rw [HG.out]
      refine bodyPost_ret (v := cuV (.inr (n, 20))) (by simp [results, Tryz.results82, go_sem, cuV, *]) rfl ⟨rfl, ?_⟩
      exact (Below.refl _ _).alloc (Nat.le_refl _) _
  · have HG := (show Hid (rdCut s i = .inr (0, (cpE s i))) from (by
      show rdCut s i = _
      unfold rdCut cpE at *
      split
      · rfl
      · next h => 
        rw [if_neg h] at hcp
        split
        · rfl
        · next h2 => rw [if_neg h2] at hcp; exact absurd rfl hcp))
    have ec : (cpE s i != 0) = true := bne_iff_ne.2 hcp
    clear hcp
    generalize cpE s i = c at *
    go_enter Tryz.func82, Tryz.ntmps82
    go_wp2_with fail
    refine (HP.out _).mono ?_
    rintro e w1 ⟨rfl, rfl⟩
    obtain ⟨_, c0, c1, f0, f1⟩ := HF.out
    go_wp2_with fail
    rw [HG.out]
    refine bodyPost_ret (v := cuV (.inr (0, c))) (by simp [results, Tryz.results82, go_sem, cuV, *]) rfl ⟨rfl, ?_⟩
    exact (Below.refl _ _).alloc (Nat.le_refl _) _
end Go.Proofs.YthffklhojdldkaaGreatDoor.Q

namespace Go.Proofs.YthffklhojdldkaaGreatDoor
open Go.RowKit
set_option maxRecDepth 100000 in
set_option maxHeartbeats 8000000 in
theorem readLiteral_any (s : ByteArray) (b : Nat) (hs : s.size ≤ 65536) (hb : b ≤ s.size) (hq : chr s b = 39 ∨ chr s b = 34) (w : World) : Calls Tryz.prog 50 #[.string s, .int .i64 b] w fun e w' => e = .returned (tokP (litR s b)) ∧ Below w.heap.size w w' := by
  have HF : Hid (∀ i e w, Calls Tryz.prog 79 #[.int .i64 i, .int .i64 e] w fun e' w' => e' = .returned (pairV tk0 i e) ∧ Below w.heap.size w w') := fun i e w => fault_any i e w
  have HC : Hid (∀ w, Calls Tryz.prog 82 #[.string s, .int .i64 b] w fun e w' => e = .returned (Q.cuV (Q.rdCut s b)) ∧ Below w.heap.size w w') := fun w => Q.cut_any s b w
  have HX := (show Hid (BX w ((w.alloc (tkO tk0)).alloc (fxO 0 0)) tk0 0 0) from BX.new w)
  have HU := (show Hid (litR s b = litP s b (Q.rdCut s b)) from (lit_same s b hs hb hq).symm)
  cases hr : Q.rdCut s b with
  | inr p =>
    obtain ⟨a, c⟩ := p
    obtain ⟨ha, hcc⟩ := rdCut_pos hs hb hq hr
    obtain ⟨a, rfl⟩ : ∃ k : Nat, a = k := ⟨a.toNat, by omega⟩
    rw [hr, litP, Int.toNat_natCast] at HU
    rw [hr] at HC
    clear hr ha hq
    unfold Q.cuV at HC
    rcases hcc with rfl | rfl
    · have HE : Hid (litR s b = .inr (a, 51)) := by show litR s b = _; rw [HU.out, if_pos rfl]
      clear HU
      go_enter Tryz.func50, Tryz.ntmps50
      go_wp2_with fail
      refine (HC.out _).mono ?_
      rintro e w2 ⟨rfl, b2⟩
      have HX2 := (show Hid (BX w (w2.alloc (fxO a 21)) tk0 0 0) from (HX.out.below b2).below (below_box _ _))
      clear b2 HX HC
      go_wp2_with fail
      refine (HF.out _ _ _).mono ?_
      rintro e w3 ⟨rfl, b3⟩
      have HX3 := (show Hid (BX w w3 tk0 0 0) from HX2.out.below b3)
      clear b3 HX2 HF
      obtain ⟨f0, f1', f2', f3, f4, f5, f6, f7, f8, g0, g1⟩ := HX3.out.fz
      obtain ⟨c0, c1, c2, c3, c4, c5, c6, c7, c8, d0, d1⟩ := HX3.out.cells
      unfold pairV
      go_wp2_with fail
      have HP := HX3.out.put tk0 a 51
      exact ret_bx rfl rfl rfl rfl HP ⟨by rw [HE.out]; rfl, HP.b⟩
    · by_cases hlt : a < s.size
      · have HE : Hid (litR s b = .inr (a, 50)) := by show litR s b = _; rw [HU.out, if_neg (by decide), if_pos ⟨rfl, by omega⟩]
        have z1 : (a : Int) < (s.size : Int) := by omega
        clear HU
        go_enter Tryz.func50, Tryz.ntmps50
        go_wp2_with fail
        refine (HC.out _).mono ?_
        rintro e w2 ⟨rfl, b2⟩
        have HX2 := (show Hid (BX w (w2.alloc (fxO a 22)) tk0 0 0) from (HX.out.below b2).below (below_box _ _))
        clear b2 HX HC
        go_wp2_with fail
        refine (HF.out _ _ _).mono ?_
        rintro e w3 ⟨rfl, b3⟩
        have HX3 := (show Hid (BX w w3 tk0 0 0) from HX2.out.below b3)
        clear b3 HX2 HF
        obtain ⟨f0, f1', f2', f3, f4, f5, f6, f7, f8, g0, g1⟩ := HX3.out.fz
        obtain ⟨c0, c1, c2, c3, c4, c5, c6, c7, c8, d0, d1⟩ := HX3.out.cells
        unfold pairV
        go_wp2_with fail
        have HP := HX3.out.put tk0 a 50
        exact ret_bx rfl rfl rfl rfl HP ⟨by rw [HE.out]; rfl, HP.b⟩
      · have HE : Hid (litR s b = .inr (b, 52)) := by show litR s b = _; rw [HU.out, if_neg (by decide), if_neg (by omega)]
        have z1 : ¬ (a : Int) < (s.size : Int) := by omega
        clear HU
        go_enter Tryz.func50, Tryz.ntmps50
        go_wp2_with fail
        refine (HC.out _).mono ?_
        rintro e w2 ⟨rfl, b2⟩
        have HX2 := (show Hid (BX w (w2.alloc (fxO a 22)) tk0 0 0) from (HX.out.below b2).below (below_box _ _))
        clear b2 HX HC
        go_wp2_with fail
        refine (HF.out _ _ _).mono ?_
        rintro e w3 ⟨rfl, b3⟩
        have HX3 := (show Hid (BX w w3 tk0 0 0) from HX2.out.below b3)
        clear b3 HX2 HF
        obtain ⟨f0, f1', f2', f3, f4, f5, f6, f7, f8, g0, g1⟩ := HX3.out.fz
        obtain ⟨c0, c1, c2, c3, c4, c5, c6, c7, c8, d0, d1⟩ := HX3.out.cells
        unfold pairV
        go_wp2_with fail
        have HP := HX3.out.put tk0 b 52
        exact ret_bx rfl rfl rfl rfl HP ⟨by rw [HE.out]; rfl, HP.b⟩
  | inl p =>
    obtain ⟨l, n⟩ := p
    rw [hr, litP] at HU
    rw [hr] at HC
    clear hr hq
    replace HC := (show Hid (∀ w, Calls Tryz.prog 82 #[.string s, .int .i64 b] w fun e w' => e = .returned (.tuple #[.string (asText l), .int .i64 n, .agg #[.int .i64 0, .int .i64 0]]) ∧ Below w.heap.size w w') from HC)
    have hsz : (asText l).size = l.length := asText_size l
    by_cases h255 : 255 < l.length
    · have HE : Hid (litR s b = .inr (b, 2)) := by show litR s b = _; rw [HU.out, if_pos h255]
      have z1 : (255 : Int) < ((asText l).size : Int) := by omega
      clear HU hsz h255
      generalize asText l = t at *
      go_enter Tryz.func50, Tryz.ntmps50
      go_wp2_with fail
      refine (HC.out _).mono ?_
      rintro e w2 ⟨rfl, b2⟩
      have HX2 := (show Hid (BX w (w2.alloc (fxO 0 0)) tk0 0 0) from (HX.out.below b2).below (below_box _ _))
      clear b2 HX HC
      go_wp2_with fail
      refine (HF.out _ _ _).mono ?_
      rintro e w3 ⟨rfl, b3⟩
      have HX3 := (show Hid (BX w w3 tk0 0 0) from HX2.out.below b3)
      clear b3 HX2 HF
      obtain ⟨f0, f1', f2', f3, f4, f5, f6, f7, f8, g0, g1⟩ := HX3.out.fz
      obtain ⟨c0, c1, c2, c3, c4, c5, c6, c7, c8, d0, d1⟩ := HX3.out.cells
      unfold pairV
      go_wp2_with fail
      have HP := HX3.out.put tk0 b 2
      exact ret_bx rfl rfl rfl rfl HP ⟨by rw [HE.out]; rfl, HP.b⟩
    · have HE : Hid (litR s b = .inl ⟨2, 0, b, n, asText l, 0, 0, 0, 0⟩) := by show litR s b = _; rw [HU.out, if_neg h255]
      have z1 : ¬ (255 : Int) < ((asText l).size : Int) := by omega
      clear HU hsz h255 HF
      generalize asText l = t at *
      go_enter Tryz.func50, Tryz.ntmps50
      go_wp2_with fail
      refine (HC.out _).mono ?_
      rintro e w2 ⟨rfl, b2⟩
      have HX2 := (show Hid (BX w w2 tk0 0 0) from HX.out.below b2)
      clear b2 HX HC
      obtain ⟨f0, f1', f2', f3, f4, f5, f6, f7, f8, g0, g1⟩ := HX2.out.fz
      obtain ⟨c0, c1, c2, c3, c4, c5, c6, c7, c8, d0, d1⟩ := HX2.out.cells
      have hsz2 := HX2.out.size
      have hl1 : w.heap.size < w2.heap.size := by omega
      have hne1 : w.heap.size ≠ w2.heap.size := by omega
      have hne2 : w.heap.size + 1 ≠ w2.heap.size := by omega
      go_wp2_with fail
      have HP := (HX2.out.put ⟨2, 0, b, n, t, 0, 0, 0, 0⟩ 0 0).below (below_box _ (fxO 0 0))
      exact ret_bx rfl rfl rfl rfl HP ⟨by rw [HE.out]; rfl, HP.b⟩
end Go.Proofs.YthffklhojdldkaaGreatDoor

namespace Go.Proofs.YthffklhojdldkaaGreatDoor
open Go.RowKit
def oneP (s : ByteArray) (b : Nat) : Sum Tk (Nat × Int) :=
  if hdB (chr s b) = true then nameR s b else if dgB (chr s b) = true then nmR s b b 4 else if chr s b = 39 ∨ chr s b = 34 then litR s b
  else if chr s b = 91 then clT s b (rdRead s b) else if chr s b = 37 then pctP s b else sigP s b
set_option maxRecDepth 100000 in
set_option maxHeartbeats 8000000 in
theorem rt_name (s : ByteArray) (b : Nat) (hs : s.size ≤ 65536) (hb : b < s.size) (h : hdB (chr s b) = true) (w : World) (hg : SG w) : Calls Tryz.prog 26 #[.string s, .int .i64 b] w fun e w' => e = .returned (tokP (oneP s b)) ∧ Below w.heap.size w w' := by
  have HX := (show Hid (BX w ((w.alloc (tkO tk0)).alloc (fxO 0 0)) tk0 0 0) from BX.new w)
  have HG := (show Hid (SG ((w.alloc (tkO tk0)).alloc (fxO 0 0))) from (hg.later (below_box _ _)).later (below_box _ _))
  have hc := chr_in hb
  have HH : Hid (∀ w, Calls Tryz.prog 46 #[.int .u8 (s[b].toNat : Int)] w fun e w' => e = .returned (.bool (hdB (chr s b))) ∧ w' = w) := fun w => by rw [hc]; exact pbegins_any _ w
  have HD : Hid (∀ w, Calls Tryz.prog 48 #[.int .u8 (s[b].toNat : Int)] w fun e w' => e = .returned (.bool (dgB (chr s b))) ∧ w' = w) := fun w => by rw [hc]; exact pdigit_any _ w
  have z0 : (0 : Int) ≤ (b : Int) := by omega
  have z1 : (b : Int) < (s.size : Int) := by omega
  clear hg
  have HN : Hid (∀ w, Calls Tryz.prog 47 #[.string s, .int .i64 b] w fun e w' => e = .returned (tokP (nameR s b)) ∧ Below w.heap.size w w') := fun w => readName_any s b (by omega) (by omega) w
  have HE : Hid (oneP s b = nameR s b) := by show oneP s b = _; unfold oneP; rw [if_pos h]
  rw [h] at HH
  clear HD HG hc h
  go_enter Tryz.func26, Tryz.ntmps26
  go_wp2_with fail
  refine (HH.out _).mono ?_
  rintro e w1 ⟨rfl, rfl⟩
  clear HH
  go_wp2_with fail
  refine (HN.out _).mono ?_
  rintro e w3 ⟨rfl, b3⟩
  have HX3 := (show Hid (BX w w3 tk0 0 0) from HX.out.below b3)
  clear b3 HX HN
  obtain ⟨f0, f1', f2', f3, f4, f5, f6, f7, f8, g0, g1⟩ := HX3.out.fz
  obtain ⟨c0, c1, c2, c3, c4, c5, c6, c7, c8, d0, d1⟩ := HX3.out.cells
  generalize nameR s b = r at *
  cases r with
  | inl t =>
    unfold tokP
    go_wp2_with fail
    have HP := HX3.out.put t 0 0
    exact ret_bx rfl rfl rfl rfl HP ⟨by rw [HE.out]; rfl, HP.b⟩
  | inr q =>
    unfold tokP
    go_wp2_with fail
    have HP := HX3.out.put tk0 q.1 q.2
    exact ret_bx rfl rfl rfl rfl HP ⟨by rw [HE.out]; rfl, HP.b⟩
set_option maxRecDepth 100000 in
set_option maxHeartbeats 8000000 in
theorem rt_num (s : ByteArray) (b : Nat) (hs : s.size ≤ 65536) (hb : b < s.size) (h : hdB (chr s b) = false) (h2 : dgB (chr s b) = true) (w : World) (hg : SG w) : Calls Tryz.prog 26 #[.string s, .int .i64 b] w fun e w' => e = .returned (tokP (oneP s b)) ∧ Below w.heap.size w w' := by
  have HX := (show Hid (BX w ((w.alloc (tkO tk0)).alloc (fxO 0 0)) tk0 0 0) from BX.new w)
  have HG := (show Hid (SG ((w.alloc (tkO tk0)).alloc (fxO 0 0))) from (hg.later (below_box _ _)).later (below_box _ _))
  have hc := chr_in hb
  have HH : Hid (∀ w, Calls Tryz.prog 46 #[.int .u8 (s[b].toNat : Int)] w fun e w' => e = .returned (.bool (hdB (chr s b))) ∧ w' = w) := fun w => by rw [hc]; exact pbegins_any _ w
  have HD : Hid (∀ w, Calls Tryz.prog 48 #[.int .u8 (s[b].toNat : Int)] w fun e w' => e = .returned (.bool (dgB (chr s b))) ∧ w' = w) := fun w => by rw [hc]; exact pdigit_any _ w
  have z0 : (0 : Int) ≤ (b : Int) := by omega
  have z1 : (b : Int) < (s.size : Int) := by omega
  clear hg
  have HN : Hid (∀ w, Calls Tryz.prog 49 #[.string s, .int .i64 b, .int .i64 b, .int .i64 4] w fun e w' => e = .returned (tokP (nmR s b b 4)) ∧ Below w.heap.size w w') := fun w => readNumber_any s b b 4 (by omega) (by omega) (by omega) w
  have HE : Hid (oneP s b = nmR s b b 4) := by show oneP s b = _; unfold oneP; rw [if_neg (by rw [h]; decide), if_pos h2]
  rw [h] at HH
  rw [h2] at HD
  clear HG hc h h2
  go_enter Tryz.func26, Tryz.ntmps26
  go_wp2_with fail
  refine (HH.out _).mono ?_
  rintro e w1 ⟨rfl, rfl⟩
  clear HH
  go_wp2_with fail
  refine (HD.out _).mono ?_
  rintro e w1 ⟨rfl, rfl⟩
  clear HD
  go_wp2_with fail
  refine (HN.out _).mono ?_
  rintro e w3 ⟨rfl, b3⟩
  have HX3 := (show Hid (BX w w3 tk0 0 0) from HX.out.below b3)
  clear b3 HX HN
  obtain ⟨f0, f1', f2', f3, f4, f5, f6, f7, f8, g0, g1⟩ := HX3.out.fz
  obtain ⟨c0, c1, c2, c3, c4, c5, c6, c7, c8, d0, d1⟩ := HX3.out.cells
  generalize nmR s b b 4 = r at *
  cases r with
  | inl t =>
    unfold tokP
    go_wp2_with fail
    have HP := HX3.out.put t 0 0
    exact ret_bx rfl rfl rfl rfl HP ⟨by rw [HE.out]; rfl, HP.b⟩
  | inr q =>
    unfold tokP
    go_wp2_with fail
    have HP := HX3.out.put tk0 q.1 q.2
    exact ret_bx rfl rfl rfl rfl HP ⟨by rw [HE.out]; rfl, HP.b⟩
set_option maxRecDepth 100000 in
set_option maxHeartbeats 8000000 in
theorem rt_lit1 (s : ByteArray) (b : Nat) (hs : s.size ≤ 65536) (hb : b < s.size) (h : hdB (chr s b) = false) (h2 : dgB (chr s b) = false) (h3 : chr s b = 39) (w : World) (hg : SG w) : Calls Tryz.prog 26 #[.string s, .int .i64 b] w fun e w' => e = .returned (tokP (oneP s b)) ∧ Below w.heap.size w w' := by
  have HX := (show Hid (BX w ((w.alloc (tkO tk0)).alloc (fxO 0 0)) tk0 0 0) from BX.new w)
  have HG := (show Hid (SG ((w.alloc (tkO tk0)).alloc (fxO 0 0))) from (hg.later (below_box _ _)).later (below_box _ _))
  have hc := chr_in hb
  have HH : Hid (∀ w, Calls Tryz.prog 46 #[.int .u8 (s[b].toNat : Int)] w fun e w' => e = .returned (.bool (hdB (chr s b))) ∧ w' = w) := fun w => by rw [hc]; exact pbegins_any _ w
  have HD : Hid (∀ w, Calls Tryz.prog 48 #[.int .u8 (s[b].toNat : Int)] w fun e w' => e = .returned (.bool (dgB (chr s b))) ∧ w' = w) := fun w => by rw [hc]; exact pdigit_any _ w
  have z0 : (0 : Int) ≤ (b : Int) := by omega
  have z1 : (b : Int) < (s.size : Int) := by omega
  clear hg
  have HN : Hid (∀ w, Calls Tryz.prog 50 #[.string s, .int .i64 b] w fun e w' => e = .returned (tokP (litR s b)) ∧ Below w.heap.size w w') := fun w => readLiteral_any s b hs (by omega) (.inl h3) w
  have HE : Hid (oneP s b = litR s b) := by show oneP s b = _; unfold oneP; rw [if_neg (by rw [h]; decide), if_neg (by rw [h2]; decide), if_pos (.inl h3)]
  rw [h] at HH
  rw [h2] at HD
  have v1 : ((s[b].toNat : Int) == 39) = true := by rw [← hc, h3]; rfl
  clear h3
  clear hc h h2 HG
  go_enter Tryz.func26, Tryz.ntmps26
  go_wp2_with fail
  refine (HH.out _).mono ?_
  rintro e w1 ⟨rfl, rfl⟩
  clear HH
  go_wp2_with fail
  refine (HD.out _).mono ?_
  rintro e w1 ⟨rfl, rfl⟩
  clear HD
  go_wp2_with fail
  refine (HN.out _).mono ?_
  rintro e w3 ⟨rfl, b3⟩
  have HX3 := (show Hid (BX w w3 tk0 0 0) from HX.out.below b3)
  clear b3 HX HN
  obtain ⟨f0, f1', f2', f3, f4, f5, f6, f7, f8, g0, g1⟩ := HX3.out.fz
  obtain ⟨c0, c1, c2, c3, c4, c5, c6, c7, c8, d0, d1⟩ := HX3.out.cells
  generalize litR s b = r at *
  cases r with
  | inl t =>
    unfold tokP
    go_wp2_with fail
    have HP := HX3.out.put t 0 0
    exact ret_bx rfl rfl rfl rfl HP ⟨by rw [HE.out]; rfl, HP.b⟩
  | inr q =>
    unfold tokP
    go_wp2_with fail
    have HP := HX3.out.put tk0 q.1 q.2
    exact ret_bx rfl rfl rfl rfl HP ⟨by rw [HE.out]; rfl, HP.b⟩
set_option maxRecDepth 100000 in
set_option maxHeartbeats 8000000 in
theorem rt_lit2 (s : ByteArray) (b : Nat) (hs : s.size ≤ 65536) (hb : b < s.size) (h : hdB (chr s b) = false) (h2 : dgB (chr s b) = false) (h3 : chr s b = 34) (w : World) (hg : SG w) : Calls Tryz.prog 26 #[.string s, .int .i64 b] w fun e w' => e = .returned (tokP (oneP s b)) ∧ Below w.heap.size w w' := by
  have HX := (show Hid (BX w ((w.alloc (tkO tk0)).alloc (fxO 0 0)) tk0 0 0) from BX.new w)
  have HG := (show Hid (SG ((w.alloc (tkO tk0)).alloc (fxO 0 0))) from (hg.later (below_box _ _)).later (below_box _ _))
  have hc := chr_in hb
  have HH : Hid (∀ w, Calls Tryz.prog 46 #[.int .u8 (s[b].toNat : Int)] w fun e w' => e = .returned (.bool (hdB (chr s b))) ∧ w' = w) := fun w => by rw [hc]; exact pbegins_any _ w
  have HD : Hid (∀ w, Calls Tryz.prog 48 #[.int .u8 (s[b].toNat : Int)] w fun e w' => e = .returned (.bool (dgB (chr s b))) ∧ w' = w) := fun w => by rw [hc]; exact pdigit_any _ w
  have z0 : (0 : Int) ≤ (b : Int) := by omega
  have z1 : (b : Int) < (s.size : Int) := by omega
  clear hg
  have HN : Hid (∀ w, Calls Tryz.prog 50 #[.string s, .int .i64 b] w fun e w' => e = .returned (tokP (litR s b)) ∧ Below w.heap.size w w') := fun w => readLiteral_any s b hs (by omega) (.inr h3) w
  have HE : Hid (oneP s b = litR s b) := by show oneP s b = _; unfold oneP; rw [if_neg (by rw [h]; decide), if_neg (by rw [h2]; decide), if_pos (.inr h3)]
  rw [h] at HH
  rw [h2] at HD
  have v1 : ((s[b].toNat : Int) == 39) = false := by rw [← hc, h3]; rfl
  have v2 : ((s[b].toNat : Int) == 34) = true := by rw [← hc, h3]; rfl
  clear h3
  clear hc h h2 HG
  go_enter Tryz.func26, Tryz.ntmps26
  go_wp2_with fail
  refine (HH.out _).mono ?_
  rintro e w1 ⟨rfl, rfl⟩
  clear HH
  go_wp2_with fail
  refine (HD.out _).mono ?_
  rintro e w1 ⟨rfl, rfl⟩
  clear HD
  go_wp2_with fail
  refine (HN.out _).mono ?_
  rintro e w3 ⟨rfl, b3⟩
  have HX3 := (show Hid (BX w w3 tk0 0 0) from HX.out.below b3)
  clear b3 HX HN
  obtain ⟨f0, f1', f2', f3, f4, f5, f6, f7, f8, g0, g1⟩ := HX3.out.fz
  obtain ⟨c0, c1, c2, c3, c4, c5, c6, c7, c8, d0, d1⟩ := HX3.out.cells
  generalize litR s b = r at *
  cases r with
  | inl t =>
    unfold tokP
    go_wp2_with fail
    have HP := HX3.out.put t 0 0
    exact ret_bx rfl rfl rfl rfl HP ⟨by rw [HE.out]; rfl, HP.b⟩
  | inr q =>
    unfold tokP
    go_wp2_with fail
    have HP := HX3.out.put tk0 q.1 q.2
    exact ret_bx rfl rfl rfl rfl HP ⟨by rw [HE.out]; rfl, HP.b⟩
set_option maxRecDepth 100000 in
set_option maxHeartbeats 8000000 in
theorem rt_cls (s : ByteArray) (b : Nat) (hs : s.size ≤ 65536) (hb : b < s.size) (h : hdB (chr s b) = false) (h2 : dgB (chr s b) = false) (h3 : chr s b = 91) (w : World) (hg : SG w) : Calls Tryz.prog 26 #[.string s, .int .i64 b] w fun e w' => e = .returned (tokP (oneP s b)) ∧ Below w.heap.size w w' := by
  have HX := (show Hid (BX w ((w.alloc (tkO tk0)).alloc (fxO 0 0)) tk0 0 0) from BX.new w)
  have HG := (show Hid (SG ((w.alloc (tkO tk0)).alloc (fxO 0 0))) from (hg.later (below_box _ _)).later (below_box _ _))
  have hc := chr_in hb
  have HH : Hid (∀ w, Calls Tryz.prog 46 #[.int .u8 (s[b].toNat : Int)] w fun e w' => e = .returned (.bool (hdB (chr s b))) ∧ w' = w) := fun w => by rw [hc]; exact pbegins_any _ w
  have HD : Hid (∀ w, Calls Tryz.prog 48 #[.int .u8 (s[b].toNat : Int)] w fun e w' => e = .returned (.bool (dgB (chr s b))) ∧ w' = w) := fun w => by rw [hc]; exact pdigit_any _ w
  have z0 : (0 : Int) ≤ (b : Int) := by omega
  have z1 : (b : Int) < (s.size : Int) := by omega
  clear hg
  have HN : Hid (∀ w, Calls Tryz.prog 51 #[.string s, .int .i64 b] w fun e w' => e = .returned (tokP (clT s b (rdRead s b))) ∧ Below w.heap.size w w') := fun w => readCls_any s b (by omega) w
  have HE : Hid (oneP s b = clT s b (rdRead s b)) := by show oneP s b = _; unfold oneP; rw [if_neg (by rw [h]; decide), if_neg (by rw [h2]; decide), if_neg (by omega), if_pos h3]
  rw [h] at HH
  rw [h2] at HD
  have v1 : ((s[b].toNat : Int) == 39) = false := by rw [← hc, beq_eq_false_iff_ne]; omega
  have v2 : ((s[b].toNat : Int) == 34) = false := by rw [← hc, beq_eq_false_iff_ne]; omega
  have v3 : ((s[b].toNat : Int) == 91) = true := by rw [← hc, h3]; rfl
  clear h3
  clear hc h h2 HG
  go_enter Tryz.func26, Tryz.ntmps26
  go_wp2_with fail
  refine (HH.out _).mono ?_
  rintro e w1 ⟨rfl, rfl⟩
  clear HH
  go_wp2_with fail
  refine (HD.out _).mono ?_
  rintro e w1 ⟨rfl, rfl⟩
  clear HD
  go_wp2_with fail
  refine (HN.out _).mono ?_
  rintro e w3 ⟨rfl, b3⟩
  have HX3 := (show Hid (BX w w3 tk0 0 0) from HX.out.below b3)
  clear b3 HX HN
  obtain ⟨f0, f1', f2', f3, f4, f5, f6, f7, f8, g0, g1⟩ := HX3.out.fz
  obtain ⟨c0, c1, c2, c3, c4, c5, c6, c7, c8, d0, d1⟩ := HX3.out.cells
  generalize clT s b (rdRead s b) = r at *
  cases r with
  | inl t =>
    unfold tokP
    go_wp2_with fail
    have HP := HX3.out.put t 0 0
    exact ret_bx rfl rfl rfl rfl HP ⟨by rw [HE.out]; rfl, HP.b⟩
  | inr q =>
    unfold tokP
    go_wp2_with fail
    have HP := HX3.out.put tk0 q.1 q.2
    exact ret_bx rfl rfl rfl rfl HP ⟨by rw [HE.out]; rfl, HP.b⟩
set_option maxRecDepth 100000 in
set_option maxHeartbeats 8000000 in
theorem rt_pct (s : ByteArray) (b : Nat) (hs : s.size ≤ 65536) (hb : b < s.size) (h : hdB (chr s b) = false) (h2 : dgB (chr s b) = false) (h3 : chr s b = 37) (w : World) (hg : SG w) : Calls Tryz.prog 26 #[.string s, .int .i64 b] w fun e w' => e = .returned (tokP (oneP s b)) ∧ Below w.heap.size w w' := by
  have HX := (show Hid (BX w ((w.alloc (tkO tk0)).alloc (fxO 0 0)) tk0 0 0) from BX.new w)
  have HG := (show Hid (SG ((w.alloc (tkO tk0)).alloc (fxO 0 0))) from (hg.later (below_box _ _)).later (below_box _ _))
  have hc := chr_in hb
  have HH : Hid (∀ w, Calls Tryz.prog 46 #[.int .u8 (s[b].toNat : Int)] w fun e w' => e = .returned (.bool (hdB (chr s b))) ∧ w' = w) := fun w => by rw [hc]; exact pbegins_any _ w
  have HD : Hid (∀ w, Calls Tryz.prog 48 #[.int .u8 (s[b].toNat : Int)] w fun e w' => e = .returned (.bool (dgB (chr s b))) ∧ w' = w) := fun w => by rw [hc]; exact pdigit_any _ w
  have z0 : (0 : Int) ≤ (b : Int) := by omega
  have z1 : (b : Int) < (s.size : Int) := by omega
  clear hg
  have HN : Hid (∀ w, SG w → Calls Tryz.prog 52 #[.string s, .int .i64 b] w fun e w' => e = .returned (tokP (pctP s b)) ∧ Below w.heap.size w w') := fun w g => readPercent_any s b (by omega) (by omega) w g
  have HE : Hid (oneP s b = pctP s b) := by show oneP s b = _; unfold oneP; rw [if_neg (by rw [h]; decide), if_neg (by rw [h2]; decide), if_neg (by omega), if_neg (by omega), if_pos h3]
  rw [h] at HH
  rw [h2] at HD
  have v1 : ((s[b].toNat : Int) == 39) = false := by rw [← hc, beq_eq_false_iff_ne]; omega
  have v2 : ((s[b].toNat : Int) == 34) = false := by rw [← hc, beq_eq_false_iff_ne]; omega
  have v3 : ((s[b].toNat : Int) == 91) = false := by rw [← hc, h3]; rfl
  have v4 : ((s[b].toNat : Int) == 37) = true := by rw [← hc, h3]; rfl
  clear h3
  clear hc h h2 
  go_enter Tryz.func26, Tryz.ntmps26
  go_wp2_with fail
  refine (HH.out _).mono ?_
  rintro e w1 ⟨rfl, rfl⟩
  clear HH
  go_wp2_with fail
  refine (HD.out _).mono ?_
  rintro e w1 ⟨rfl, rfl⟩
  clear HD
  go_wp2_with fail
  refine (HN.out _ HG.out).mono ?_
  rintro e w3 ⟨rfl, b3⟩
  have HX3 := (show Hid (BX w w3 tk0 0 0) from HX.out.below b3)
  clear b3 HX HN HG
  obtain ⟨f0, f1', f2', f3, f4, f5, f6, f7, f8, g0, g1⟩ := HX3.out.fz
  obtain ⟨c0, c1, c2, c3, c4, c5, c6, c7, c8, d0, d1⟩ := HX3.out.cells
  generalize pctP s b = r at *
  cases r with
  | inl t =>
    unfold tokP
    go_wp2_with fail
    have HP := HX3.out.put t 0 0
    exact ret_bx rfl rfl rfl rfl HP ⟨by rw [HE.out]; rfl, HP.b⟩
  | inr q =>
    unfold tokP
    go_wp2_with fail
    have HP := HX3.out.put tk0 q.1 q.2
    exact ret_bx rfl rfl rfl rfl HP ⟨by rw [HE.out]; rfl, HP.b⟩
set_option maxRecDepth 100000 in
set_option maxHeartbeats 8000000 in
theorem rt_sgn (s : ByteArray) (b : Nat) (hs : s.size ≤ 65536) (hb : b < s.size) (h : hdB (chr s b) = false) (h2 : dgB (chr s b) = false) (h3 : ¬ chr s b = 39) (h4 : ¬ chr s b = 34) (h5 : ¬ chr s b = 91) (h6 : ¬ chr s b = 37) (w : World) (hg : SG w) : Calls Tryz.prog 26 #[.string s, .int .i64 b] w fun e w' => e = .returned (tokP (oneP s b)) ∧ Below w.heap.size w w' := by
  have HX := (show Hid (BX w ((w.alloc (tkO tk0)).alloc (fxO 0 0)) tk0 0 0) from BX.new w)
  have HG := (show Hid (SG ((w.alloc (tkO tk0)).alloc (fxO 0 0))) from (hg.later (below_box _ _)).later (below_box _ _))
  have hc := chr_in hb
  have HH : Hid (∀ w, Calls Tryz.prog 46 #[.int .u8 (s[b].toNat : Int)] w fun e w' => e = .returned (.bool (hdB (chr s b))) ∧ w' = w) := fun w => by rw [hc]; exact pbegins_any _ w
  have HD : Hid (∀ w, Calls Tryz.prog 48 #[.int .u8 (s[b].toNat : Int)] w fun e w' => e = .returned (.bool (dgB (chr s b))) ∧ w' = w) := fun w => by rw [hc]; exact pdigit_any _ w
  have z0 : (0 : Int) ≤ (b : Int) := by omega
  have z1 : (b : Int) < (s.size : Int) := by omega
  clear hg
  have HN : Hid (∀ w, SG w → Calls Tryz.prog 53 #[.string s, .int .i64 b] w fun e w' => e = .returned (tokP (sigP s b)) ∧ Below w.heap.size w w') := fun w g => readSign_any s b (by omega) (by omega) w g
  have HE : Hid (oneP s b = sigP s b) := by show oneP s b = _; unfold oneP; rw [if_neg (by rw [h]; decide), if_neg (by rw [h2]; decide), if_neg (by omega), if_neg h5, if_neg h6]
  rw [h] at HH
  rw [h2] at HD
  have v1 : ((s[b].toNat : Int) == 39) = false := by rw [← hc, beq_eq_false_iff_ne]; omega
  have v2 : ((s[b].toNat : Int) == 34) = false := by rw [← hc, beq_eq_false_iff_ne]; omega
  have v3 : ((s[b].toNat : Int) == 91) = false := by rw [← hc, beq_eq_false_iff_ne]; exact h5
  have v4 : ((s[b].toNat : Int) == 37) = false := by rw [← hc, beq_eq_false_iff_ne]; exact h6
  clear h3 h4 h5 h6
  clear hc h h2 
  go_enter Tryz.func26, Tryz.ntmps26
  go_wp2_with fail
  refine (HH.out _).mono ?_
  rintro e w1 ⟨rfl, rfl⟩
  clear HH
  go_wp2_with fail
  refine (HD.out _).mono ?_
  rintro e w1 ⟨rfl, rfl⟩
  clear HD
  go_wp2_with fail
  refine (HN.out _ HG.out).mono ?_
  rintro e w3 ⟨rfl, b3⟩
  have HX3 := (show Hid (BX w w3 tk0 0 0) from HX.out.below b3)
  clear b3 HX HN HG
  obtain ⟨f0, f1', f2', f3, f4, f5, f6, f7, f8, g0, g1⟩ := HX3.out.fz
  obtain ⟨c0, c1, c2, c3, c4, c5, c6, c7, c8, d0, d1⟩ := HX3.out.cells
  generalize sigP s b = r at *
  cases r with
  | inl t =>
    unfold tokP
    go_wp2_with fail
    have HP := HX3.out.put t 0 0
    exact ret_bx rfl rfl rfl rfl HP ⟨by rw [HE.out]; rfl, HP.b⟩
  | inr q =>
    unfold tokP
    go_wp2_with fail
    have HP := HX3.out.put tk0 q.1 q.2
    exact ret_bx rfl rfl rfl rfl HP ⟨by rw [HE.out]; rfl, HP.b⟩
theorem readToken_any (s : ByteArray) (b : Nat) (hs : s.size ≤ 65536) (hb : b < s.size) (w : World) (hg : SG w) : Calls Tryz.prog 26 #[.string s, .int .i64 b] w fun e w' => e = .returned (tokP (oneP s b)) ∧ Below w.heap.size w w' := by
  cases h : hdB (chr s b) with
  | true => exact rt_name s b hs hb h w hg
  | false =>
    cases h2 : dgB (chr s b) with
    | true => exact rt_num s b hs hb h h2 w hg
    | false =>
      by_cases h3 : chr s b = 39
      · exact rt_lit1 s b hs hb h h2 h3 w hg
      by_cases h4 : chr s b = 34
      · exact rt_lit2 s b hs hb h h2 h4 w hg
      by_cases h5 : chr s b = 91
      · exact rt_cls s b hs hb h h2 h5 w hg
      by_cases h6 : chr s b = 37
      · exact rt_pct s b hs hb h h2 h6 w hg
      · exact rt_sgn s b hs hb h h2 h3 h4 h5 h6 w hg
end Go.Proofs.YthffklhojdldkaaGreatDoor

namespace Go.Proofs.YthffklhojdldkaaGreatDoor
open Go.RowKit
theorem gpGo_fuel (s : ByteArray) : ∀ (f g i : Nat), s.size - i < f → s.size - i < g → gpGo s f i = gpGo s g i := by
  intro f
  induction f with
  | zero => intro g i h; omega
  | succ f ih =>
    intro g i h1 h2
    obtain ⟨g, rfl⟩ : ∃ k, g = k + 1 := ⟨g - 1, by omega⟩
    rw [gpGo, gpGo]
    by_cases hi : i < s.size
    · rw [if_pos hi, if_pos hi]
      by_cases hc : chr s i = 45 ∧ chr s (i + 1) = 45
      · rw [if_pos hc, if_pos hc]
        have h3 := (spN_next (P := lnB) (s := s) (i := i) (by decide) (by rw [hc.1]; rfl)).2
        have h4 := spN_ge lnB s (by decide) (i + 1)
        exact ih g _ (by omega) (by omega)
      · rw [if_neg hc, if_neg hc]
        by_cases hb : chr s i = 9 ∨ chr s i = 10 ∨ chr s i = 13 ∨ chr s i = 32
        · rw [if_pos hb, if_pos hb]
          exact ih g _ (by omega) (by omega)
        · rw [if_neg hb, if_neg hb]
    · rw [if_neg hi, if_neg hi]
theorem gapN_unf (s : ByteArray) (i : Nat) : gapN s i = if i < s.size then (if chr s i = 45 ∧ chr s (i + 1) = 45 then gapN s (spN lnB s i) else if chr s i = 9 ∨ chr s i = 10 ∨ chr s i = 13 ∨ chr s i = 32 then gapN s (i + 1) else i) else i := by
  show gpGo s (s.size + 1) i = _
  rw [gpGo]
  by_cases hi : i < s.size
  · rw [if_pos hi, if_pos hi]
    by_cases hc : chr s i = 45 ∧ chr s (i + 1) = 45
    · rw [if_pos hc, if_pos hc]
      have h3 := (spN_next (P := lnB) (s := s) (i := i) (by decide) (by rw [hc.1]; rfl)).2
      have h4 := spN_ge lnB s (by decide) (i + 1)
      exact gpGo_fuel s _ _ _ (by omega) (by omega)
    · rw [if_neg hc, if_neg hc]
      by_cases hb : chr s i = 9 ∨ chr s i = 10 ∨ chr s i = 13 ∨ chr s i = 32
      · rw [if_pos hb, if_pos hb]
        exact gpGo_fuel s _ _ _ (by omega) (by omega)
      · rw [if_neg hb, if_neg hb]
  · rw [if_neg hi, if_neg hi]
theorem blB_iff {c : Int} : blB c = true ↔ (c = 9 ∨ c = 10 ∨ c = 13 ∨ c = 32) := by
  unfold blB
  simp [Bool.or_eq_true, or_assoc]
theorem gapN_blanks (s : ByteArray) : ∀ (d i : Nat), s.size - i = d → gapN s (spN blB s i) = gapN s i := by
  intro d
  induction d with
  | zero =>
    intro i hi
    rw [spN_stop (by rw [chr_out (by omega)]; rfl)]
  | succ d ih =>
    intro i hi
    cases h : blB (chr s i) with
    | false => rw [spN_stop h]
    | true =>
      obtain ⟨h1, h2⟩ := spN_next (by decide) h
      have h3 := blB_iff.1 h
      rw [h2, ih (i + 1) (by omega), gapN_unf s i, if_pos h1, if_neg (by omega), if_pos h3]
/-- Behind the blanks: the end, a comment, or the place. -/
theorem gapN_end {s : ByteArray} {i : Nat} (h : spN blB s i = s.size) : gapN s i = s.size := by
  rw [← gapN_blanks s _ i rfl, h, gapN_unf, if_neg (by omega)]
theorem gapN_note {s : ByteArray} {i : Nat} (h : chr s (spN blB s i) = 45) (h2 : chr s (spN blB s i + 1) = 45) : gapN s i = gapN s (spN lnB s (spN blB s i)) ∧ spN blB s i < spN lnB s (spN blB s i) := by
  have h3 := spN_next (P := lnB) (s := s) (i := spN blB s i) (by decide) (by rw [h]; rfl)
  have h4 := spN_ge lnB s (by decide) (spN blB s i + 1)
  refine ⟨?_, by omega⟩
  rw [← gapN_blanks s _ i rfl, gapN_unf, if_pos h3.1, if_pos ⟨h, h2⟩]
theorem gapN_here {s : ByteArray} {i : Nat} (h : spN blB s i < s.size) (h2 : ¬ (chr s (spN blB s i) = 45 ∧ chr s (spN blB s i + 1) = 45)) : gapN s i = spN blB s i := by
  have hb : blB (chr s (spN blB s i)) = false := (spN_spec blB s (by decide) _ i rfl).2.2.1
  have h3 : ¬ (chr s (spN blB s i) = 9 ∨ chr s (spN blB s i) = 10 ∨ chr s (spN blB s i) = 13 ∨ chr s (spN blB s i) = 32) := fun q => by rw [blB_iff.2 q] at hb; cases hb
  rw [← gapN_blanks s _ i rfl, gapN_unf, if_pos h, if_neg h2, if_neg h3]
end Go.Proofs.YthffklhojdldkaaGreatDoor
