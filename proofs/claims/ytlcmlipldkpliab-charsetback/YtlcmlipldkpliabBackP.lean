/- Plain: what is shown is read as it was. -/
import Derived.Test.YtlcmlipldkpliabRdE
import Derived.Test.YtlcmlipldkpliabShow
namespace Go.Proofs.Ytlcmlipldkpliab
open Go.RowKit

/-- A list of bytes as a text. -/
abbrev tx (l : List UInt8) : ByteArray := ⟨l.toArray⟩
/-- The byte at a place of a list, or -1. -/
def chL (l : List UInt8) (i : Nat) : Int := match l[i]? with
  | some c => (c.toNat : Int)
  | none => -1
theorem tx_size (l : List UInt8) : (tx l).size = l.length := rfl
theorem chr_tx (l : List UInt8) (i : Nat) : chr (tx l) i = chL l i := by
  unfold chr chL
  by_cases h : i < l.length
  · rw [dif_pos (show i < (tx l).size from h), List.getElem?_eq_getElem h]
    rfl
  · rw [dif_neg (show ¬ i < (tx l).size from h), List.getElem?_eq_none (by omega)]
theorem chL_app (p r : List UInt8) (j : Nat) : chL (p ++ r) (p.length + j) = chL r j := by
  unfold chL
  rw [List.getElem?_append_right (by omega), Nat.add_sub_cancel_left]
theorem at0 (p r : List UInt8) : chr (tx (p ++ r)) p.length = chL r 0 := by rw [chr_tx]; exact chL_app p r 0
theorem atj (p r : List UInt8) (j : Nat) : chr (tx (p ++ r)) (p.length + j) = chL r j := by rw [chr_tx]; exact chL_app p r j
theorem of8 {b : Nat} (h : b < 256) : (UInt8.ofNat b).toNat = b := by rw [UInt8.toNat_ofNat']; omega
theorem hexV_hexD : ∀ n : Fin 16, hexV ((hexD n.val).toNat : Int) = (n.val : Int) := by decide
theorem sign_cases {b : Nat} (h : signB b = true) : b = 92 ∨ b = 93 ∨ b = 91 ∨ b = 94 ∨ b = 45 ∨ b = 37 := by
  simp [signB] at h; omega
theorem sign_not {b : Nat} (h : ¬ signB b = true) : b ≠ 92 ∧ b ≠ 93 ∧ b ≠ 91 ∧ b ≠ 94 ∧ b ≠ 45 ∧ b ≠ 37 := by
  simp [signB] at h; omega

theorem rdItem_esc (p r : List UInt8) : rdItem (tx (p ++ (92 :: r))) p.length = rdEsc (tx (p ++ (92 :: r))) p.length := by
  unfold rdItem
  rw [at0]
  exact if_pos rfl
theorem rdEsc_at (p r : List UInt8) (c : UInt8) : chr (tx (p ++ (92 :: c :: r))) (p.length + 1) = (c.toNat : Int) := by rw [atj]; rfl
theorem rdItem_itm (p q : List UInt8) (b : Nat) (hb : b < 256) : rdItem (tx (p ++ (itm b ++ q))) p.length = some (b, p.length + (itm b).length) := by
  unfold itm
  split
  · subst b; rw [List.cons_append, rdItem_esc]; unfold rdEsc; rw [List.cons_append, rdEsc_at]; exact if_pos rfl
  split
  · subst b; rw [List.cons_append, rdItem_esc]; unfold rdEsc; rw [List.cons_append, rdEsc_at]; rfl
  split
  · subst b; rw [List.cons_append, rdItem_esc]; unfold rdEsc; rw [List.cons_append, rdEsc_at]; rfl
  split
  · rename_i hs
    rw [List.cons_append, rdItem_esc]; unfold rdEsc; rw [List.cons_append, rdEsc_at]
    rcases sign_cases hs with rfl | rfl | rfl | rfl | rfl | rfl <;> rfl
  split
  · rename_i hs hp
    obtain ⟨s1, s2, s3, s4, s5, s6⟩ := sign_not hs
    have e : chL ([UInt8.ofNat b] ++ q) 0 = (b : Int) := by show ((UInt8.ofNat b).toNat : Int) = b; rw [of8 hb]
    unfold rdItem; rw [at0, e, if_neg (by omega), if_neg (by rw [hp]; simp; omega)]; rfl
  · have e2 : chL ([92, 120, hexD (b / 16), hexD (b % 16)] ++ q) 2 = ((hexD (b / 16)).toNat : Int) := rfl
    have e3 : chL ([92, 120, hexD (b / 16), hexD (b % 16)] ++ q) 3 = ((hexD (b % 16)).toNat : Int) := rfl
    have h2 := hexV_hexD ⟨b / 16, by omega⟩
    have h3 := hexV_hexD ⟨b % 16, by omega⟩
    simp only at h2 h3
    have k : rdHex (tx (p ++ ([92, 120, hexD (b / 16), hexD (b % 16)] ++ q))) p.length = some (b, p.length + 4) := by
      unfold rdHex
      rw [atj, atj, e2, e3, h2, h3, if_pos (by omega)]
      congr 2
      omega
    rw [List.cons_append, rdItem_esc]
    unfold rdEsc
    rw [List.cons_append, rdEsc_at]
    exact k
theorem head_itm (b : Nat) (hb : b < 256) (q : List UInt8) : chL (itm b ++ q) 0 ≠ 45 ∧ chL (itm b ++ q) 0 ≠ 37 ∧ chL (itm b ++ q) 0 ≠ 93 ∧ chL (itm b ++ q) 0 ≠ 94 := by
  have h92 : ∀ r : List UInt8, chL (92 :: r) 0 = 92 := fun _ => rfl
  unfold itm
  split
  · rw [List.cons_append, h92]; decide
  split
  · rw [List.cons_append, h92]; decide
  split
  · rw [List.cons_append, h92]; decide
  split
  · rw [List.cons_append, h92]; decide
  split
  · rename_i hs hp
    obtain ⟨s1, s2, s3, s4, s5, s6⟩ := sign_not hs
    have e : chL ([UInt8.ofNat b] ++ q) 0 = (b : Int) := by show ((UInt8.ofNat b).toNat : Int) = b; rw [of8 hb]
    rw [e]; omega
  · rw [List.cons_append, h92]; decide
theorem itm_pos (b : Nat) : 1 ≤ (itm b).length := by
  unfold itm
  repeat' split
  all_goals simp

theorem mem_one (p q : List UInt8) (b : Nat) (hb : b < 256) (hq : chL q 0 ≠ 45) : rdMember (tx (p ++ (itm b ++ q))) p.length = .inl (spn b b, p.length + (itm b).length) := by
  unfold rdMember
  rw [at0, if_neg (head_itm b hb q).2.1, rdItem_itm p q b hb]
  have e : chr (tx (p ++ (itm b ++ q))) (p.length + (itm b).length) = chL q 0 := by
    rw [← List.append_assoc, ← List.length_append]; exact at0 _ q
  exact if_neg (by rw [e]; exact hq)
theorem mem_span (p q : List UInt8) (lo hi : Nat) (hlo : lo < 256) (hhi : hi < 256) (hle : lo ≤ hi) : rdMember (tx (p ++ (itm lo ++ (45 :: (itm hi ++ q))))) p.length = .inl (spn lo hi, p.length + (itm lo).length + 1 + (itm hi).length) := by
  unfold rdMember
  rw [at0, if_neg (head_itm lo hlo _).2.1, rdItem_itm p _ lo hlo]
  have e : chr (tx (p ++ (itm lo ++ (45 :: (itm hi ++ q))))) (p.length + (itm lo).length) = 45 := by
    rw [← List.append_assoc, ← List.length_append, at0]; rfl
  have e2 : rdItem (tx (p ++ (itm lo ++ (45 :: (itm hi ++ q))))) (p.length + (itm lo).length + 1) = some (hi, p.length + (itm lo).length + 1 + (itm hi).length) := by
    have h := rdItem_itm (p ++ itm lo ++ [45]) q hi hhi
    rw [show p ++ itm lo ++ [45] ++ (itm hi ++ q) = p ++ (itm lo ++ (45 :: (itm hi ++ q))) from by simp] at h
    have hlen : (p ++ itm lo ++ [(45 : UInt8)]).length = p.length + (itm lo).length + 1 := by simp; omega
    rw [hlen] at h
    exact h
  refine (if_pos e).trans ?_
  rw [e2]
  exact if_neg (by omega)

/-- The union of spans. -/
def unL (l : List (Int × Int)) (s : BitVec 256) : BitVec 256 := l.foldl (fun s p => s ||| spn p.1 p.2) s
theorem unL_cons (p : Int × Int) (l : List (Int × Int)) (s : BitVec 256) : unL (p :: l) s = unL l (s ||| spn p.1 p.2) := rfl
theorem mems_cons' (p : Int × Int) (l : List (Int × Int)) : mems (p :: l) = spT p.1.toNat p.2.toNat ++ mems l := by unfold mems; rfl
theorem head_mems (l : List (Int × Int)) (hl : ∀ p ∈ l, 0 ≤ p.1 ∧ p.1 ≤ p.2 ∧ p.2 < 256) : chL (mems l ++ [93]) 0 ≠ 45 ∧ chL (mems l ++ [93]) 0 ≠ 94 := by
  cases l with
  | nil => decide
  | cons p l =>
    have h := hl p (by simp)
    rw [mems_cons']
    unfold spT
    split
    · rw [List.append_assoc]; have := head_itm p.1.toNat (by omega) (mems l ++ [93]); exact ⟨this.1, this.2.2.2⟩
    split
    · rw [List.append_assoc, List.append_assoc]; have := head_itm p.1.toNat (by omega) (itm p.2.toNat ++ (mems l ++ [93])); exact ⟨this.1, this.2.2.2⟩
    · rw [List.append_assoc, List.append_assoc, List.append_assoc]; have := head_itm p.1.toNat (by omega) ([45] ++ (itm p.2.toNat ++ (mems l ++ [93]))); exact ⟨this.1, this.2.2.2⟩
theorem spn_two (lo : Nat) (h : lo + 1 < 256) (s : BitVec 256) : s ||| spn lo lo ||| spn ((lo + 1 : Nat) : Int) ((lo + 1 : Nat) : Int) = s ||| spn lo ((lo + 1 : Nat) : Int) := by
  apply BitVec.eq_of_getLsbD_eq
  intro i _
  simp only [BitVec.getLsbD_or]
  rw [spn_get _ _ (by omega), spn_get _ _ (by omega), spn_get _ _ (by omega), Bool.or_assoc]
  congr 1
  rw [Bool.eq_iff_iff]
  simp
  omega

theorem rdMembers_mems : ∀ (l : List (Int × Int)), (∀ p ∈ l, 0 ≤ p.1 ∧ p.1 ≤ p.2 ∧ p.2 < 256) → ∀ (p : List UInt8) (s : BitVec 256) (f : Nat), (mems l).length + 1 ≤ f →
    rdMembers (tx (p ++ (mems l ++ [93]))) f s p.length = .inl (unL l s, p.length + (mems l).length) := by
  intro l
  induction l with
  | nil =>
    intro _ p s f hf
    obtain ⟨g, rfl⟩ : ∃ g, f = g + 1 := ⟨f - 1, by simp [mems] at hf; omega⟩
    rw [rdMembers_end (by rw [at0]; rfl)]
    rfl
  | cons a l ih =>
    intro hl p s f hf
    have h := hl a (by simp)
    have hl' : ∀ q ∈ l, 0 ≤ q.1 ∧ q.1 ≤ q.2 ∧ q.2 < 256 := fun q hq => hl q (List.mem_cons_of_mem _ hq)
    have hm := head_mems l hl'
    obtain ⟨g, rfl⟩ : ∃ g, f = g + 1 := ⟨f - 1, by omega⟩
    obtain ⟨lo, hlo⟩ : ∃ lo : Nat, a.1 = lo := ⟨a.1.toNat, by omega⟩
    obtain ⟨hi, hhi⟩ : ∃ hi : Nat, a.2 = hi := ⟨a.2.toNat, by omega⟩
    have i1 := itm_pos lo
    have i2 := itm_pos hi
    rw [mems_cons', unL_cons, hlo, hhi, Int.toNat_natCast, Int.toNat_natCast]
    rw [mems_cons', hlo, hhi, Int.toNat_natCast, Int.toNat_natCast] at hf
    unfold spT at hf ⊢
    split
    · rename_i h0
      obtain rfl : hi = lo := by omega
      rw [if_pos h0, List.length_append] at hf
      rw [List.append_assoc, rdMembers_step (by rw [at0]; exact (head_itm hi (by omega) _).2.2.1) (mem_one p _ hi (by omega) hm.1)]
      have := ih hl' (p ++ itm hi) (s ||| spn hi hi) g (by omega)
      rw [List.append_assoc, List.length_append] at this
      rw [this, List.length_append]
      congr 2
      omega
    · rename_i h0
      rw [if_neg h0] at hf
      split
      · rename_i h1
        obtain rfl : hi = lo + 1 := by omega
        rw [if_pos h1, List.length_append, List.length_append] at hf
        obtain ⟨g', rfl⟩ : ∃ g', g = g' + 1 := ⟨g - 1, by omega⟩
        rw [List.append_assoc, List.append_assoc, rdMembers_step (by rw [at0]; exact (head_itm lo (by omega) _).2.2.1) (mem_one p _ lo (by omega) (head_itm (lo + 1) (by omega) _).1)]
        have e := mem_one (p ++ itm lo) (mems l ++ [93]) (lo + 1) (by omega) hm.1
        rw [List.append_assoc, List.length_append] at e
        have e0 : ¬ chr (tx (p ++ (itm lo ++ (itm (lo + 1) ++ (mems l ++ [93]))))) (p.length + (itm lo).length) = 93 := by
          rw [← List.append_assoc, ← List.length_append, at0]; exact (head_itm (lo + 1) (by omega) _).2.2.1
        rw [rdMembers_step e0 e]
        have := ih hl' (p ++ itm lo ++ itm (lo + 1)) (s ||| spn lo lo ||| spn ((lo + 1 : Nat) : Int) ((lo + 1 : Nat) : Int)) g' (by omega)
        rw [List.append_assoc, List.append_assoc, List.length_append, List.length_append] at this
        rw [this, List.length_append, List.length_append, spn_two lo (by omega)]
        congr 2
        omega
      · rename_i h1
        rw [if_neg h1, List.length_append, List.length_append, List.length_append] at hf
        rw [show itm lo ++ [45] ++ itm hi ++ mems l ++ [93] = itm lo ++ (45 :: (itm hi ++ (mems l ++ [93]))) from by simp]
        rw [rdMembers_step (by rw [at0]; exact (head_itm lo (by omega) _).2.2.1) (mem_span p _ lo hi (by omega) (by omega) (by omega))]
        have hlen : (p ++ itm lo ++ [(45 : UInt8)] ++ itm hi).length = p.length + (itm lo).length + 1 + (itm hi).length := by simp; omega
        have := ih hl' (p ++ itm lo ++ [45] ++ itm hi) (s ||| spn lo hi) g (by simp at hf; omega)
        rw [show p ++ itm lo ++ [45] ++ itm hi ++ (mems l ++ [93]) = p ++ (itm lo ++ (45 :: (itm hi ++ (mems l ++ [93])))) from by simp, hlen] at this
        rw [this]
        congr 2
        simp
        omega
end Go.Proofs.Ytlcmlipldkpliab
