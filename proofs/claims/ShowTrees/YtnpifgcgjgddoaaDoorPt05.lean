/- DERIVED. Plain mathematics and walks, laid together (5). -/
import Derived.Test.YtnpifgcgjgddoaaDoorPt04
namespace Go.Proofs.YtnpifgcgjgddoaaDoor
open Go.RowKit
/-- A list of bytes as a text. -/
abbrev tx8 (l : List UInt8) : ByteArray := ⟨l.toArray⟩
/-- The byte at a place of a list, or -1. -/
def chL (l : List UInt8) (i : Nat) : Int := match l[i]? with
  | some c => (c.toNat : Int)
  | none => -1
theorem tx_size (l : List UInt8) : (tx8 l).size = l.length := rfl
theorem chr_tx (l : List UInt8) (i : Nat) : chr (tx8 l) i = chL l i := by
  unfold chr chL
  by_cases h : i < l.length
  · rw [dif_pos (show i < (tx8 l).size from h), List.getElem?_eq_getElem h]
    rfl
  · rw [dif_neg (show ¬ i < (tx8 l).size from h), List.getElem?_eq_none (by omega)]
theorem chL_app (p r : List UInt8) (j : Nat) : chL (p ++ r) (p.length + j) = chL r j := by
  unfold chL
  rw [List.getElem?_append_right (by omega), Nat.add_sub_cancel_left]
theorem at0 (p r : List UInt8) : chr (tx8 (p ++ r)) p.length = chL r 0 := by rw [chr_tx]; exact chL_app p r 0
theorem atj (p r : List UInt8) (j : Nat) : chr (tx8 (p ++ r)) (p.length + j) = chL r j := by rw [chr_tx]; exact chL_app p r j
theorem of8 {b : Nat} (h : b < 256) : (UInt8.ofNat b).toNat = b := by rw [UInt8.toNat_ofNat']; omega
theorem hexV_hexD : ∀ n : Fin 16, hexV ((hexD n.val).toNat : Int) = (n.val : Int) := by decide
theorem sign_cases {b : Nat} (h : signB b = true) : b = 92 ∨ b = 93 ∨ b = 91 ∨ b = 94 ∨ b = 45 ∨ b = 37 := by
  simp [signB] at h; omega
theorem sign_not {b : Nat} (h : ¬ signB b = true) : b ≠ 92 ∧ b ≠ 93 ∧ b ≠ 91 ∧ b ≠ 94 ∧ b ≠ 45 ∧ b ≠ 37 := by
  simp [signB] at h; omega

theorem rdItem_esc (p r : List UInt8) : rdItem (tx8 (p ++ (92 :: r))) p.length = rdEsc (tx8 (p ++ (92 :: r))) p.length := by
  unfold rdItem
  rw [at0]
  exact if_pos rfl
theorem rdEsc_at (p r : List UInt8) (c : UInt8) : chr (tx8 (p ++ (92 :: c :: r))) (p.length + 1) = (c.toNat : Int) := by rw [atj]; rfl
theorem rdItem_itm (p q : List UInt8) (b : Nat) (hb : b < 256) : rdItem (tx8 (p ++ (itm b ++ q))) p.length = some (b, p.length + (itm b).length) := by
  unfold itm
  split
  · subst b; rw [List.cons_append, rdItem_esc]; unfold rdEsc; rw [List.cons_append, rdEsc_at]; exact if_pos rfl
  split
  · subst b; rw [List.cons_append, rdItem_esc]; unfold rdEsc; rw [List.cons_append, rdEsc_at]; rfl
  split
  · subst b; rw [List.cons_append, rdItem_esc]; unfold rdEsc; rw [List.cons_append, rdEsc_at]; rfl
  split
  · rename_i hs
    rw [List.cons_append, rdItem_esc]; unfold rdEsc; rw [List.cons_append, rdEsc_at]
    rcases sign_cases hs with rfl | rfl | rfl | rfl | rfl | rfl <;> rfl
  split
  · rename_i hs hp
    obtain ⟨s1, s2, s3, s4, s5, s6⟩ := sign_not hs
    have e : chL ([UInt8.ofNat b] ++ q) 0 = (b : Int) := by show ((UInt8.ofNat b).toNat : Int) = b; rw [of8 hb]
    unfold rdItem; rw [at0, e, if_neg (by omega), if_neg (by rw [hp]; simp; omega)]; rfl
  · have e2 : chL ([92, 120, hexD (b / 16), hexD (b % 16)] ++ q) 2 = ((hexD (b / 16)).toNat : Int) := rfl
    have e3 : chL ([92, 120, hexD (b / 16), hexD (b % 16)] ++ q) 3 = ((hexD (b % 16)).toNat : Int) := rfl
    have h2 := hexV_hexD ⟨b / 16, by omega⟩
    have h3 := hexV_hexD ⟨b % 16, by omega⟩
    simp only at h2 h3
    have k : rdHex (tx8 (p ++ ([92, 120, hexD (b / 16), hexD (b % 16)] ++ q))) p.length = some (b, p.length + 4) := by
      unfold rdHex
      rw [atj, atj, e2, e3, h2, h3, if_pos (by omega)]
      congr 2
      omega
    rw [List.cons_append, rdItem_esc]
    unfold rdEsc
    rw [List.cons_append, rdEsc_at]
    exact k
theorem head_itm (b : Nat) (hb : b < 256) (q : List UInt8) : chL (itm b ++ q) 0 ≠ 45 ∧ chL (itm b ++ q) 0 ≠ 37 ∧ chL (itm b ++ q) 0 ≠ 93 ∧ chL (itm b ++ q) 0 ≠ 94 := by
  have h92 : ∀ r : List UInt8, chL (92 :: r) 0 = 92 := fun _ => rfl
  unfold itm
  split
  · rw [List.cons_append, h92]; decide
  split
  · rw [List.cons_append, h92]; decide
  split
  · rw [List.cons_append, h92]; decide
  split
  · rw [List.cons_append, h92]; decide
  split
  · rename_i hs hp
    obtain ⟨s1, s2, s3, s4, s5, s6⟩ := sign_not hs
    have e : chL ([UInt8.ofNat b] ++ q) 0 = (b : Int) := by show ((UInt8.ofNat b).toNat : Int) = b; rw [of8 hb]
    rw [e]; omega
  · rw [List.cons_append, h92]; decide
theorem itm_pos (b : Nat) : 1 ≤ (itm b).length := by
  unfold itm
  repeat' split
  all_goals simp

theorem mem_one (p q : List UInt8) (b : Nat) (hb : b < 256) (hq : chL q 0 ≠ 45) : rdMember (tx8 (p ++ (itm b ++ q))) p.length = .inl (spn b b, p.length + (itm b).length) := by
  unfold rdMember
  rw [at0, if_neg (head_itm b hb q).2.1, rdItem_itm p q b hb]
  have e : chr (tx8 (p ++ (itm b ++ q))) (p.length + (itm b).length) = chL q 0 := by
    rw [← List.append_assoc, ← List.length_append]; exact at0 _ q
  exact if_neg (by rw [e]; exact hq)
theorem mem_span (p q : List UInt8) (lo hi : Nat) (hlo : lo < 256) (hhi : hi < 256) (hle : lo ≤ hi) : rdMember (tx8 (p ++ (itm lo ++ (45 :: (itm hi ++ q))))) p.length = .inl (spn lo hi, p.length + (itm lo).length + 1 + (itm hi).length) := by
  unfold rdMember
  rw [at0, if_neg (head_itm lo hlo _).2.1, rdItem_itm p _ lo hlo]
  have e : chr (tx8 (p ++ (itm lo ++ (45 :: (itm hi ++ q))))) (p.length + (itm lo).length) = 45 := by
    rw [← List.append_assoc, ← List.length_append, at0]; rfl
  have e2 : rdItem (tx8 (p ++ (itm lo ++ (45 :: (itm hi ++ q))))) (p.length + (itm lo).length + 1) = some (hi, p.length + (itm lo).length + 1 + (itm hi).length) := by
    have h := rdItem_itm (p ++ itm lo ++ [45]) q hi hhi
    rw [show p ++ itm lo ++ [45] ++ (itm hi ++ q) = p ++ (itm lo ++ (45 :: (itm hi ++ q))) from by simp] at h
    have hlen : (p ++ itm lo ++ [(45 : UInt8)]).length = p.length + (itm lo).length + 1 := by simp; omega
    rw [hlen] at h
    exact h
  refine (if_pos e).trans ?_
  rw [e2]
  exact if_neg (by omega)

/-- The union of spans. -/
def unL (l : List (Int × Int)) (s : BitVec 256) : BitVec 256 := l.foldl (fun s p => s ||| spn p.1 p.2) s
theorem unL_cons (p : Int × Int) (l : List (Int × Int)) (s : BitVec 256) : unL (p :: l) s = unL l (s ||| spn p.1 p.2) := rfl
theorem mems_cons' (p : Int × Int) (l : List (Int × Int)) : mems (p :: l) = spT p.1.toNat p.2.toNat ++ mems l := by unfold mems; rfl
theorem head_mems (l : List (Int × Int)) (hl : ∀ p ∈ l, 0 ≤ p.1 ∧ p.1 ≤ p.2 ∧ p.2 < 256) : chL (mems l ++ [93]) 0 ≠ 45 ∧ chL (mems l ++ [93]) 0 ≠ 94 := by
  cases l with
  | nil => decide
  | cons p l =>
    have h := hl p (by simp)
    rw [mems_cons']
    unfold spT
    split
    · rw [List.append_assoc]; have := head_itm p.1.toNat (by omega) (mems l ++ [93]); exact ⟨this.1, this.2.2.2⟩
    split
    · rw [List.append_assoc, List.append_assoc]; have := head_itm p.1.toNat (by omega) (itm p.2.toNat ++ (mems l ++ [93])); exact ⟨this.1, this.2.2.2⟩
    · rw [List.append_assoc, List.append_assoc, List.append_assoc]; have := head_itm p.1.toNat (by omega) ([45] ++ (itm p.2.toNat ++ (mems l ++ [93]))); exact ⟨this.1, this.2.2.2⟩
theorem spn_two (lo : Nat) (h : lo + 1 < 256) (s : BitVec 256) : s ||| spn lo lo ||| spn ((lo + 1 : Nat) : Int) ((lo + 1 : Nat) : Int) = s ||| spn lo ((lo + 1 : Nat) : Int) := by
  apply BitVec.eq_of_getLsbD_eq
  intro i _
  simp only [BitVec.getLsbD_or]
  rw [spn_get _ _ (by omega), spn_get _ _ (by omega), spn_get _ _ (by omega), Bool.or_assoc]
  congr 1
  rw [Bool.eq_iff_iff]
  simp
  omega

theorem rdMembers_mems : ∀ (l : List (Int × Int)), (∀ p ∈ l, 0 ≤ p.1 ∧ p.1 ≤ p.2 ∧ p.2 < 256) → ∀ (p : List UInt8) (s : BitVec 256) (f : Nat), (mems l).length + 1 ≤ f →
    rdMembers (tx8 (p ++ (mems l ++ [93]))) f s p.length = .inl (unL l s, p.length + (mems l).length) := by
  intro l
  induction l with
  | nil =>
    intro _ p s f hf
    obtain ⟨g, rfl⟩ : ∃ g, f = g + 1 := ⟨f - 1, by simp [mems] at hf; omega⟩
    rw [rdMembers_end (by rw [at0]; rfl)]
    rfl
  | cons a l ih =>
    intro hl p s f hf
    have h := hl a (by simp)
    have hl' : ∀ q ∈ l, 0 ≤ q.1 ∧ q.1 ≤ q.2 ∧ q.2 < 256 := fun q hq => hl q (List.mem_cons_of_mem _ hq)
    have hm := head_mems l hl'
    obtain ⟨g, rfl⟩ : ∃ g, f = g + 1 := ⟨f - 1, by omega⟩
    obtain ⟨lo, hlo⟩ : ∃ lo : Nat, a.1 = lo := ⟨a.1.toNat, by omega⟩
    obtain ⟨hi, hhi⟩ : ∃ hi : Nat, a.2 = hi := ⟨a.2.toNat, by omega⟩
    have i1 := itm_pos lo
    have i2 := itm_pos hi
    rw [mems_cons', unL_cons, hlo, hhi, Int.toNat_natCast, Int.toNat_natCast]
    rw [mems_cons', hlo, hhi, Int.toNat_natCast, Int.toNat_natCast] at hf
    unfold spT at hf ⊢
    split
    · rename_i h0
      obtain rfl : hi = lo := by omega
      rw [if_pos h0, List.length_append] at hf
      rw [List.append_assoc, rdMembers_step (by rw [at0]; exact (head_itm hi (by omega) _).2.2.1) (mem_one p _ hi (by omega) hm.1)]
      have := ih hl' (p ++ itm hi) (s ||| spn hi hi) g (by omega)
      rw [List.append_assoc, List.length_append] at this
      rw [this, List.length_append]
      congr 2
      omega
    · rename_i h0
      rw [if_neg h0] at hf
      split
      · rename_i h1
        obtain rfl : hi = lo + 1 := by omega
        rw [if_pos h1, List.length_append, List.length_append] at hf
        obtain ⟨g', rfl⟩ : ∃ g', g = g' + 1 := ⟨g - 1, by omega⟩
        rw [List.append_assoc, List.append_assoc, rdMembers_step (by rw [at0]; exact (head_itm lo (by omega) _).2.2.1) (mem_one p _ lo (by omega) (head_itm (lo + 1) (by omega) _).1)]
        have e := mem_one (p ++ itm lo) (mems l ++ [93]) (lo + 1) (by omega) hm.1
        rw [List.append_assoc, List.length_append] at e
        have e0 : ¬ chr (tx8 (p ++ (itm lo ++ (itm (lo + 1) ++ (mems l ++ [93]))))) (p.length + (itm lo).length) = 93 := by
          rw [← List.append_assoc, ← List.length_append, at0]; exact (head_itm (lo + 1) (by omega) _).2.2.1
        rw [rdMembers_step e0 e]
        have := ih hl' (p ++ itm lo ++ itm (lo + 1)) (s ||| spn lo lo ||| spn ((lo + 1 : Nat) : Int) ((lo + 1 : Nat) : Int)) g' (by omega)
        rw [List.append_assoc, List.append_assoc, List.length_append, List.length_append] at this
        rw [this, List.length_append, List.length_append, spn_two lo (by omega)]
        congr 2
        omega
      · rename_i h1
        rw [if_neg h1, List.length_append, List.length_append, List.length_append] at hf
        rw [show itm lo ++ [45] ++ itm hi ++ mems l ++ [93] = itm lo ++ (45 :: (itm hi ++ (mems l ++ [93]))) from by simp]
        rw [rdMembers_step (by rw [at0]; exact (head_itm lo (by omega) _).2.2.1) (mem_span p _ lo hi (by omega) (by omega) (by omega))]
        have hlen : (p ++ itm lo ++ [(45 : UInt8)] ++ itm hi).length = p.length + (itm lo).length + 1 + (itm hi).length := by simp; omega
        have := ih hl' (p ++ itm lo ++ [45] ++ itm hi) (s ||| spn lo hi) g (by simp at hf; omega)
        rw [show p ++ itm lo ++ [45] ++ itm hi ++ (mems l ++ [93]) = p ++ (itm lo ++ (45 :: (itm hi ++ (mems l ++ [93])))) from by simp, hlen] at this
        rw [this]
        congr 2
        simp
        omega
end Go.Proofs.YtnpifgcgjgddoaaDoor

namespace Go.Proofs.YtnpifgcgjgddoaaDoor
open Go.RowKit
theorem unL_get (l : List (Int × Int)) (hl : ∀ p ∈ l, p.2 ≤ 255) (s : BitVec 256) (j : Nat) : (unL l s).getLsbD j = true ↔ s.getLsbD j = true ∨ ∃ p ∈ l, p.1 ≤ (j : Int) ∧ (j : Int) ≤ p.2 := by
  induction l generalizing s with
  | nil => simp [unL]
  | cons a l ih =>
    rw [unL_cons, ih (fun p hp => hl p (List.mem_cons_of_mem _ hp)), BitVec.getLsbD_or, spn_get _ _ (hl a (by simp))]
    simp only [Bool.or_eq_true, Bool.and_eq_true, decide_eq_true_eq, List.mem_cons, exists_eq_or_imp]
    constructor
    · rintro ((h | h) | h)
      · exact .inl h
      · exact .inr (.inl h)
      · exact .inr (.inr h)
    · rintro (h | h | h)
      · exact .inl (.inl h)
      · exact .inl (.inr h)
      · exact .inr h
theorem spL_cover (j : Int) : ∀ (n : Nat) (bs : List Int), bs.length = n → ((∃ p ∈ spL bs, p.1 ≤ j ∧ j ≤ p.2) ↔ j ∈ bs) := by
  intro n
  induction n with
  | zero => intro bs h; rw [List.eq_nil_of_length_eq_zero h]; simp [spL]
  | succ n ih =>
    intro bs h
    rcases snoc_cases bs with rfl | ⟨m, b, rfl⟩
    · simp at h
    · have ihm := ih m (by simp at h; exact h)
      have hok := spL_ok m
      rw [spL_snoc]
      rcases snoc_cases (spL m) with hs | ⟨l, ⟨lo, hi⟩, hs⟩
      · rw [hs] at ihm ⊢
        rw [List.mem_append, ← ihm]
        simp [spStep]
        omega
      · rw [hs] at ihm hok ⊢
        have hle := hok (lo, hi) (by simp)
        simp only at hle
        rw [List.mem_append, ← ihm]
        by_cases e : hi + 1 = b
        · rw [spStep_hit _ _ _ _ e]
          constructor
          · rintro ⟨p, hp, h1, h2⟩
            rcases List.mem_append.1 hp with h3 | h3
            · exact .inl ⟨p, List.mem_append_left _ h3, h1, h2⟩
            · simp at h3; subst h3
              simp only at h1 h2
              by_cases hj : j ≤ hi
              · exact .inl ⟨(lo, hi), by simp, h1, hj⟩
              · exact .inr (by simp; omega)
          · rintro (⟨p, hp, h1, h2⟩ | h1)
            · rcases List.mem_append.1 hp with h3 | h3
              · exact ⟨p, List.mem_append_left _ h3, h1, h2⟩
              · simp at h3; subst h3
                exact ⟨(lo, b), by simp, h1, by simp only at h2 ⊢; omega⟩
            · simp at h1; subst h1
              exact ⟨(lo, j), by simp, by simp only; omega, by simp only; omega⟩
        · rw [spStep_miss _ _ _ _ e]
          constructor
          · rintro ⟨p, hp, h1, h2⟩
            rcases List.mem_append.1 hp with h3 | h3
            · exact .inl ⟨p, h3, h1, h2⟩
            · simp at h3; subst h3; simp only at h1 h2; exact .inr (by simp; omega)
          · rintro (⟨p, hp, h1, h2⟩ | h1)
            · exact ⟨p, List.mem_append_left _ hp, h1, h2⟩
            · simp at h1; subst h1; exact ⟨(j, j), by simp, by simp only; omega, by simp only; omega⟩
theorem unL_spL (x : BitVec 256) : unL (spL (bys x)) 0#256 = x := by
  apply BitVec.eq_of_getLsbD_eq
  intro j hj
  rw [Bool.eq_iff_iff, unL_get _ (fun p hp => by have := spL_byte x p hp; omega), spL_cover (j : Int) _ (bys x) rfl]
  have h := bysTo_mem x 256 (j : Int)
  rw [show bys x = bysTo x 256 from rfl, h]
  simp
  omega
def isRd (r : Rd (BitVec 256 × Nat)) (x : BitVec 256) (n : Nat) : Bool := match r with
  | .inl p => p.1 == x && p.2 == n
  | .inr _ => false
theorem isRd_eq {r : Rd (BitVec 256 × Nat)} {x : BitVec 256} {n : Nat} (h : isRd r x n = true) : r = .inl (x, n) := by
  cases r with
  | inr q => cases h
  | inl p =>
    obtain ⟨a, b⟩ := p
    simp only [isRd, Bool.and_eq_true, beq_iff_eq] at h
    rw [h.1, h.2]
/-- The class text leads back. -/
theorem back_read (x : BitVec 256) : rdRead (tx8 (shT x)) 0 = .inl (x, (shT x).length) := by
  unfold shT
  cases hf : fulB x
  · rw [if_neg (by simp)]
    have hL := spL_byte x
    have hlen := spL_len256 x
    have hm := head_mems _ hL
    have hml := mems_len (spL (bys x))
    have key := rdMembers_mems _ hL [91] 0#256
    rw [unL_spL] at key
    generalize mems (spL (bys x)) = M at *
    have e0 : chr (tx8 (91 :: M ++ [93])) 0 = 91 := by rw [chr_tx]; rfl
    have e1 : chr (tx8 (91 :: M ++ [93])) 1 = chL (M ++ [93]) 0 := atj [91] (M ++ [93]) 0
    have hsz : (tx8 (91 :: M ++ [93])).size = M.length + 2 := by rw [tx_size]; simp
    have k := key ((tx8 (91 :: M ++ [93])).size + 1) (by rw [hsz]; omega)
    have hr : rdRead (tx8 (91 :: M ++ [93])) 0 = .inl (x, M.length + 2) := by
      unfold rdRead
      rw [if_neg (by omega), show Int.toNat 0 = 0 from rfl, if_pos e0, if_neg (by show ¬ chr _ 1 = 94; rw [e1]; exact hm.2)]
      show rdEnd (rdMembers (tx8 ([91] ++ (M ++ [93]))) _ 0#256 1) = _
      rw [show rdMembers (tx8 ([91] ++ (M ++ [93]))) ((tx8 (91 :: M ++ [93])).size + 1) 0#256 1 = .inl (x, [91].length + M.length) from k]
      show Sum.inl (x, [91].length + M.length + 1) = _
      congr 2
      simp
      omega
    rw [hr]
    congr 2
    simp
  · rw [if_pos rfl]
    have hx : x = ~~~ 0#256 := by simpa [fulB] using hf
    rw [hx]
    exact isRd_eq (by decide +kernel)
end Go.Proofs.YtnpifgcgjgddoaaDoor

namespace Go.Proofs.YtnpifgcgjgddoaaDoor
open Go.RowKit
theorem spN_eq {P : Int → Bool} {s : ByteArray} (hn : P (-1) = false) {i e : Nat} (hie : i ≤ e) (h : ∀ k, i ≤ k → k < e → P (chr s k) = true) (he : P (chr s e) = false) : spN P s i = e := by
  obtain ⟨h1, _, h3, h4⟩ := spN_spec P s hn _ i rfl
  by_cases q : spN P s i < e
  · rw [h _ h1 q] at h3; cases h3
  · by_cases q2 : e < spN P s i
    · rw [h4 e hie q2] at he; cases he
    · omega
/-- The bytes of two texts are the same, so many from two places on. -/
def Ag (s : ByteArray) (b : Nat) (s' : ByteArray) (b' : Nat) (m : Nat) : Prop := ∀ k, k < m → chr s' (b' + k) = chr s (b + k)
theorem Ag.at {s s' : ByteArray} {b b' m : Nat} (h : Ag s b s' b' m) {j j' : Nat} (hb : b ≤ j) (hj : j < b + m) (e : j' = b' + (j - b)) : chr s' j' = chr s j := by
  have := h (j - b) (by omega)
  rw [show b + (j - b) = j from by omega] at this
  rw [e]; exact this
theorem Ag.sub {s s' : ByteArray} {b b' m : Nat} (h : Ag s b s' b' m) (d : Nat) {m2 : Nat} (hm : d + m2 ≤ m) : Ag s (b + d) s' (b' + d) m2 := fun k hk => by
  have := h (d + k) (by omega)
  rw [Nat.add_assoc, Nat.add_assoc]; exact this
theorem run_move {P : Int → Bool} {s s' : ByteArray} (hn : P (-1) = false) {i i' m : Nat} (h : Ag s i s' i' m) (hs : spN P s i = i + m) (he : P (chr s' (i' + m)) = false) : spN P s' i' = i' + m := by
  obtain ⟨_, _, _, h4⟩ := spN_spec P s hn _ i rfl
  refine spN_eq hn (by omega) (fun k k1 k2 => ?_) he
  have := h (k - i') (by omega)
  rw [show i' + (k - i') = k from by omega] at this
  rw [this]
  exact h4 _ (by omega) (by omega)
theorem text_same {s s' : ByteArray} {b b' m : Nat} (h : Ag s b s' b' m) (h1 : b + m ≤ s.size) (h2 : b' + m ≤ s'.size) : s'.extract b' (b' + m) = s.extract b (b + m) := by
  apply ByteArray.ext
  apply Array.ext
  · show (s'.extract b' (b' + m)).size = (s.extract b (b + m)).size
    rw [ByteArray.size_extract, ByteArray.size_extract]; omega
  · intro k hk1 hk2
    have hk1' : k < (s'.extract b' (b' + m)).size := hk1
    have hk2' : k < (s.extract b (b + m)).size := hk2
    have hm : k < m := by rw [ByteArray.size_extract] at hk2'; omega
    have e1 := chr_ext (s := s') (a := b') (b := b' + m) (k := k) (by omega) h2
    have e2 := chr_ext (s := s) (a := b) (b := b + m) (k := k) (by omega) h1
    rw [h k hm, ← e2, chr_in hk1', chr_in hk2'] at e1
    exact (UInt8.toNat_inj.1 (Int.ofNat_inj.1 e1) : (s'.extract b' (b' + m))[k] = (s.extract b (b + m))[k])
end Go.Proofs.YtnpifgcgjgddoaaDoor

namespace Go.Proofs.YtnpifgcgjgddoaaDoor
open Go.RowKit
/-- A token at another place. -/
def mvT (t : Tk) (b' m : Nat) : Tk := { t with fr := b', en := (b' + m : Nat) }
theorem esc_move {s s' : ByteArray} {i i' m c n : Nat} (ha : Ag s i s' i' m) (h : escT s i = some (c, n)) (hn : n ≤ i + m) : escT s' i' = some (c, i' + (n - i)) := by
  have h2 := escT_lt h
  unfold escT at h ⊢
  have e1 : chr s' (i' + 1) = chr s (i + 1) := by
    by_cases q : 1 < m
    · exact ha 1 q
    · exfalso
      split at h; cases h; omega
      split at h; cases h; omega
      split at h; cases h; omega
      split at h; cases h; omega
      split at h; cases h; omega
      cases h
  rw [e1]
  split at h
  · next q => rw [if_pos q]; cases h; rw [show i + 2 - i = 2 from by omega]
  next q1 =>
  rw [if_neg q1]
  split at h
  · next q => rw [if_pos q]; cases h; rw [show i + 2 - i = 2 from by omega]
  next q2 =>
  rw [if_neg q2]
  split at h
  · next q => rw [if_pos q]; cases h; rw [show i + 2 - i = 2 from by omega]
  next q3 =>
  rw [if_neg q3]
  split at h
  · next q => rw [if_pos q]; cases h; rw [show i + 2 - i = 2 from by omega]
  next q4 =>
  rw [if_neg q4]
  split at h
  · next q =>
    cases h
    rw [ha 2 (by omega), ha 3 (by omega), if_pos q, show i + 4 - i = 4 from by omega]
  · cases h
theorem lit_move (s s' : ByteArray) (q : Int) (b b' : Nat) (hq : 0 ≤ q) : ∀ (f f' : Nat) (out : List Int) (i i' m : Nat) (t : Tk) (e : Nat), litGo s q b f out i = .inl t → t.en = e → e = i + m → Ag s i s' i' m → m ≤ f' → litGo s' q b' f' out i' = .inl { t with fr := b', en := (i' + m : Nat) } := by
  intro f
  induction f with
  | zero => intro f' out i i' m t e h; rw [litGo] at h; cases h
  | succ f ih =>
    intro f' out i i' m t e h he hm ha hf
    obtain ⟨e2, x1, x2, x3⟩ := litGo_en s q b hq _ _ _ _ h
    have : e2 = e := by omega
    subst this
    obtain ⟨f', rfl⟩ : ∃ g, f' = g + 1 := ⟨f' - 1, by omega⟩
    have h0 := ha 0 (by omega)
    rw [Nat.add_zero, Nat.add_zero] at h0
    rw [litGo] at h ⊢
    rw [h0]
    split at h
    · cases h
    next h1 =>
    rw [if_neg h1]
    split at h
    · next h2 =>
      rw [if_pos h2]
      split at h
      · cases h
      next h3 =>
      rw [if_neg h3]
      cases h
      have : m = 1 := by
        have he : ((i + 1 : Nat) : Int) = ((i + m : Nat) : Int) := by rw [← hm, ← he]; rfl
        omega
      subst this
      rfl
    next h2 =>
    rw [if_neg h2]
    split at h
    · cases h
    next h3 =>
    rw [if_neg h3]
    split at h
    · next h4 =>
      rw [if_pos h4]
      have h5 := litGo_en s q b hq _ _ _ _ h
      obtain ⟨e3, y1, y2, y3⟩ := h5
      have := ih f' (out ++ [chr s i]) (i + 1) (i' + 1) (m - 1) t e2 h he (by omega) (ha.sub 1 (by omega)) (by omega)
      rw [this, show i' + 1 + (m - 1) = i' + m from by omega]
    next h4 =>
    rw [if_neg h4]
    cases hx : escT s i with
    | none => rw [hx] at h; cases h
    | some p =>
      obtain ⟨c, n⟩ := p
      rw [hx] at h
      have h5 := escT_lt hx
      obtain ⟨e3, y1, y2, y3⟩ := litGo_en s q b hq _ _ _ _ h
      rw [esc_move ha hx (by omega)]
      have := ih f' (out ++ [(c : Int)]) n (i' + (n - i)) (m - (n - i)) t e2 h he (by omega) (by
        have h7 := ha.sub (n - i) (m2 := m - (n - i)) (by omega)
        rwa [show i + (n - i) = n from by omega] at h7) (by omega)
      show litGo s' q b' f' (out ++ [(c : Int)]) (i' + (n - i)) = _
      rw [this, show i' + (n - i) + (m - (n - i)) = i' + m from by omega]
theorem item_move {s s' : ByteArray} {i i' m c n : Nat} (ha : Ag s i s' i' m) (h : rdItem s i = some (c, n)) (hn : n ≤ i + m) : rdItem s' i' = some (c, i' + (n - i)) := by
  have hb := rdItem_bd h
  have h0 := ha 0 (by omega)
  rw [Nat.add_zero, Nat.add_zero] at h0
  unfold rdItem at h ⊢
  rw [h0]
  split at h
  · next q =>
    rw [if_pos q]
    unfold rdEsc at h ⊢
    have hm : 2 ≤ n - i := by
      split at h; cases h; omega
      split at h; cases h; omega
      split at h; cases h; omega
      split at h
      · unfold rdHex at h
        split at h
        · cases h; omega
        · cases h
      split at h
      · cases h; omega
      · cases h
    rw [ha 1 (by omega)]
    split at h
    · next q => rw [if_pos q]; cases h; rw [show i + 2 - i = 2 from by omega]
    next q1 =>
    rw [if_neg q1]
    split at h
    · next q => rw [if_pos q]; cases h; rw [show i + 2 - i = 2 from by omega]
    next q2 =>
    rw [if_neg q2]
    split at h
    · next q => rw [if_pos q]; cases h; rw [show i + 2 - i = 2 from by omega]
    next q3 =>
    rw [if_neg q3]
    split at h
    · next q =>
      rw [if_pos q]
      unfold rdHex at h ⊢
      split at h
      · next q5 =>
        cases h
        rw [ha 2 (by omega), ha 3 (by omega), if_pos q5, show i + 4 - i = 4 from by omega]
      · cases h
    next q4 =>
    rw [if_neg q4]
    split at h
    · next q5 => rw [if_pos q5]; cases h; rw [show i + 2 - i = 2 from by omega]
    · cases h
  · next q =>
    rw [if_neg q]
    split at h
    · cases h
    · next q2 => rw [if_neg q2]; cases h; rw [show i + 1 - i = 1 from by omega]
theorem member_move {s s' : ByteArray} {i i' m n : Nat} {y : BitVec 256} (ha : Ag s i s' i' m) (h : rdMember s i = .inl (y, n)) (hn : n < i + m) : rdMember s' i' = .inl (y, i' + (n - i)) := by
  have hb := rdMember_bd h
  have h0 := ha 0 (by omega)
  rw [Nat.add_zero, Nat.add_zero] at h0
  unfold rdMember at h ⊢
  rw [h0]
  split at h
  · next q =>
    rw [if_pos q]
    unfold rdClass at h ⊢
    split at h
    · next q2 =>
      cases h
      have e1 := ha 1 (by omega)
      have hlt : i' + 1 < s'.size := chr_lt (by rw [e1, chr_in q2.1]; omega)
      rw [e1, if_pos ⟨hlt, q2.2⟩, show i + 2 - i = 2 from by omega]
    · cases h
  · next q =>
    rw [if_neg q]
    cases hi : rdItem s i with
    | none => rw [hi] at h; cases h
    | some p =>
      obtain ⟨lo, n1⟩ := p
      rw [hi] at h
      have hb1 := rdItem_bd hi
      dsimp only at h
      split at h
      · next q45 =>
        cases hj : rdItem s (n1 + 1) with
        | none => rw [hj] at h; cases h
        | some p =>
          obtain ⟨hi2, e⟩ := p
          rw [hj] at h
          dsimp only at h
          have hb2 := rdItem_bd hj
          split at h
          · cases h
          · next q6 =>
            cases h
            rw [item_move ha hi (by omega)]
            dsimp only
            rw [ha.at (j := n1) (by omega) (by omega) rfl, if_pos q45]
            have := item_move (i' := i' + (n1 - i) + 1) (m := i + m - (n1 + 1)) (by
              have h7 := ha.sub (n1 + 1 - i) (m2 := i + m - (n1 + 1)) (by omega)
              rwa [show i + (n1 + 1 - i) = n1 + 1 from by omega, show i' + (n1 + 1 - i) = i' + (n1 - i) + 1 from by omega] at h7) hj (by omega)
            rw [this]
            dsimp only
            rw [if_neg q6, show i' + (n1 - i) + 1 + (n - (n1 + 1)) = i' + (n - i) from by omega]
      · next q45 =>
        cases h
        rw [item_move ha hi (by omega)]
        dsimp only
        rw [ha.at (j := n) (by omega) (by omega) rfl, if_neg q45]
theorem members_move (s s' : ByteArray) : ∀ (f f' : Nat) (x y : BitVec 256) (i i' m n : Nat), rdMembers s f x i = .inl (y, n) → Ag s i s' i' m → n < i + m → n - i < f' → rdMembers s' f' x i' = .inl (y, i' + (n - i)) := by
  intro f
  induction f with
  | zero => intro f' x y i i' m n h; rw [rdMembers] at h; cases h
  | succ f ih =>
    intro f' x y i i' m n h ha hn hf
    have hok := rdMembers_ok h
    obtain ⟨f', rfl⟩ : ∃ g, f' = g + 1 := ⟨f' - 1, by omega⟩
    have h0 := ha 0 (by omega)
    rw [Nat.add_zero, Nat.add_zero] at h0
    rw [rdMembers] at h ⊢
    rw [h0]
    split at h
    · next q => cases h; rw [if_pos q, Nat.sub_self, Nat.add_zero]
    · next q =>
      rw [if_neg q]
      cases hm : rdMember s i with
      | inr p => obtain ⟨a, c⟩ := p; rw [hm] at h; cases h
      | inl p =>
        obtain ⟨z, k⟩ := p
        rw [hm] at h
        dsimp only at h
        have hb := rdMember_bd hm
        have hok2 := rdMembers_ok h
        rw [member_move ha hm (by omega)]
        dsimp only
        have := ih f' (x ||| z) y k (i' + (k - i)) (i + m - k) n h (by
          have h7 := ha.sub (k - i) (m2 := i + m - k) (by omega)
          rwa [show i + (k - i) = k from by omega] at h7) (by omega) (by omega)
        rw [this, show i' + (k - i) + (n - k) = i' + (n - i) from by omega]
end Go.Proofs.YtnpifgcgjgddoaaDoor

namespace Go.Proofs.YtnpifgcgjgddoaaDoor
open Go.RowKit
/-- The sign that two bytes begin. -/
def sgC (c0 c1 : Int) : Int × List UInt8 :=
  if c0 = 37 then (if c1 = 101 then (29, [37, 101]) else if c1 = 102 then (30, [37, 102]) else (0, []))
  else if c0 = 94 then (if c1 = 43 then (14, [94, 43]) else if c1 = 45 then (15, [94, 45]) else (13, [94]))
  else if c0 = 60 then (if c1 = 45 then (6, [60, 45]) else (0, []))
  else if c0 = 45 then (if c1 = 62 then (27, [45, 62]) else (0, []))
  else if c0 = 47 then (7, [47])
  else if c0 = 38 then (8, [38])
  else if c0 = 33 then (9, [33])
  else if c0 = 63 then (10, [63])
  else if c0 = 42 then (11, [42])
  else if c0 = 43 then (12, [43])
  else if c0 = 40 then (16, [40])
  else if c0 = 41 then (17, [41])
  else if c0 = 46 then (18, [46])
  else if c0 = 123 then (if c1 = 58 then (21, [123, 58]) else if c1 = 124 then (23, [123, 124]) else if c1 = 126 then (25, [123, 126]) else (19, [123]))
  else if c0 = 58 then (if c1 = 125 then (22, [58, 125]) else (0, []))
  else if c0 = 124 then (if c1 = 125 then (24, [124, 125]) else (0, []))
  else if c0 = 126 then (if c1 = 125 then (26, [126, 125]) else (0, []))
  else if c0 = 125 then (20, [125]) else (0, [])
def pfC (c0 c1 : Int) : List UInt8 → Bool
  | [] => true
  | [x] => c0 == (x.toNat : Int)
  | x :: y :: _ => c0 == (x.toNat : Int) && c1 == (y.toNat : Int)
def sgGC (c0 c1 : Int) : List (Int × List UInt8) → Int × List UInt8
  | [] => (0, [])
  | p :: l => if pfC c0 c1 p.2 = true then p else sgGC c0 c1 l
theorem pfx_C (s : ByteArray) (b : Nat) (l : List UInt8) (h : l.length ≤ 2) : pfx s b l = pfC (chr s b) (chr s (b + 1)) l := by
  match l, h with
  | [], _ => rfl
  | [x], _ => show (chr s b == (x.toNat : Int) && true) = _; rw [Bool.and_true]; rfl
  | [x, y], _ => show (chr s b == (x.toNat : Int) && (chr s (b + 1) == (y.toNat : Int) && true)) = _; rw [Bool.and_true]; rfl
theorem sgGo_C (s : ByteArray) (b : Nat) : ∀ l : List (Int × List UInt8), (∀ p ∈ l, p.2.length ≤ 2) → sgGo s b l = sgGC (chr s b) (chr s (b + 1)) l := by
  intro l
  induction l with
  | nil => intro _; rfl
  | cons p l ih =>
    intro h
    rw [sgGo, sgGC, pfx_C s b p.2 (h p (List.mem_cons_self ..)), ih (fun q hq => h q (List.mem_cons_of_mem _ hq))]
theorem sgGC_C (c0 c1 : Int) : sgGC c0 c1 sgTab = sgC c0 c1 := by
  unfold sgC
  by_cases h37 : c0 = 37
  · subst h37; simp [sgTab, sgGC, pfC]
    try (by_cases a1 : c1 = 101 <;> by_cases a2 : c1 = 102 <;> by_cases a3 : c1 = 43 <;> by_cases a4 : c1 = 45 <;> by_cases a5 : c1 = 62 <;> by_cases a6 : c1 = 58 <;> by_cases a7 : c1 = 124 <;> by_cases a8 : c1 = 126 <;> by_cases a9 : c1 = 125 <;> simp [*])
  by_cases h94 : c0 = 94
  · subst h94; simp [sgTab, sgGC, pfC]
    try (by_cases a1 : c1 = 101 <;> by_cases a2 : c1 = 102 <;> by_cases a3 : c1 = 43 <;> by_cases a4 : c1 = 45 <;> by_cases a5 : c1 = 62 <;> by_cases a6 : c1 = 58 <;> by_cases a7 : c1 = 124 <;> by_cases a8 : c1 = 126 <;> by_cases a9 : c1 = 125 <;> simp [*])
  by_cases h60 : c0 = 60
  · subst h60; simp [sgTab, sgGC, pfC]
    try (by_cases a1 : c1 = 101 <;> by_cases a2 : c1 = 102 <;> by_cases a3 : c1 = 43 <;> by_cases a4 : c1 = 45 <;> by_cases a5 : c1 = 62 <;> by_cases a6 : c1 = 58 <;> by_cases a7 : c1 = 124 <;> by_cases a8 : c1 = 126 <;> by_cases a9 : c1 = 125 <;> simp [*])
  by_cases h45 : c0 = 45
  · subst h45; simp [sgTab, sgGC, pfC]
    try (by_cases a1 : c1 = 101 <;> by_cases a2 : c1 = 102 <;> by_cases a3 : c1 = 43 <;> by_cases a4 : c1 = 45 <;> by_cases a5 : c1 = 62 <;> by_cases a6 : c1 = 58 <;> by_cases a7 : c1 = 124 <;> by_cases a8 : c1 = 126 <;> by_cases a9 : c1 = 125 <;> simp [*])
  by_cases h47 : c0 = 47
  · subst h47; simp [sgTab, sgGC, pfC]
    try (by_cases a1 : c1 = 101 <;> by_cases a2 : c1 = 102 <;> by_cases a3 : c1 = 43 <;> by_cases a4 : c1 = 45 <;> by_cases a5 : c1 = 62 <;> by_cases a6 : c1 = 58 <;> by_cases a7 : c1 = 124 <;> by_cases a8 : c1 = 126 <;> by_cases a9 : c1 = 125 <;> simp [*])
  by_cases h38 : c0 = 38
  · subst h38; simp [sgTab, sgGC, pfC]
    try (by_cases a1 : c1 = 101 <;> by_cases a2 : c1 = 102 <;> by_cases a3 : c1 = 43 <;> by_cases a4 : c1 = 45 <;> by_cases a5 : c1 = 62 <;> by_cases a6 : c1 = 58 <;> by_cases a7 : c1 = 124 <;> by_cases a8 : c1 = 126 <;> by_cases a9 : c1 = 125 <;> simp [*])
  by_cases h33 : c0 = 33
  · subst h33; simp [sgTab, sgGC, pfC]
    try (by_cases a1 : c1 = 101 <;> by_cases a2 : c1 = 102 <;> by_cases a3 : c1 = 43 <;> by_cases a4 : c1 = 45 <;> by_cases a5 : c1 = 62 <;> by_cases a6 : c1 = 58 <;> by_cases a7 : c1 = 124 <;> by_cases a8 : c1 = 126 <;> by_cases a9 : c1 = 125 <;> simp [*])
  by_cases h63 : c0 = 63
  · subst h63; simp [sgTab, sgGC, pfC]
    try (by_cases a1 : c1 = 101 <;> by_cases a2 : c1 = 102 <;> by_cases a3 : c1 = 43 <;> by_cases a4 : c1 = 45 <;> by_cases a5 : c1 = 62 <;> by_cases a6 : c1 = 58 <;> by_cases a7 : c1 = 124 <;> by_cases a8 : c1 = 126 <;> by_cases a9 : c1 = 125 <;> simp [*])
  by_cases h42 : c0 = 42
  · subst h42; simp [sgTab, sgGC, pfC]
    try (by_cases a1 : c1 = 101 <;> by_cases a2 : c1 = 102 <;> by_cases a3 : c1 = 43 <;> by_cases a4 : c1 = 45 <;> by_cases a5 : c1 = 62 <;> by_cases a6 : c1 = 58 <;> by_cases a7 : c1 = 124 <;> by_cases a8 : c1 = 126 <;> by_cases a9 : c1 = 125 <;> simp [*])
  by_cases h43 : c0 = 43
  · subst h43; simp [sgTab, sgGC, pfC]
    try (by_cases a1 : c1 = 101 <;> by_cases a2 : c1 = 102 <;> by_cases a3 : c1 = 43 <;> by_cases a4 : c1 = 45 <;> by_cases a5 : c1 = 62 <;> by_cases a6 : c1 = 58 <;> by_cases a7 : c1 = 124 <;> by_cases a8 : c1 = 126 <;> by_cases a9 : c1 = 125 <;> simp [*])
  by_cases h40 : c0 = 40
  · subst h40; simp [sgTab, sgGC, pfC]
    try (by_cases a1 : c1 = 101 <;> by_cases a2 : c1 = 102 <;> by_cases a3 : c1 = 43 <;> by_cases a4 : c1 = 45 <;> by_cases a5 : c1 = 62 <;> by_cases a6 : c1 = 58 <;> by_cases a7 : c1 = 124 <;> by_cases a8 : c1 = 126 <;> by_cases a9 : c1 = 125 <;> simp [*])
  by_cases h41 : c0 = 41
  · subst h41; simp [sgTab, sgGC, pfC]
    try (by_cases a1 : c1 = 101 <;> by_cases a2 : c1 = 102 <;> by_cases a3 : c1 = 43 <;> by_cases a4 : c1 = 45 <;> by_cases a5 : c1 = 62 <;> by_cases a6 : c1 = 58 <;> by_cases a7 : c1 = 124 <;> by_cases a8 : c1 = 126 <;> by_cases a9 : c1 = 125 <;> simp [*])
  by_cases h46 : c0 = 46
  · subst h46; simp [sgTab, sgGC, pfC]
    try (by_cases a1 : c1 = 101 <;> by_cases a2 : c1 = 102 <;> by_cases a3 : c1 = 43 <;> by_cases a4 : c1 = 45 <;> by_cases a5 : c1 = 62 <;> by_cases a6 : c1 = 58 <;> by_cases a7 : c1 = 124 <;> by_cases a8 : c1 = 126 <;> by_cases a9 : c1 = 125 <;> simp [*])
  by_cases h123 : c0 = 123
  · subst h123; simp [sgTab, sgGC, pfC]
    try (by_cases a1 : c1 = 101 <;> by_cases a2 : c1 = 102 <;> by_cases a3 : c1 = 43 <;> by_cases a4 : c1 = 45 <;> by_cases a5 : c1 = 62 <;> by_cases a6 : c1 = 58 <;> by_cases a7 : c1 = 124 <;> by_cases a8 : c1 = 126 <;> by_cases a9 : c1 = 125 <;> simp [*])
  by_cases h58 : c0 = 58
  · subst h58; simp [sgTab, sgGC, pfC]
    try (by_cases a1 : c1 = 101 <;> by_cases a2 : c1 = 102 <;> by_cases a3 : c1 = 43 <;> by_cases a4 : c1 = 45 <;> by_cases a5 : c1 = 62 <;> by_cases a6 : c1 = 58 <;> by_cases a7 : c1 = 124 <;> by_cases a8 : c1 = 126 <;> by_cases a9 : c1 = 125 <;> simp [*])
  by_cases h124 : c0 = 124
  · subst h124; simp [sgTab, sgGC, pfC]
    try (by_cases a1 : c1 = 101 <;> by_cases a2 : c1 = 102 <;> by_cases a3 : c1 = 43 <;> by_cases a4 : c1 = 45 <;> by_cases a5 : c1 = 62 <;> by_cases a6 : c1 = 58 <;> by_cases a7 : c1 = 124 <;> by_cases a8 : c1 = 126 <;> by_cases a9 : c1 = 125 <;> simp [*])
  by_cases h126 : c0 = 126
  · subst h126; simp [sgTab, sgGC, pfC]
    try (by_cases a1 : c1 = 101 <;> by_cases a2 : c1 = 102 <;> by_cases a3 : c1 = 43 <;> by_cases a4 : c1 = 45 <;> by_cases a5 : c1 = 62 <;> by_cases a6 : c1 = 58 <;> by_cases a7 : c1 = 124 <;> by_cases a8 : c1 = 126 <;> by_cases a9 : c1 = 125 <;> simp [*])
  by_cases h125 : c0 = 125
  · subst h125; simp [sgTab, sgGC, pfC]
    try (by_cases a1 : c1 = 101 <;> by_cases a2 : c1 = 102 <;> by_cases a3 : c1 = 43 <;> by_cases a4 : c1 = 45 <;> by_cases a5 : c1 = 62 <;> by_cases a6 : c1 = 58 <;> by_cases a7 : c1 = 124 <;> by_cases a8 : c1 = 126 <;> by_cases a9 : c1 = 125 <;> simp [*])
  simp [sgTab, sgGC, pfC, *]
theorem sgAt_C (s : ByteArray) (b : Nat) : sgAt s b = sgC (chr s b) (chr s (b + 1)) := by
  rw [← sgGC_C]
  exact sgGo_C s b sgTab (by decide)
end Go.Proofs.YtnpifgcgjgddoaaDoor

namespace Go.Proofs.YtnpifgcgjgddoaaDoor
open Go.RowKit
/-- A byte that lengthens no token. -/
def stopB (c : Int) : Bool := !(nmB c) && !(c == 58) && !(c == 123) && !(c == 124) && !(c == 126)
/-- What stands behind a token, here and there. -/
def Fol (s : ByteArray) (e : Nat) (s' : ByteArray) (e' : Nat) : Prop :=
  stopB (chr s' e') = true ∨ (chr s' e' = chr s e ∧ (hdB (chr s e) = true → ∃ r, spN nmB s e = e + r ∧ spN nmB s' e' = e' + r ∧ (chr s' (e' + r) = 58 → chr s (e + r) = 58)))
theorem stop_facts {c : Int} (h : stopB c = true) : nmB c = false ∧ c ≠ 58 ∧ c ≠ 123 ∧ c ≠ 124 ∧ c ≠ 126 := by
  unfold stopB at h
  simp only [Bool.and_eq_true, Bool.not_eq_true', beq_eq_false_iff_ne] at h
  exact ⟨h.1.1.1.1, h.1.1.1.2, h.1.1.2, h.1.2, h.2⟩
theorem dg_nm {c : Int} (h : nmB c = false) : dgB c = false ∧ hdB c = false := by
  unfold nmB at h
  rw [Bool.or_eq_false_iff] at h
  exact ⟨h.2, h.1⟩
theorem Fol.nm {s s' : ByteArray} {e e' : Nat} (h : Fol s e s' e') (q : nmB (chr s e) = false) : nmB (chr s' e') = false := by
  rcases h with h | ⟨h, _⟩
  · exact (stop_facts h).1
  · rw [h]; exact q
theorem Fol.dg {s s' : ByteArray} {e e' : Nat} (h : Fol s e s' e') (q : dgB (chr s e) = false) : dgB (chr s' e') = false := by
  rcases h with h | ⟨h, _⟩
  · exact (dg_nm (stop_facts h).1).1
  · rw [h]; exact q
theorem Ag.in {s s' : ByteArray} {b b' m : Nat} (h : Ag s b s' b' m) (hm : 1 ≤ m) (hs : b + m ≤ s.size) : b' + m ≤ s'.size := by
  have h1 := h (m - 1) (by omega)
  have h2 := chr_in (s := s) (i := b + (m - 1)) (by omega)
  have := chr_lt (s := s') (i := b' + (m - 1)) (by rw [h1, h2]; omega)
  omega
theorem wth_move {s s' : ByteArray} {d d' m : Nat} {base : Int} (ha : Ag s d s' d' m) : ∀ k, k ≤ m → wthR s' d' base k = wthR s d base k := by
  intro k
  induction k with
  | zero => intro _; rfl
  | succ k ih => intro hk; rw [wthR, wthR, ih (by omega), ha k (by omega)]
theorem num_move {s s' : ByteArray} {d d' m : Nat} {M n : Int} (h : numR s d M = .inl n) (hm : spN dgB s d = d + m) (ha : Ag s d s' d' m) (hf : dgB (chr s' (d' + m)) = false) : numR s' d' M = .inl n ∧ spN dgB s' d' = d' + m := by
  have h1 := run_move (P := dgB) (by decide) ha hm hf
  have h2 := numR_en h
  have h0 := ha 0 (by omega)
  rw [Nat.add_zero, Nat.add_zero] at h0
  refine ⟨?_, h1⟩
  unfold numR at h ⊢
  rw [h1, show d' + m - d' = m from by omega, h0, wth_move ha m (Nat.le_refl _)]
  rw [hm, show d + m - d = m from by omega] at h
  exact h
theorem nm_move {s s' : ByteArray} {b b' d d' m : Nat} {k : Int} {t : Tk} (h : nmR s b d k = .inl t) (hm : spN dgB s d = d + m) (ha : Ag s d s' d' m) (hf : dgB (chr s' (d' + m)) = false) : nmR s' b' d' k = .inl { t with fr := b', en := (d' + m : Nat) } := by
  unfold nmR at h ⊢
  cases hn : numR s d (gtK k) with
  | inr e => rw [hn] at h; cases h
  | inl n =>
    obtain ⟨h1, h2⟩ := num_move hn hm ha hf
    rw [hn] at h
    cases h
    rw [h1, h2]
theorem name_move {s s' : ByteArray} {b b' m : Nat} {t : Tk} (h : nameR s b = .inl t) (hm : spN nmB s b = b + m) (h1 : 1 ≤ m) (hs : b + m ≤ s.size) (ha : Ag s b s' b' m) (hf : nmB (chr s' (b' + m)) = false) : nameR s' b' = .inl (mvT t b' m) := by
  have h2 := run_move (P := nmB) (by decide) ha hm hf
  have h3 := text_same ha hs (ha.in h1 hs)
  unfold nameR at h ⊢
  rw [hm, show b + m - b = m from by omega] at h
  rw [h2, show b' + m - b' = m from by omega, h3]
  split at h
  · cases h
  · next q => cases h; rw [if_neg q]; rfl
theorem pt_move {s s' : ByteArray} {a a' m : Nat} (h : (ptP s a).2.2 = true) (hm : (ptP s a).2.1 = a + m) (ha : Ag s a s' a' (m + 1)) : ptP s' a' = ((ptP s a).1, a' + m, true) := by
  have hst := (spN_spec hxB s (by decide) _ a rfl).2.2.1
  have hge := spN_ge hxB s (by decide) a
  unfold ptP at h hm ⊢
  split at h
  · cases h
  next q =>
  rw [if_neg q] at hm
  dsimp only at h hm
  rw [hm] at hst q h
  have h1 : spN hxB s' a' = a' + m := run_move (P := hxB) (by decide) (fun k hk => ha k (by omega)) hm (by rw [ha m (by omega)]; exact hst)
  rw [h1, hm, show a' + m - a' = m from by omega, show a + m - a = m from by omega, if_neg (by omega), if_neg (by omega), wth_move (m := m) (fun k hk => ha k (by omega)) m (Nat.le_refl _)]
  rw [show a + m - a = m from by omega] at h
  rw [h]
theorem pts_move {s s' : ByteArray} {b b' m : Nat} {t : Tk} (hb : b + 3 ≤ s.size) (h : ptsP s b = .inl t) (he : t.en = (b + m : Nat)) (ha : Ag s b s' b' m) : ptsP s' b' = .inl (mvT t b' m) := by
  have h1 := ptP_le hb
  unfold ptsP at h ⊢
  split at h
  · cases h
  next q1 =>
  have q1 : (ptP s (b + 3)).2.2 = true := by cases hq : (ptP s (b + 3)).2.2; exact absurd hq q1; rfl
  split at h
  · next h45 =>
    have h2 := chr_lt (s := s) (i := (ptP s (b + 3)).2.1) (by omega)
    have h3 := ptP_le (s := s) (a := (ptP s (b + 3)).2.1 + 1) (by omega)
    split at h
    · cases h
    next q2 =>
    have q3 : (ptP s ((ptP s (b + 3)).2.1 + 1)).2.2 = true := by cases hq : (ptP s ((ptP s (b + 3)).2.1 + 1)).2.2; exact absurd (.inl hq) q2; rfl
    split at h
    · next hc =>
      cases h
      dsimp only at he
      have he : (ptP s ((ptP s (b + 3)).2.1 + 1)).2.1 + 1 = b + m := by omega
      have hA := pt_move (s' := s') (a' := b' + 3) (m := (ptP s (b + 3)).2.1 - (b + 3)) q1 (by omega) (by
        exact ha.sub 3 (by omega))
      have hB := pt_move (s' := s') (a' := b' + ((ptP s (b + 3)).2.1 + 1 - b)) (m := (ptP s ((ptP s (b + 3)).2.1 + 1)).2.1 - ((ptP s (b + 3)).2.1 + 1)) q3 (by omega) (by
        have h7 := ha.sub ((ptP s (b + 3)).2.1 + 1 - b) (m2 := (ptP s ((ptP s (b + 3)).2.1 + 1)).2.1 - ((ptP s (b + 3)).2.1 + 1) + 1) (by omega)
        rwa [show b + ((ptP s (b + 3)).2.1 + 1 - b) = (ptP s (b + 3)).2.1 + 1 from by omega] at h7)
      have e1 : b' + 3 + ((ptP s (b + 3)).2.1 - (b + 3)) = b' + ((ptP s (b + 3)).2.1 - b) := by omega
      have e2 : b' + ((ptP s (b + 3)).2.1 - b) + 1 = b' + ((ptP s (b + 3)).2.1 + 1 - b) := by omega
      rw [hA]
      dsimp only
      rw [e1, e2, hB]
      dsimp only
      rw [if_neg (by decide), ha.at (j := (ptP s (b + 3)).2.1) (by omega) (by omega) rfl, if_pos h45, if_neg (by rw [q3] at q2; simpa using q2)]
      rw [ha.at (j := (ptP s ((ptP s (b + 3)).2.1 + 1)).2.1) (by omega) (by omega) (by omega), if_pos hc]
      unfold mvT
      congr 3
      omega
    · cases h
  · next h45 =>
    split at h
    · next hc =>
      cases h
      dsimp only at he
      have h4 := chr_lt (s := s) (i := (ptP s (b + 3)).2.1) (by omega)
      have he : (ptP s (b + 3)).2.1 + 1 = b + m := by omega
      have hA := pt_move (s' := s') (a' := b' + 3) (m := (ptP s (b + 3)).2.1 - (b + 3)) q1 (by omega) (ha.sub 3 (by omega))
      have e1 : b' + 3 + ((ptP s (b + 3)).2.1 - (b + 3)) = b' + ((ptP s (b + 3)).2.1 - b) := by omega
      rw [hA]
      dsimp only
      rw [e1, if_neg (by decide), ha.at (j := (ptP s (b + 3)).2.1) (by omega) (by omega) rfl, if_neg h45, if_pos hc]
      unfold mvT
      congr 3
      omega
    · cases h
end Go.Proofs.YtnpifgcgjgddoaaDoor

namespace Go.Proofs.YtnpifgcgjgddoaaDoor
open Go.RowKit
theorem sg_one {c0 c1 c1' : Int} (h : (sgC c0 c1).2.length = 1) (h2 : (sgC c0 c1).1 ≠ 13) (hc : c1' = c1 ∨ (c1' ≠ 58 ∧ c1' ≠ 124 ∧ c1' ≠ 126)) : sgC c0 c1' = sgC c0 c1 := by
  rcases hc with rfl | ⟨q1, q2, q3⟩
  · rfl
  unfold sgC at h h2 ⊢
  by_cases h37 : c0 = 37
  · subst h37
    by_cases a101 : c1 = 101 <;> by_cases a102 : c1 = 102 <;> simp_all
  by_cases h94 : c0 = 94
  · subst h94
    by_cases a43 : c1 = 43 <;> by_cases a45 : c1 = 45 <;> simp_all
  by_cases h60 : c0 = 60
  · subst h60
    by_cases a45 : c1 = 45 <;> simp_all
  by_cases h45 : c0 = 45
  · subst h45
    by_cases a62 : c1 = 62 <;> simp_all
  by_cases h47 : c0 = 47
  · subst h47
    simp
  by_cases h38 : c0 = 38
  · subst h38
    simp
  by_cases h33 : c0 = 33
  · subst h33
    simp
  by_cases h63 : c0 = 63
  · subst h63
    simp
  by_cases h42 : c0 = 42
  · subst h42
    simp
  by_cases h43 : c0 = 43
  · subst h43
    simp
  by_cases h40 : c0 = 40
  · subst h40
    simp
  by_cases h41 : c0 = 41
  · subst h41
    simp
  by_cases h46 : c0 = 46
  · subst h46
    simp
  by_cases h123 : c0 = 123
  · subst h123
    by_cases a58 : c1 = 58 <;> by_cases a124 : c1 = 124 <;> by_cases a126 : c1 = 126 <;> simp_all
  by_cases h58 : c0 = 58
  · subst h58
    by_cases a125 : c1 = 125 <;> simp_all
  by_cases h124 : c0 = 124
  · subst h124
    by_cases a125 : c1 = 125 <;> simp_all
  by_cases h126 : c0 = 126
  · subst h126
    by_cases a125 : c1 = 125 <;> simp_all
  by_cases h125 : c0 = 125
  · subst h125
    simp
  simp [*]
theorem sgC_len (c0 c1 : Int) : (sgC c0 c1).1 = 0 ∨ (sgC c0 c1).2.length = 1 ∨ (sgC c0 c1).2.length = 2 := by
  have h : ∀ l : List (Int × List UInt8), (∀ p ∈ l, p.2.length = 1 ∨ p.2.length = 2) → (sgGC c0 c1 l).1 = 0 ∨ (sgGC c0 c1 l).2.length = 1 ∨ (sgGC c0 c1 l).2.length = 2 := by
    intro l
    induction l with
    | nil => intro _; exact .inl rfl
    | cons p l ih =>
      intro h
      rw [sgGC]
      split
      · exact .inr (h p (List.mem_cons_self ..))
      · exact ih (fun q hq => h q (List.mem_cons_of_mem _ hq))
  rw [← sgGC_C]
  exact h sgTab (by decide)
theorem sg21 {c0 c1 : Int} (h : (sgC c0 c1).1 = 21) : (sgC c0 c1).2.length = 2 := by
  have key : ∀ l : List (Int × List UInt8), (∀ p ∈ l, p.1 = 21 → p.2.length = 2) → (sgGC c0 c1 l).1 = 21 → (sgGC c0 c1 l).2.length = 2 := by
    intro l
    induction l with
    | nil => intro _ q; cases q
    | cons p l ih =>
      intro h
      rw [sgGC]
      split
      · exact h p (List.mem_cons_self ..)
      · exact ih (fun q hq => h q (List.mem_cons_of_mem _ hq))
  rw [← sgGC_C] at h ⊢
  exact key sgTab (by decide) h
theorem grp_move {s s' : ByteArray} {b b' d d' m : Nat} {t : Tk} (_hd : d ≤ s.size) (h : grpP s b d = .inl t) (he : t.en = (d + m : Nat)) (ha : Ag s d s' d' m) (hf : Fol s (d + m) s' (d' + m)) : grpP s' b' d' = .inl { t with fr := b', en := (d' + m : Nat) } := by
  unfold grpP at h ⊢
  have hsp := spN_ge nmB s (by decide) d
  split at h
  · next q1 =>
    split at h
    · cases h
    next q2 =>
    split at h
    · next q3 =>
      cases h
      dsimp only at he
      have hlt := chr_lt (s := s) (i := spN nmB s d) (by omega)
      have hm : spN nmB s d + 1 = d + m := by omega
      have hm2 : spN nmB s d = d + (m - 1) := by omega
      have h58 : chr s' (d' + (m - 1)) = 58 := by rw [ha (m - 1) (by omega), ← hm2]; exact q3
      have h1 : spN nmB s' d' = d' + (m - 1) := run_move (P := nmB) (by decide) (fun k hk => ha k (by omega)) hm2 (by rw [h58]; rfl)
      have hnx := (spN_next (P := nmB) (s := s) (i := d) (by decide) (by unfold nmB; rw [q1]; rfl)).2
      have hnx2 := spN_ge nmB s (by decide) (d + 1)
      have h0 := ha 0 (by omega)
      rw [Nat.add_zero, Nat.add_zero] at h0
      have htx : s'.extract d' (d' + (m - 1)) = s.extract d (d + (m - 1)) := text_same (fun k hk => ha k (by omega)) (by omega) (by have := ha.in (by omega) (by omega); omega)
      rw [h0, if_pos q1, h1, show d' + (m - 1) - d' = spN nmB s d - d from by omega, if_neg q2, h58, if_pos rfl, htx, ← hm2, show d' + (m - 1) + 1 = d' + m from by omega]
    · next q3 =>
      cases h
      dsimp only at he
      obtain rfl : m = 0 := by omega
      rw [Nat.add_zero, Nat.add_zero] at hf
      rcases hf with hf | ⟨e0, hr⟩
      · rw [if_neg (by rw [(dg_nm (stop_facts hf).1).2]; decide)]; rfl
      · obtain ⟨r, r1, r2, r3⟩ := hr q1
        rw [e0, if_pos q1, r2, show d' + r - d' = spN nmB s d - d from by omega, if_neg q2, if_neg (fun q => q3 (by rw [r1]; exact r3 q))]
        rfl
  · next q1 =>
    cases h
    dsimp only at he
    obtain rfl : m = 0 := by omega
    rw [Nat.add_zero, Nat.add_zero] at hf
    rcases hf with hf | ⟨e0, hr⟩
    · rw [if_neg (by rw [(dg_nm (stop_facts hf).1).2]; decide)]; rfl
    · rw [e0, if_neg q1]; rfl
theorem sig_move {s s' : ByteArray} {b b' m : Nat} {t : Tk} (hb : b ≤ s.size) (h : sigP s b = .inl t) (he : t.en = (b + m : Nat)) (ha : Ag s b s' b' m) (hf : Fol s (b + m) s' (b' + m)) : sigP s' b' = .inl (mvT t b' m) ∧ (sgAt s' b').1 = (sgAt s b).1 := by
  have hlen := sgAt_len s b hb
  have hpos := sgAt_pos s b
  have h12 := sgC_len (chr s b) (chr s (b + 1))
  rw [← sgAt_C] at h12
  have key : 2 ≤ m → sgAt s' b' = sgAt s b := fun q => by
    have h0 := ha 0 (by omega)
    rw [Nat.add_zero, Nat.add_zero] at h0
    rw [sgAt_C, sgAt_C, h0, ha 1 (by omega)]
  unfold sigP at h
  split at h
  · cases h
  next q0 =>
  split at h
  · next q1 =>
    obtain ⟨e, a1, a2, a3⟩ := nmR_en hlen h
    have hsp : spN dgB s (b + (sgAt s b).2.length) = b + m := by
      unfold nmR at h
      cases hn : numR s (b + (sgAt s b).2.length) (gtK (sgAt s b).1) with
      | inr e => rw [hn] at h; cases h
      | inl n => rw [hn] at h; cases h; dsimp only at he; omega
    have hk := key (by omega)
    refine ⟨?_, by rw [hk]⟩
    unfold sigP
    rw [hk, if_neg q0, if_pos q1]
    have hst := (spN_spec dgB s (by decide) _ (b + (sgAt s b).2.length) rfl).2.2.1
    rw [hsp] at hst
    have := nm_move (b' := b') (d' := b' + (sgAt s b).2.length) (m := m - (sgAt s b).2.length) h (by omega) (ha.sub _ (by omega)) (by
      rw [show b' + (sgAt s b).2.length + (m - (sgAt s b).2.length) = b' + m from by omega]; exact hf.dg hst)
    rw [this, show b' + (sgAt s b).2.length + (m - (sgAt s b).2.length) = b' + m from by omega]
    rfl
  next q1 =>
  split at h
  · next q2 =>
    have hl2 : (sgAt s b).2.length = 2 := by rw [sgAt_C] at q2 ⊢; exact sg21 q2
    obtain ⟨e, a1, a2, a3⟩ := grpP_en hlen h
    have hk := key (by omega)
    refine ⟨?_, by rw [hk]⟩
    unfold sigP
    rw [hk, if_neg q0, if_neg q1, if_pos q2]
    have := grp_move (b' := b') (d' := b' + (sgAt s b).2.length) (m := m - (sgAt s b).2.length) hlen h (by rw [he]; omega) (ha.sub _ (by omega)) (by
      rw [show b + (sgAt s b).2.length + (m - (sgAt s b).2.length) = b + m from by omega, show b' + (sgAt s b).2.length + (m - (sgAt s b).2.length) = b' + m from by omega]; exact hf)
    rw [this, show b' + (sgAt s b).2.length + (m - (sgAt s b).2.length) = b' + m from by omega]
    rfl
  · next q2 =>
    cases h
    dsimp only at he
    have hm : m = (sgAt s b).2.length := by omega
    have hk : sgAt s' b' = sgAt s b := by
      rcases h12 with h12 | h12 | h12
      · exact absurd h12 q0
      · have hm1 : m = 1 := by omega
        subst hm1
        have h0 := ha 0 (by omega)
        rw [Nat.add_zero, Nat.add_zero] at h0
        rw [sgAt_C, sgAt_C, h0]
        refine sg_one (by rw [← sgAt_C]; exact h12) (by rw [← sgAt_C]; omega) ?_
        rcases hf with hf | ⟨e0, _⟩
        · have := stop_facts hf; exact .inr ⟨this.2.1, this.2.2.2.1, this.2.2.2.2⟩
        · exact .inl e0
      · exact key (by omega)
    refine ⟨?_, by rw [hk]⟩
    unfold sigP
    rw [hk, if_neg q0, if_neg q1, if_neg q2, ← hm]
    rfl
theorem read_move {s s' : ByteArray} {b b' n : Nat} {x : BitVec 256} (h : rdRead s b = .inl (x, n)) (ha : Ag s b s' b' (n - b)) : rdRead s' b' = .inl (x, b' + (n - b)) := by
  have hgt := rdRead_gt h
  have hok := rdRead_ok h
  have hin := ha.in (by omega) (by omega)
  unfold rdRead at h ⊢
  rw [Int.toNat_natCast] at h ⊢
  split at h
  · cases h
  split at h
  · next q1 =>
    have h0 := ha 0 (by omega)
    rw [Nat.add_zero, Nat.add_zero] at h0
    rw [if_neg (by omega), h0, if_pos q1]
    split at h
    · next q2 =>
      cases hm : rdMembers s (s.size + 1) 0#256 (b + 2) with
      | inr p => obtain ⟨a, c⟩ := p; rw [hm] at h; cases h
      | inl p =>
        obtain ⟨y, k⟩ := p
        rw [hm] at h
        cases h
        have hb := rdMembers_ok hm
        rw [ha 1 (by omega), if_pos q2]
        have := members_move s s' _ (s'.size + 1) _ _ _ (b' + 2) (k + 1 - b - 2) _ hm (ha.sub 2 (by omega)) (by omega) (by omega)
        rw [this, rdTurn, show b' + 2 + (k - (b + 2)) + 1 = b' + (k + 1 - b) from by omega]
    · next q2 =>
      cases hm : rdMembers s (s.size + 1) 0#256 (b + 1) with
      | inr p => obtain ⟨a, c⟩ := p; rw [hm] at h; cases h
      | inl p =>
        obtain ⟨y, k⟩ := p
        rw [hm] at h
        cases h
        have hb := rdMembers_ok hm
        rw [ha 1 (by omega), if_neg q2]
        have := members_move s s' _ (s'.size + 1) _ _ _ (b' + 1) (k + 1 - b - 1) _ hm (ha.sub 1 (by omega)) (by omega) (by omega)
        rw [this, rdEnd, show b' + 1 + (k - (b + 1)) + 1 = b' + (k + 1 - b) from by omega]
  · cases h
theorem pct_move {s s' : ByteArray} {b b' m : Nat} {t : Tk} (hb : b ≤ s.size) (h37 : chr s b = 37) (h : pctP s b = .inl t) (he : t.en = (b + m : Nat)) (ha : Ag s b s' b' m) (hf : Fol s (b + m) s' (b' + m)) : pctP s' b' = .inl (mvT t b' m) := by
  have hen := pctP_en hb h
  obtain ⟨e, x1, x2, x3⟩ := hen
  have h0 := ha 0 (by omega)
  rw [Nat.add_zero, Nat.add_zero] at h0
  unfold pctP at h
  split at h
  · next q1 =>
    have hl : b + 3 ≤ s.size := pfx_len hb q1
    have hm := ptsP_en hl h
    have := pts_move hl h he ha
    have hp : pfx s' b' [37, 117, 123] = true := by
      obtain ⟨e2, y1, y2, y3⟩ := hm
      have h3 : 3 ≤ m := by
        have hmm := this
        unfold ptsP at h
        split at h
        · cases h
        have hpt := ptP_le hl
        split at h
        · next h45 =>
          have h2 := chr_lt (s := s) (i := (ptP s (b + 3)).2.1) (by omega)
          have h3 := ptP_le (s := s) (a := (ptP s (b + 3)).2.1 + 1) (by omega)
          split at h
          · cases h
          split at h
          · cases h; dsimp only at he; omega
          · cases h
        · split at h
          · cases h; dsimp only at he; omega
          · cases h
      have e0 : pfx s' b' [37, 117, 123] = pfx s b [37, 117, 123] := by
        show (chr s' b' == 37 && (chr s' (b' + 1) == 117 && (chr s' (b' + 1 + 1) == 123 && true))) = (chr s b == 37 && (chr s (b + 1) == 117 && (chr s (b + 1 + 1) == 123 && true)))
        rw [h0, ha 1 (by omega), show b' + 1 + 1 = b' + 2 from rfl, ha 2 (by omega)]
      rw [e0]; exact q1
    unfold pctP
    rw [if_pos hp]
    exact this
  next q1 =>
  have hq : ∀ m2, m2 = m → 2 ≤ m2 → (m2 = 2 ∨ chr s (b + 1) ≠ 117) → pfx s' b' [37, 117, 123] = false := fun m2 em h2 hor => by
    subst em
    have q1 : pfx s b [37, 117, 123] = false := by cases hh : pfx s b [37, 117, 123]; rfl; exact absurd hh q1
    show (chr s' b' == 37 && (chr s' (b' + 1) == 117 && (chr s' (b' + 1 + 1) == 123 && true))) = false
    have q1 : (chr s b == 37 && (chr s (b + 1) == 117 && (chr s (b + 1 + 1) == 123 && true))) = false := q1
    rw [h0, h37, ha 1 (by omega)]
    rw [h37] at q1
    by_cases u : chr s (b + 1) = 117
    · rw [u] at q1 ⊢
      have c1 : ¬ chr s (b + 2) = 123 := by simpa using q1
      have c2 : ¬ chr s' (b' + 2) = 123 := by
        rcases hor with hor | hor
        · subst hor
          rcases hf with hf | ⟨e0, _⟩
          · exact (stop_facts hf).2.2.1
          · rw [e0]; exact c1
        · exact absurd u hor
      simpa using c2
    · rw [beq_eq_false_iff_ne.2 u]; simp
  split at h
  · next q2 =>
    have hs2 := sig_move hb h he ha hf
    have h2 : (sgAt s b).2.length = 2 ∧ chr s (b + 1) ≠ 117 := by
      rw [sgAt_C, h37] at q2 ⊢
      unfold sgC at q2 ⊢
      rw [if_pos rfl] at q2 ⊢
      by_cases u1 : chr s (b + 1) = 101
      · rw [if_pos u1]; exact ⟨rfl, by omega⟩
      · rw [if_neg u1] at q2 ⊢
        by_cases u2 : chr s (b + 1) = 102
        · rw [if_pos u2]; exact ⟨rfl, by omega⟩
        · rw [if_neg u2] at q2; exact absurd rfl q2
    have hm2 : 2 ≤ m := by
      have hl := sgAt_len s b hb
      have hsg := sigP_en hb h
      unfold sigP at h
      split at h
      · cases h
      split at h
      · obtain ⟨e, a1, a2, a3⟩ := nmR_en hl h; omega
      split at h
      · obtain ⟨e, a1, a2, a3⟩ := grpP_en hl h; omega
      · cases h; dsimp only at he; omega
    unfold pctP
    rw [if_neg (by rw [hq m rfl hm2 (.inr h2.2)]; decide), if_pos (by rw [hs2.2]; exact q2)]
    exact hs2.1
  next q2 =>
  split at h
  · next q3 =>
    cases h
    dsimp only at he
    have hm2 : m = 2 := by omega
    subst hm2
    have hin := ha.in (by omega) (by omega)
    have e1 := ha 1 (by omega)
    have hsg : sgAt s' b' = sgAt s b := by rw [sgAt_C, sgAt_C, h0, e1]
    have htx : s'.extract (b' + 1) (b' + 2) = s.extract (b + 1) (b + 2) := text_same (m := 1) (ha.sub 1 (by omega)) (by omega) (by omega)
    unfold pctP
    rw [if_neg (by rw [hq 2 rfl (by omega) (.inl rfl)]; decide), hsg, if_neg q2, e1, if_pos ⟨by omega, q3.2⟩, htx]
    rfl
  · cases h
theorem tok_move {s s' : ByteArray} {b b' m : Nat} {t : Tk} (hb : b < s.size) (h : oneP s b = .inl t) (he : t.en = (b + m : Nat)) (ha : Ag s b s' b' m) (hf : Fol s (b + m) s' (b' + m)) : oneP s' b' = .inl (mvT t b' m) := by
  obtain ⟨e, x1, x2, x3⟩ := oneP_en s b t hb h
  have h1 : 1 ≤ m := by omega
  have hin := ha.in h1 (by omega)
  have h0 := ha 0 (by omega)
  rw [Nat.add_zero, Nat.add_zero] at h0
  unfold oneP at h ⊢
  rw [h0]
  split at h
  · next q =>
    rw [if_pos q]
    have hm : spN nmB s b = b + m := by
      unfold nameR at h
      split at h
      · cases h
      · cases h; dsimp only at he; omega
    have hst := (spN_spec nmB s (by decide) _ b rfl).2.2.1
    rw [hm] at hst
    exact name_move h hm h1 (by omega) ha (hf.nm hst)
  next q0 =>
  rw [if_neg q0]
  split at h
  · next q =>
    rw [if_pos q]
    have hm : spN dgB s b = b + m := by
      unfold nmR at h
      cases hn : numR s b (gtK 4) with
      | inr e => rw [hn] at h; cases h
      | inl n => rw [hn] at h; cases h; dsimp only at he; omega
    have hst := (spN_spec dgB s (by decide) _ b rfl).2.2.1
    rw [hm] at hst
    exact nm_move h hm ha (hf.dg hst)
  next q1 =>
  rw [if_neg q1]
  split at h
  · next q =>
    rw [if_pos q]
    unfold litR at h ⊢
    rw [h0]
    have hge := litGo_en s _ b (by omega) _ _ _ _ h
    obtain ⟨e2, y1, y2, y3⟩ := hge
    have := lit_move s s' (chr s b) b b' (by omega) _ (s'.size + 1) [] (b + 1) (b' + 1) (m - 1) t (b + m) h he (by omega) (ha.sub 1 (by omega)) (by omega)
    rw [this, show b' + 1 + (m - 1) = b' + m from by omega]
    rfl
  next q2 =>
  rw [if_neg q2]
  split at h
  · next q =>
    rw [if_pos q]
    cases hr : rdRead s b with
    | inr p =>
      rw [hr, clT] at h
      split at h <;> cases h
    | inl p =>
      obtain ⟨x, n⟩ := p
      rw [hr] at h
      cases h
      dsimp only at he
      have hn : n - b = m := by omega
      rw [read_move hr (by rw [hn]; exact ha), hn]
      rfl
  next q3 =>
  rw [if_neg q3]
  split at h
  · next q => rw [if_pos q]; exact pct_move (by omega) q h he ha hf
  · next q => rw [if_neg q]; exact (sig_move (by omega) h he ha hf).1
end Go.Proofs.YtnpifgcgjgddoaaDoor

namespace Go.Proofs.YtnpifgcgjgddoaaDoor
open Go.RowKit
theorem tok_minus {s : ByteArray} {b m : Nat} {t : Tk} (h45 : chr s b = 45) (h : oneP s b = .inl t) (he : t.en = (b + m : Nat)) : m = 2 := by
  unfold oneP at h
  rw [h45, if_neg (by decide), if_neg (by decide), if_neg (by decide), if_neg (by decide), if_neg (by decide)] at h
  unfold sigP at h
  rw [sgAt_C, h45] at h
  have e : sgC 45 (chr s (b + 1)) = if chr s (b + 1) = 62 then (27, [45, 62]) else (0, []) := by
    unfold sgC
    rw [if_neg (by decide), if_neg (by decide), if_neg (by decide), if_pos rfl]
  rw [e] at h
  by_cases q : chr s (b + 1) = 62
  · rw [if_pos q] at h
    simp at h
    cases h
    dsimp only at he
    omega
  · rw [if_neg q] at h
    simp at h
/-- A token's place in another text is no blank, and begins no comment. -/
theorem start_move {s s' : ByteArray} {b b' m : Nat} {t : Tk} (hb : b < s.size) (hnb : ¬ (chr s b = 9 ∨ chr s b = 10 ∨ chr s b = 13 ∨ chr s b = 32)) (hnn : ¬ (chr s b = 45 ∧ chr s (b + 1) = 45)) (h : oneP s b = .inl t) (he : t.en = (b + m : Nat)) (ha : Ag s b s' b' m) : gapN s' b' = b' ∧ b' < s'.size := by
  obtain ⟨e, x1, x2, x3⟩ := oneP_en s b t hb h
  have hin := ha.in (by omega) (by omega)
  have h0 := ha 0 (by omega)
  rw [Nat.add_zero, Nat.add_zero] at h0
  refine ⟨?_, by omega⟩
  rw [gapN_unf, if_pos (by omega), if_neg (fun q => ?_), if_neg (by rw [h0]; exact hnb)]
  have h45 : chr s b = 45 := by rw [← h0]; exact q.1
  have hm := tok_minus h45 h he
  exact hnn ⟨h45, by rw [← ha 1 (by omega)]; exact q.2⟩
end Go.Proofs.YtnpifgcgjgddoaaDoor

namespace Go.Proofs.YtnpifgcgjgddoaaDoor
open Go.RowKit
theorem hex_hexD : ∀ d : Fin 16, hexV ((hexD d.val).toNat : Int) = (d.val : Int) ∧ hxB ((hexD d.val).toNat : Int) = true ∧ (d.val < 10 → dgB ((hexD d.val).toNat : Int) = true) ∧ (((hexD d.val).toNat : Int) = 48 → d.val = 0) := by decide
/-- All are digits; the first one of several is not 0. -/
theorem dgT_dig (b : Nat) (hb : 2 ≤ b) (hb2 : b ≤ 16) (n : Nat) : ∀ x ∈ dgT b n, ∃ d, d < b ∧ x = hexD d := by
  induction n using Nat.strongRecOn with
  | _ n ih =>
    intro x hx
    by_cases h : n < b
    · rw [dgT_lo h] at hx
      exact ⟨n, h, by simpa using hx⟩
    · rw [dgT_hi hb h] at hx
      rcases List.mem_append.1 hx with h1 | h1
      · exact ih (n / b) (div_less hb h) x h1
      · exact ⟨n % b, Nat.mod_lt _ (by omega), by simpa using h1⟩
theorem dgT_first (b : Nat) (hb : 2 ≤ b) (n : Nat) (hn : 0 < n) : ∃ d r, 0 < d ∧ d < b ∧ dgT b n = hexD d :: r := by
  induction n using Nat.strongRecOn with
  | _ n ih =>
    by_cases h : n < b
    · exact ⟨n, [], hn, h, dgT_lo h⟩
    · have h1 : 0 < n / b := Nat.div_pos (by omega) (by omega)
      obtain ⟨d, r, h2, h3, h4⟩ := ih (n / b) (div_less hb h) h1
      exact ⟨d, r ++ [hexD (n % b)], h2, h3, by rw [dgT_hi hb h, h4]; rfl⟩
theorem chL_in {l : List UInt8} {i : Nat} {x : UInt8} (h : l[i]? = some x) : chL l i = (x.toNat : Int) := by unfold chL; rw [h]
theorem chL_out {l : List UInt8} {i : Nat} (h : l.length ≤ i) : chL l i = -1 := by unfold chL; rw [List.getElem?_eq_none h]
theorem chL_left (p q : List UInt8) (i : Nat) (h : i < p.length) : chL (p ++ q) i = chL p i := by unfold chL; rw [List.getElem?_append_left h]
theorem dgT_at (b : Nat) (hb : 2 ≤ b) (hb2 : b ≤ 16) (n i : Nat) (h : i < (dgT b n).length) : ∃ d, d < b ∧ chL (dgT b n) i = ((hexD d).toNat : Int) := by
  obtain ⟨d, h1, h2⟩ := dgT_dig b hb hb2 n (dgT b n)[i] (List.getElem_mem h)
  exact ⟨d, h1, by rw [chL_in (List.getElem?_eq_getElem h), h2]⟩
theorem wthR_text (b : Nat) (hb : 2 ≤ b) (hb2 : b ≤ 16) (n : Nat) : ∀ q : List UInt8, wthR (tx8 (dgT b n ++ q)) 0 (b : Int) (dgT b n).length = (n : Int) := by
  induction n using Nat.strongRecOn with
  | _ n ih =>
    intro q
    by_cases h : n < b
    · rw [dgT_lo h]
      have e : chr (tx8 ([hexD n] ++ q)) 0 = ((hexD n).toNat : Int) := by rw [chr_tx]; rfl
      show (0 : Int) * b + hexV (chr (tx8 ([hexD n] ++ q)) 0) = n
      rw [e, (hex_hexD ⟨n, by omega⟩).1]
      show (0 : Int) * b + (n : Int) = n
      rw [Int.zero_mul, Int.zero_add]
    · have hd := dgT_hi hb h
      have h2 := ih (n / b) (div_less hb h) ([hexD (n % b)] ++ q)
      have hm : n % b < b := Nat.mod_lt _ (by omega)
      rw [hd, List.append_assoc, List.length_append, List.length_singleton]
      show wthR _ 0 (b : Int) (dgT b (n / b)).length * b + hexV (chr _ (0 + (dgT b (n / b)).length)) = n
      rw [h2, Nat.zero_add, at0]
      have e : chL ([hexD (n % b)] ++ q) 0 = ((hexD (n % b)).toNat : Int) := rfl
      rw [e, (hex_hexD ⟨n % b, by omega⟩).1]
      show ((n / b : Nat) : Int) * (b : Int) + ((n % b : Nat) : Int) = n
      have h3 := Nat.div_add_mod n b
      have h4 : ((b * (n / b) + n % b : Nat) : Int) = (n : Int) := by rw [h3]
      rw [Int.natCast_add, Int.natCast_mul, Int.mul_comm] at h4
      exact h4
/-- Digits, wherever they stand: a run of them, and its worth. -/
theorem ag_tx (p l q : List UInt8) : Ag (tx8 l) 0 (tx8 (p ++ l ++ q)) p.length l.length := fun k hk => by
  rw [Nat.zero_add, chr_tx, chr_tx, List.append_assoc, chL_app, chL_left _ _ _ hk]
theorem run10 (n : Nat) : spN dgB (tx8 (dgT 10 n)) 0 = 0 + (dgT 10 n).length := by
  refine spN_eq (by decide) (by omega) (fun k _ hk => ?_) ?_
  · obtain ⟨d, h1, h2⟩ := dgT_at 10 (by omega) (by omega) n k (by omega)
    rw [chr_tx, h2]
    exact (hex_hexD ⟨d, by omega⟩).2.2.1 h1
  · rw [chr_tx, chL_out (by omega)]; decide
theorem run16 (n : Nat) : spN hxB (tx8 (dgT 16 n)) 0 = 0 + (dgT 16 n).length := by
  refine spN_eq (by decide) (by omega) (fun k _ hk => ?_) ?_
  · obtain ⟨d, h1, h2⟩ := dgT_at 16 (by omega) (by omega) n k (by omega)
    rw [chr_tx, h2]
    exact (hex_hexD ⟨d, by omega⟩).2.1
  · rw [chr_tx, chL_out (by omega)]; decide
theorem num10 (n : Nat) (most : Int) (h1 : n ≤ 999999) (h2 : (n : Int) ≤ most) : numR (tx8 (dgT 10 n)) 0 most = .inl (n : Int) := by
  have hr := run10 n
  have hl := dgT_len 10 (by omega) 5 n (by omega)
  have hne := dgT_ne 10 n (by omega)
  have hw : wthR (tx8 (dgT 10 n)) 0 10 (dgT 10 n).length = (n : Int) := by
    have h := wthR_text 10 (by omega) (by omega) n []
    rw [List.append_nil] at h
    exact h
  have hpos : 0 < (dgT 10 n).length := by
    cases hd : dgT 10 n with
    | nil => exact absurd hd hne
    | cons a b => simp
  unfold numR
  rw [hr, Nat.zero_add, Nat.sub_zero, if_neg, if_neg, hw]
  · rw [hw]; omega
  · rintro (q | ⟨q1, q2⟩)
    · omega
    · by_cases h0 : 0 < n
      · obtain ⟨d, r, d1, d2, d3⟩ := dgT_first 10 (by omega) n h0
        rw [chr_tx, d3] at q2
        have := (hex_hexD ⟨d, by omega⟩).2.2.2 q2
        simp only at this
        omega
      · obtain rfl : n = 0 := by omega
        rw [dgT_lo (by omega)] at q1
        simp at q1
/-- A place at which a token begins. -/
structure Beg (s : ByteArray) : Prop where
  b : ¬ (chr s 0 = 9 ∨ chr s 0 = 10 ∨ chr s 0 = 13 ∨ chr s 0 = 32)
  c : ¬ (chr s 0 = 45 ∧ chr s 1 = 45)
theorem Beg.of {s : ByteArray} {c : Int} (h : chr s 0 = c) (h1 : ¬ (c = 9 ∨ c = 10 ∨ c = 13 ∨ c = 32 ∨ c = 45)) : Beg s := ⟨by rw [h]; omega, by rw [h]; omega⟩
/-- A text that is one token. -/
structure Aln (s : ByteArray) (kd nn : Int) (tx : ByteArray) (s0 s1 s2 s3 : Int) : Prop where
  p : 0 < s.size
  o : oneP s 0 = .inl ⟨kd, nn, 0, (s.size : Nat), tx, s0, s1, s2, s3⟩
  b : Beg s
theorem al_name {s : ByteArray} (h : isNm s = true) : Aln s 1 0 s 0 0 0 0 := by
  unfold isNm at h
  simp only [Bool.and_eq_true, decide_eq_true_eq, beq_iff_eq] at h
  obtain ⟨⟨⟨h1, h2⟩, h3⟩, h4⟩ := h
  refine ⟨h1, ?_, ?_⟩
  · unfold oneP
    rw [if_pos h3]
    unfold nameR
    rw [h4, Nat.sub_zero, if_neg (by omega)]
    congr 2
    apply ByteArray.ext
    simp []
  · refine Beg.of rfl ?_
    unfold hdB at h3
    simp only [Bool.or_eq_true, Bool.and_eq_true, decide_eq_true_eq, beq_iff_eq] at h3
    omega
theorem al_num (n : Nat) (h : n ≤ 999999) : Aln (tx8 (dgT 10 n)) 4 n ⟨#[]⟩ 0 0 0 0 := by
  have hne := dgT_ne 10 n (by omega)
  have hpos : 0 < (dgT 10 n).length := by
    cases hd : dgT 10 n with
    | nil => exact absurd hd hne
    | cons a b => simp
  obtain ⟨d, h1, h2⟩ := dgT_at 10 (by omega) (by omega) n 0 hpos
  have h3 := (hex_hexD ⟨d, by omega⟩).2.2.1 h1
  dsimp only at h3
  rw [← h2, ← chr_tx] at h3
  have hc : 48 ≤ chr (tx8 (dgT 10 n)) 0 ∧ chr (tx8 (dgT 10 n)) 0 ≤ 57 := by
    unfold dgB at h3
    simpa using h3
  refine ⟨hpos, ?_, Beg.of rfl (by omega)⟩
  have hh : hdB (chr (tx8 (dgT 10 n)) 0) = false := by
    unfold hdB
    simp only [Bool.or_eq_false_iff, Bool.and_eq_false_iff, decide_eq_false_iff_not, beq_eq_false_iff_ne]
    omega
  unfold oneP
  rw [if_neg (by rw [hh]; decide), if_pos h3]
  unfold nmR
  rw [show gtK 4 = 999999 from rfl, num10 n 999999 h (by omega), run10 n, Nat.zero_add]
  rfl
end Go.Proofs.YtnpifgcgjgddoaaDoor

namespace Go.Proofs.YtnpifgcgjgddoaaDoor.Q
open Go.RowKit
/-- The byte of a list at a place, or -1. -/
def lch (l : List Int) (i : Nat) : Int := (l[i]?).getD (-1)
theorem chr_text {l : List Int} (h : By l) (i : Nat) : chr (asText l) i = lch l i := by
  by_cases hi : i < (asText l).size
  · rw [chr_in hi]
    have hl : i < l.length := by rwa [asText_size] at hi
    unfold lch
    rw [List.getElem?_eq_getElem hl]
    have hb := h l[i] (List.getElem_mem hl)
    have he : (asText l)[i] = UInt8.ofNat l[i].toNat := by
      have h2 := asText_data l
      have : (asText l).data.toList[i]'(by simpa using hi) = (asText l)[i] := rfl
      rw [← this]
      simp [h2]
    rw [he]
    show ((UInt8.ofNat l[i].toNat).toNat : Int) = l[i]
    rw [UInt8.toNat_ofNat', Nat.mod_eq_of_lt (by omega)]
    omega
  · rw [chr_out hi]
    unfold lch
    rw [List.getElem?_eq_none (by rw [asText_size] at hi; omega)]
    rfl

/-- One byte's piece alone, read. -/
theorem piece_reads : ∀ b : Fin 256, rdByte (asText (shB (b.val : Int))) 0 = .inl ((b.val : Int), (shB (b.val : Int)).length) ∧ chr (asText (shB (b.val : Int))) 0 ≠ 39 := by
  have key : ∀ b : Fin 256, (match rdByte (asText (shB (b.val : Int))) 0 with | .inl (x, n) => decide (x = (b.val : Int)) && decide (n = (shB (b.val : Int)).length) | .inr (_, _) => false) = true ∧ decide (chr (asText (shB (b.val : Int))) 0 ≠ 39) = true := by decide +kernel
  intro b
  obtain ⟨h1, h2⟩ := key b
  refine ⟨?_, of_decide_eq_true h2⟩
  split at h1
  · next x n hx =>
    rw [hx]
    simp only [Bool.and_eq_true, decide_eq_true_eq] at h1
    rw [h1.1, h1.2]
  · cases h1

theorem lch_mid (a p c : List Int) (i : Nat) (h : i < p.length) : lch (a ++ p ++ c) (a.length + i) = lch p i := by
  unfold lch
  rw [List.append_assoc, List.getElem?_append_right (by omega), show a.length + i - a.length = i from by omega, List.getElem?_append_left h]
theorem lch_end (a : List Int) (x : Int) : lch (a ++ [x]) a.length = x := by
  unfold lch
  rw [List.getElem?_append_right (Nat.le_refl _), Nat.sub_self]
  rfl

theorem rdHex_move {s s' : ByteArray} {d n : Nat} {b : Int} (h : rdHex s 0 = some (b, n)) (hc : ∀ k, k < n → chr s' (d + k) = chr s k) : rdHex s' d = some (b, d + n) := by
  unfold rdHex at h ⊢
  split at h
  · next q =>
    cases h
    rw [Nat.zero_add] at hc
    rw [Nat.zero_add, Nat.zero_add] at *
    rw [hc 2 (by omega), hc 3 (by omega), if_pos q]
  · cases h
theorem rdEsc_move {s s' : ByteArray} {d n : Nat} {b : Int} (h : rdEsc s 0 = some (b, n)) (hc : ∀ k, k < n → chr s' (d + k) = chr s k) : rdEsc s' d = some (b, d + n) := by
  have hn : 1 < n := by
    unfold rdEsc rdHex at h
    repeat' split at h
    all_goals first | (cases h; omega) | cases h
  have h1 := hc 1 (by omega)
  unfold rdEsc at h ⊢
  rw [Nat.zero_add] at h
  rw [h1]
  split at h
  · next q => cases h; rw [if_pos q]
  · next q1 =>
    rw [if_neg q1]
    split at h
    · next q => cases h; rw [if_pos q]
    · next q2 =>
      rw [if_neg q2]
      split at h
      · next q => cases h; rw [if_pos q]
      · next q3 =>
        rw [if_neg q3]
        split at h
        · next q => cases h; rw [if_pos q]
        · next q4 =>
          rw [if_neg q4]
          split at h
          · next q => rw [if_pos q]; exact rdHex_move h hc
          · cases h
theorem rdByte_unshift {s s' : ByteArray} {d n : Nat} {b : Int} (h : rdByte s 0 = .inl (b, n)) (hc : ∀ k, k < n → chr s' (d + k) = chr s k) : rdByte s' d = .inl (b, d + n) := by
  have hn := rdByte_bd h
  have h1 := hc 0 (by omega)
  rw [Nat.add_zero] at h1
  unfold rdByte at h ⊢
  rw [h1]
  split at h
  · next q =>
    rw [if_pos q]
    split at h
    · cases h
    · next p hp => cases h; rw [rdEsc_move hp hc]
  · next q =>
    rw [if_neg q]
    split at h
    · cases h
    · next q2 => cases h; rw [if_neg q2]

/-- From a place on, behind what was read, the pieces of the rest and a mark. -/
theorem body_reads (L : List Int) (hL : By L) (rest : List Int) (hr : By rest) (a : List Int) (l : List Int) (hE : L = a ++ rest.flatMap shB ++ [39]) (f : Nat) (hf : L.length + 1 ≤ f + a.length) :
    rdBody (asText L) 39 f a.length l = .inl (l ++ rest, L.length) := by
  induction rest generalizing a l f with
  | nil =>
    obtain ⟨g, rfl⟩ : ∃ g, f = g + 1 := ⟨f - 1, by rw [hE] at hf; simp at hf; omega⟩
    have h39 : chr (asText L) a.length = 39 := by
      rw [chr_text hL, hE]; simp only [List.flatMap_nil, List.append_nil]; exact lch_end a 39
    rw [rdBody_end h39, List.append_nil]
    have : L.length = a.length + 1 := by rw [hE]; simp
    rw [this]
  | cons b rest ih =>
    obtain ⟨g, rfl⟩ : ∃ g, f = g + 1 := ⟨f - 1, by rw [hE] at hf; simp at hf; omega⟩
    have hb := hr b (List.mem_cons_self ..)
    have hlen := shB_len b
    have hE2 : L = a ++ shB b ++ (rest.flatMap shB ++ [39]) := by rw [hE, List.flatMap_cons]; simp
    obtain ⟨p1, p2⟩ := piece_reads ⟨b.toNat, by omega⟩
    rw [show (((⟨b.toNat, by omega⟩ : Fin 256).val : Nat) : Int) = b from by show ((b.toNat : Nat) : Int) = b; omega] at p1 p2
    have hcp : ∀ i, i < (shB b).length → chr (asText L) (a.length + i) = chr (asText (shB b)) i := fun i hi => by
      rw [chr_text hL, chr_text (shB_by hb.1 hb.2), hE2]; exact lch_mid a (shB b) _ i hi
    have hsz : (asText L).size = L.length := asText_size L
    have hL2 : L.length = a.length + (shB b).length + (rest.flatMap shB ++ [39]).length := by rw [hE2]; simp; omega
    have hlt : a.length < (asText L).size := by omega
    have hne : chr (asText L) a.length ≠ 39 := by have := hcp 0 (by omega); rw [Nat.add_zero] at this; rw [this]; exact p2
    have hby : rdByte (asText L) a.length = .inl (b, a.length + (shB b).length) := by
      have hs := rdByte_unshift p1 hcp
      exact hs
    rw [rdBody_step hne hlt hby]
    have h3 := ih (fun n hn => hr n (List.mem_cons_of_mem _ hn)) (a ++ shB b) (l ++ [b]) (by rw [hE2]; simp) g (by rw [List.length_append]; omega)
    rw [List.length_append] at h3
    rw [h3]
    simp
theorem cut_reads (s : ByteArray) (h : (qT s).length ≤ 65536) : rdCut (asText (qT s)) 0 = .inl (byl s, (qT s).length) := by
  have hsz := asText_size (qT s)
  have hb := qT_by s
  have hE : qT s = [39] ++ (byl s).flatMap shB ++ [39] := rfl
  have h0 : chr (asText (qT s)) 0 = 39 := by rw [chr_text hb]; rfl
  unfold rdCut
  rw [if_neg (by omega), if_neg (by omega), show (0 : Int).toNat = 0 from rfl, h0, if_pos (.inl rfl)]
  have h2 := body_reads (qT s) hb (byl s) (byl_by s) [39] [] hE ((asText (qT s)).size + 1) (by rw [hsz]; simp)
  exact h2
end Go.Proofs.YtnpifgcgjgddoaaDoor.Q
