/- DERIVED. Plain mathematics and walks, laid together (13). -/
import Derived.BigQuiet
import Derived.Lib.ItoaNum
import Derived.Lib.Builder
import Derived.RangeFuncBox
import Derived.Test.YtnpifgcgjgddoaaGreatDoorPb12
set_option maxRecDepth 100000
set_option maxHeartbeats 8000000
namespace Go.Proofs.YtnpifgcgjgddoaaGreatDoor
open Go.RowKit
abbrev tx8 (l : List UInt8) : ByteArray := ⟨l.toArray⟩
def chL (l : List UInt8) (i : Nat) : Int := match l[i]? with
 | some c => (c.toNat : Int)
 | none => -1
theorem zeA (l : List UInt8) : (tx8 l).size = l.length := rfl
theorem zay (l : List UInt8) (i : Nat) : chr (tx8 l) i = chL l i := by
 unfold chr chL
 by_cases h : i < l.length
 ·rw [dif_pos (show i < (tx8 l).size from h), List.getElem?_eq_getElem h]
  rfl
 ·rw [dif_neg (show ¬ i < (tx8 l).size from h), List.getElem?_eq_none (by omega)]
theorem zhm (p r : List UInt8) (j : Nat) : chL (p ++ r) (p.length + j) = chL r j := by
 unfold chL
 rw [List.getElem?_append_right (by omega), Nat.add_sub_cancel_left]
theorem at0 (p r : List UInt8) : chr (tx8 (p ++ r)) p.length = chL r 0 := by rw [zay]; exact zhm p r 0
theorem atj (p r : List UInt8) (j : Nat) : chr (tx8 (p ++ r)) (p.length + j) = chL r j := by rw [zay]; exact zhm p r j
theorem of8 {b : Nat} (h : b < 256) : (UInt8.ofNat b).toNat = b := by rw [UInt8.toNat_ofNat']; omega
theorem zgz : ∀ n : Fin 16, zbd ((zbZ n.val).toNat : Int) = (n.val : Int) := by decide
theorem zji {b : Nat} (h : za6 b = true) : b = 92 ∨ b = 93 ∨ b = 91 ∨ b = 94 ∨ b = 45 ∨ b = 37 := by
 simp [za6] at h; omega
theorem zik {b : Nat} (h : ¬ za6 b = true) : b ≠ 92 /\ b ≠ 93 /\ b ≠ 91 /\ b ≠ 94 /\ b ≠ 45 /\ b ≠ 37 := by
 simp [za6] at h; omega
theorem zcj (p r : List UInt8) : zas (tx8 (p ++ (92 :: r))) p.length = zap (tx8 (p ++ (92 :: r))) p.length := by
 unfold zas
 rw [at0]
 exact if_pos rfl
theorem zdt (p r : List UInt8) (c : UInt8) : chr (tx8 (p ++ (92 :: c :: r))) (p.length + 1) = (c.toNat : Int) := by rw [atj]; rfl
theorem zdH (p q : List UInt8) (b : Nat) (hb : b < 256) : zas (tx8 (p ++ (itm b ++ q))) p.length = some (b, p.length + (itm b).length) := by
 unfold itm
 split
 ·subst b; rw [List.cons_append, zcj]; unfold zap; rw [List.cons_append, zdt]; exact if_pos rfl
 split
 ·subst b; rw [List.cons_append, zcj]; unfold zap; rw [List.cons_append, zdt]; rfl
 split
 ·subst b; rw [List.cons_append, zcj]; unfold zap; rw [List.cons_append, zdt]; rfl
 split
 ·rename_i hs
  rw [List.cons_append, zcj]; unfold zap; rw [List.cons_append, zdt]
  rcases zji hs with rfl | rfl | rfl | rfl | rfl | rfl <;> rfl
 split
 ·rename_i hs hp
  obtain ⟨s1, s2, s3, s4, s5, s6⟩ := zik hs
  have e : chL ([UInt8.ofNat b] ++ q) 0 = (b : Int) := by show ((UInt8.ofNat b).toNat : Int) = b; rw [of8 hb]
  unfold zas; rw [at0, e, if_neg (by omega), if_neg (by rw [hp]; simp; omega)]; rfl
 ·have e2 : chL ([92, 120, zbZ (b / 16), zbZ (b % 16)] ++ q) 2 = ((zbZ (b / 16)).toNat : Int) := rfl
  have e3 : chL ([92, 120, zbZ (b / 16), zbZ (b % 16)] ++ q) 3 = ((zbZ (b % 16)).toNat : Int) := rfl
  have h2 := zgz ⟨b / 16, by omega⟩
  have h3 := zgz ⟨b % 16, by omega⟩
  simp only at h2 h3
  have k : zaY (tx8 (p ++ ([92, 120, zbZ (b / 16), zbZ (b % 16)] ++ q))) p.length = some (b, p.length + 4) := by
   unfold zaY
   rw [atj, atj, e2, e3, h2, h3, if_pos (by omega)]
   congr 2
   omega
  rw [List.cons_append, zcj]
  unfold zap
  rw [List.cons_append, zdt]
  exact k
theorem zbB (b : Nat) (hb : b < 256) (q : List UInt8) : chL (itm b ++ q) 0 ≠ 45 /\ chL (itm b ++ q) 0 ≠ 37 /\ chL (itm b ++ q) 0 ≠ 93 /\ chL (itm b ++ q) 0 ≠ 94 := by
 have h92 : ∀ r : List UInt8, chL (92 :: r) 0 = 92 := fun _ => rfl
 unfold itm
 split
 ·rw [List.cons_append, h92]; decide
 split
 ·rw [List.cons_append, h92]; decide
 split
 ·rw [List.cons_append, h92]; decide
 split
 ·rw [List.cons_append, h92]; decide
 split
 ·rename_i hs hp
  obtain ⟨s1, s2, s3, s4, s5, s6⟩ := zik hs
  have e : chL ([UInt8.ofNat b] ++ q) 0 = (b : Int) := by show ((UInt8.ofNat b).toNat : Int) = b; rw [of8 hb]
  rw [e]; omega
 ·rw [List.cons_append, h92]; decide
theorem zkT (b : Nat) : 1 <= (itm b).length := by
 unfold itm
 repeat' split
 all_goals simp
theorem zhn (p q : List UInt8) (b : Nat) (hb : b < 256) (hq : chL q 0 ≠ 45) : zad (tx8 (p ++ (itm b ++ q))) p.length = .inl (spn b b, p.length + (itm b).length) := by
 unfold zad
 rw [at0, if_neg (zbB b hb q).2.1, zdH p q b hb]
 have e : chr (tx8 (p ++ (itm b ++ q))) (p.length + (itm b).length) = chL q 0 := by
  rw [<- List.append_assoc, <- List.length_append]; exact at0 _ q
 exact if_neg (by rw [e]; exact hq)
theorem znh (p q : List UInt8) (lo hi : Nat) (hlo : lo < 256) (hhi : hi < 256) (hle : lo <= hi) : zad (tx8 (p ++ (itm lo ++ (45 :: (itm hi ++ q))))) p.length = .inl (spn lo hi, p.length + (itm lo).length + 1 + (itm hi).length) := by
 unfold zad
 rw [at0, if_neg (zbB lo hlo _).2.1, zdH p _ lo hlo]
 have e : chr (tx8 (p ++ (itm lo ++ (45 :: (itm hi ++ q))))) (p.length + (itm lo).length) = 45 := by
  rw [<- List.append_assoc, <- List.length_append, at0]; rfl
 have e2 : zas (tx8 (p ++ (itm lo ++ (45 :: (itm hi ++ q))))) (p.length + (itm lo).length + 1) = some (hi, p.length + (itm lo).length + 1 + (itm hi).length) := by
  have h := zdH (p ++ itm lo ++ [45]) q hi hhi
  rw [show p ++ itm lo ++ [45] ++ (itm hi ++ q) = p ++ (itm lo ++ (45 :: (itm hi ++ q))) from by simp] at h
  have hlen : (p ++ itm lo ++ [(45 : UInt8)]).length = p.length + (itm lo).length + 1 := by simp; omega
  rw [hlen] at h
  exact h
 refine (if_pos e).trans ?_
 rw [e2]
 exact if_neg (by omega)
def unL (l : List (Int × Int)) (s : BitVec 256) : BitVec 256 := l.foldl (fun s p => s ||| spn p.1 p.2) s
theorem zil (p : Int × Int) (l : List (Int × Int)) (s : BitVec 256) : unL (p :: l) s = unL l (s ||| spn p.1 p.2) := rfl
theorem zdI (p : Int × Int) (l : List (Int × Int)) : zcJ (p :: l) = spT p.1.toNat p.2.toNat ++ zcJ l := by unfold zcJ; rfl
theorem zgA (l : List (Int × Int)) (hl : ∀ p ∈ l, 0 <= p.1 /\ p.1 <= p.2 /\ p.2 < 256) : chL (zcJ l ++ [93]) 0 ≠ 45 /\ chL (zcJ l ++ [93]) 0 ≠ 94 := by
 cases l with
 | nil => decide
 | cons p l =>
  have h := hl p (by simp)
  rw [zdI]
  unfold spT
  split
  ·rw [List.append_assoc]; have := zbB p.1.toNat (by omega) (zcJ l ++ [93]); exact ⟨this.1, this.2.2.2⟩
  split
  ·rw [List.append_assoc, List.append_assoc]; have := zbB p.1.toNat (by omega) (itm p.2.toNat ++ (zcJ l ++ [93])); exact ⟨this.1, this.2.2.2⟩
  ·rw [List.append_assoc, List.append_assoc, List.append_assoc]; have := zbB p.1.toNat (by omega) ([45] ++ (itm p.2.toNat ++ (zcJ l ++ [93]))); exact ⟨this.1, this.2.2.2⟩
theorem zp5 (lo : Nat) (h : lo + 1 < 256) (s : BitVec 256) : s ||| spn lo lo ||| spn ((lo + 1 : Nat) : Int) ((lo + 1 : Nat) : Int) = s ||| spn lo ((lo + 1 : Nat) : Int) := by
 apply BitVec.eq_of_getLsbD_eq
 intro i _
 simp only [BitVec.getLsbD_or]
 rw [zc2 _ _ (by omega), zc2 _ _ (by omega), zc2 _ _ (by omega), Bool.or_assoc]
 congr 1
 rw [Bool.eq_iff_iff]
 simp
 omega
theorem zeV : ∀ (l : List (Int × Int)), (∀ p ∈ l, 0 <= p.1 /\ p.1 <= p.2 /\ p.2 < 256) -> ∀ (p : List UInt8) (s : BitVec 256) (f : Nat), (zcJ l).length + 1 <= f →
  zab (tx8 (p ++ (zcJ l ++ [93]))) f s p.length = .inl (unL l s, p.length + (zcJ l).length) := by
 intro l
 induction l with
 | nil =>
  intro _ p s f hf
  obtain ⟨g, rfl⟩ : ∃ g, f = g + 1 := ⟨f - 1, by simp [zcJ] at hf; omega⟩
  rw [zbq (by rw [at0]; rfl)]
  rfl
 | cons a l ih =>
  intro hl p s f hf
  have h := hl a (by simp)
  have hl' : ∀ q ∈ l, 0 <= q.1 /\ q.1 <= q.2 /\ q.2 < 256 := fun q hq => hl q (List.mem_cons_of_mem _ hq)
  have hm := zgA l hl'
  obtain ⟨g, rfl⟩ : ∃ g, f = g + 1 := ⟨f - 1, by omega⟩
  obtain ⟨lo, hlo⟩ : ∃ lo : Nat, a.1 = lo := ⟨a.1.toNat, by omega⟩
  obtain ⟨hi, hhi⟩ : ∃ hi : Nat, a.2 = hi := ⟨a.2.toNat, by omega⟩
  have i1 := zkT lo
  have i2 := zkT hi
  rw [zdI, zil, hlo, hhi, Int.toNat_natCast, Int.toNat_natCast]
  rw [zdI, hlo, hhi, Int.toNat_natCast, Int.toNat_natCast] at hf
  unfold spT at hf ⊢
  split
  ·rename_i h0
   obtain rfl : hi = lo := by omega
   rw [if_pos h0, List.length_append] at hf
   rw [List.append_assoc, zaH (by rw [at0]; exact (zbB hi (by omega) _).2.2.1) (zhn p _ hi (by omega) hm.1)]
   have := ih hl' (p ++ itm hi) (s ||| spn hi hi) g (by omega)
   rw [List.append_assoc, List.length_append] at this
   rw [this, List.length_append]
   congr 2
   omega
  ·rename_i h0
   rw [if_neg h0] at hf
   split
   ·rename_i h1
    obtain rfl : hi = lo + 1 := by omega
    rw [if_pos h1, List.length_append, List.length_append] at hf
    obtain ⟨g', rfl⟩ : ∃ g', g = g' + 1 := ⟨g - 1, by omega⟩
    rw [List.append_assoc, List.append_assoc, zaH (by rw [at0]; exact (zbB lo (by omega) _).2.2.1) (zhn p _ lo (by omega) (zbB (lo + 1) (by omega) _).1)]
    have e := zhn (p ++ itm lo) (zcJ l ++ [93]) (lo + 1) (by omega) hm.1
    rw [List.append_assoc, List.length_append] at e
    have e0 : ¬ chr (tx8 (p ++ (itm lo ++ (itm (lo + 1) ++ (zcJ l ++ [93]))))) (p.length + (itm lo).length) = 93 := by
     rw [<- List.append_assoc, <- List.length_append, at0]; exact (zbB (lo + 1) (by omega) _).2.2.1
    rw [zaH e0 e]
    have := ih hl' (p ++ itm lo ++ itm (lo + 1)) (s ||| spn lo lo ||| spn ((lo + 1 : Nat) : Int) ((lo + 1 : Nat) : Int)) g' (by omega)
    rw [List.append_assoc, List.append_assoc, List.length_append, List.length_append] at this
    rw [this, List.length_append, List.length_append, zp5 lo (by omega)]
    congr 2
    omega
   ·rename_i h1
    rw [if_neg h1, List.length_append, List.length_append, List.length_append] at hf
    rw [show itm lo ++ [45] ++ itm hi ++ zcJ l ++ [93] = itm lo ++ (45 :: (itm hi ++ (zcJ l ++ [93]))) from by simp]
    rw [zaH (by rw [at0]; exact (zbB lo (by omega) _).2.2.1) (znh p _ lo hi (by omega) (by omega) (by omega))]
    have hlen : (p ++ itm lo ++ [(45 : UInt8)] ++ itm hi).length = p.length + (itm lo).length + 1 + (itm hi).length := by simp; omega
    have := ih hl' (p ++ itm lo ++ [45] ++ itm hi) (s ||| spn lo hi) g (by simp at hf; omega)
    rw [show p ++ itm lo ++ [45] ++ itm hi ++ (zcJ l ++ [93]) = p ++ (itm lo ++ (45 :: (itm hi ++ (zcJ l ++ [93])))) from by simp, hlen] at this
    rw [this]
    congr 2
    simp
    omega
theorem zp6 (l : List (Int × Int)) (hl : ∀ p ∈ l, p.2 <= 255) (s : BitVec 256) (j : Nat) : (unL l s).getLsbD j = true ↔ s.getLsbD j = true ∨ ∃ p ∈ l, p.1 <= (j : Int) /\ (j : Int) <= p.2 := by
 induction l generalizing s with
 | nil => simp [unL]
 | cons a l ih =>
  rw [zil, ih (fun p hp => hl p (List.mem_cons_of_mem _ hp)), BitVec.getLsbD_or, zc2 _ _ (hl a (by simp))]
  simp only [Bool.or_eq_true, Bool.and_eq_true, decide_eq_true_eq, List.mem_cons, exists_eq_or_imp]
  constructor
  ·rintro ((h | h) | h)
   ·exact .inl h
   ·exact .inr (.inl h)
   ·exact .inr (.inr h)
  ·rintro (h | h | h)
   ·exact .inl (.inl h)
   ·exact .inl (.inr h)
   ·exact .inr h
theorem zkU (j : Int) : ∀ (n : Nat) (bs : List Int), bs.length = n -> ((∃ p ∈ spL bs, p.1 <= j /\ j <= p.2) ↔ j ∈ bs) := by
 intro n
 induction n with
 | zero => intro bs h; rw [List.eq_nil_of_length_eq_zero h]; simp [spL]
 | succ n ih =>
  intro bs h
  rcases zaQ bs with rfl | ⟨m, b, rfl⟩
  ·simp at h
  ·have ihm := ih m (by simp at h; exact h)
   have hok := zoh m
   rw [zcN]
   rcases zaQ (spL m) with hs | ⟨l, ⟨lo, hi⟩, hs⟩
   ·rw [hs] at ihm ⊢
    rw [List.mem_append, <- ihm]
    simp [zca]
    omega
   ·rw [hs] at ihm hok ⊢
    have hle := hok (lo, hi) (by simp)
    simp only at hle
    rw [List.mem_append, <- ihm]
    by_cases e : hi + 1 = b
    ·rw [zbK _ _ _ _ e]
     constructor
     ·rintro ⟨p, hp, h1, h2⟩
      rcases List.mem_append.1 hp with h3 | h3
      ·exact .inl ⟨p, List.mem_append_left _ h3, h1, h2⟩
      ·simp at h3; subst h3
       simp only at h1 h2
       by_cases hj : j <= hi
       ·exact .inl ⟨(lo, hi), by simp, h1, hj⟩
       ·exact .inr (by simp; omega)
     ·rintro (⟨p, hp, h1, h2⟩ | h1)
      ·rcases List.mem_append.1 hp with h3 | h3
       ·exact ⟨p, List.mem_append_left _ h3, h1, h2⟩
       ·simp at h3; subst h3
        exact ⟨(lo, b), by simp, h1, by simp only at h2 ⊢; omega⟩
      ·simp at h1; subst h1
       exact ⟨(lo, j), by simp, by simp only; omega, by simp only; omega⟩
    ·rw [zbw _ _ _ _ e]
     constructor
     ·rintro ⟨p, hp, h1, h2⟩
      rcases List.mem_append.1 hp with h3 | h3
      ·exact .inl ⟨p, h3, h1, h2⟩
      ·simp at h3; subst h3; simp only at h1 h2; exact .inr (by simp; omega)
     ·rintro (⟨p, hp, h1, h2⟩ | h1)
      ·exact ⟨p, List.mem_append_left _ hp, h1, h2⟩
      ·simp at h1; subst h1; exact ⟨(j, j), by simp, by simp only; omega, by simp only; omega⟩
theorem zp7 (x : BitVec 256) : unL (spL (bys x)) 0#256 = x := by
 apply BitVec.eq_of_getLsbD_eq
 intro j hj
 rw [Bool.eq_iff_iff, zp6 _ (fun p hp => by have := zfR x p hp; omega), zkU (j : Int) _ (bys x) rfl]
 have h := zef x 256 (j : Int)
 rw [show bys x = zdX x 256 from rfl, h]
 simp
 omega
def isRd (r : Rd (BitVec 256 × Nat)) (x : BitVec 256) (n : Nat) : Bool := match r with
 | .inl p => p.1 == x && p.2 == n
 | .inr _ => false
theorem zp8 {r : Rd (BitVec 256 × Nat)} {x : BitVec 256} {n : Nat} (h : isRd r x n = true) : r = .inl (x, n) := by
 cases r with
 | inr q => cases h
 | inl p =>
  obtain ⟨a, b⟩ := p
  simp only [isRd, Bool.and_eq_true, beq_iff_eq] at h
  rw [h.1, h.2]
theorem zkV (x : BitVec 256) : zal (tx8 (shT x)) 0 = .inl (x, (shT x).length) := by
 unfold shT
 cases hf : fulB x
 ·rw [if_neg (by simp)]
  have hL := zfR x
  have hlen := zdG x
  have hm := zgA _ hL
  have hml := zd7 (spL (bys x))
  have key := zeV _ hL [91] 0#256
  rw [zp7] at key
  generalize zcJ (spL (bys x)) = M at *
  have e0 : chr (tx8 (91 :: M ++ [93])) 0 = 91 := by rw [zay]; rfl
  have e1 : chr (tx8 (91 :: M ++ [93])) 1 = chL (M ++ [93]) 0 := atj [91] (M ++ [93]) 0
  have hsz : (tx8 (91 :: M ++ [93])).size = M.length + 2 := by rw [zeA]; simp
  have k := key ((tx8 (91 :: M ++ [93])).size + 1) (by rw [hsz]; omega)
  have hr : zal (tx8 (91 :: M ++ [93])) 0 = .inl (x, M.length + 2) := by
   unfold zal
   rw [if_neg (by omega), show Int.toNat 0 = 0 from rfl, if_pos e0, if_neg (by show ¬ chr _ 1 = 94; rw [e1]; exact hm.2)]
   show zfL (zab (tx8 ([91] ++ (M ++ [93]))) _ 0#256 1) = _
   rw [show zab (tx8 ([91] ++ (M ++ [93]))) ((tx8 (91 :: M ++ [93])).size + 1) 0#256 1 = .inl (x, [91].length + M.length) from k]
   show Sum.inl (x, [91].length + M.length + 1) = _
   congr 2
   simp
   omega
  rw [hr]
  congr 2
  simp
 ·rw [if_pos rfl]
  have hx : x = ~~~ 0#256 := by simpa [fulB] using hf
  rw [hx]
  exact zp8 (by decide +kernel)
theorem zho {s : ByteArray} {i a : Nat} {c : Int} (hi : i <= s.size) (h : zad s i = .inr (a, c)) : a <= s.size := by
 unfold zad at h
 split at h
 ·unfold za1 at h
  split at h
  ·simp at h
  ·simp only [Sum.inr.injEq, Prod.mk.injEq] at h; omega
 ·split at h
  ·simp only [Sum.inr.injEq, Prod.mk.injEq] at h; omega
  ·rename_i lo m hm
   split at h
   ·rename_i hc
    have hlt : m < s.size := zaC (by rw [hc]; omega)
    split at h
    ·simp only [Sum.inr.injEq, Prod.mk.injEq] at h; omega
    ·split at h
     ·simp only [Sum.inr.injEq, Prod.mk.injEq] at h; omega
     ·simp at h
   ·simp at h
theorem zdS {s : ByteArray} : ∀ {f : Nat} {x : BitVec 256} {i a : Nat} {c : Int}, i <= s.size -> zab s f x i = .inr (a, c) -> a <= s.size := by
 intro f
 induction f with
 | zero => intro x i a c hi h; simp only [zab, Sum.inr.injEq, Prod.mk.injEq] at h; omega
 | succ f ih =>
  intro x i a c hi h
  by_cases hc : chr s i = 93
  ·rw [zbq hc] at h; simp at h
  ·cases hm : zad s i with
   | inr pq =>
    obtain ⟨a', c'⟩ := pq
    rw [zbJ hc hm] at h; simp only [Sum.inr.injEq, Prod.mk.injEq] at h; rw [<- h.1]; exact zho hi hm
   | inl p => obtain ⟨y, n⟩ := p; rw [zaH hc hm] at h; exact ih (zbP hm).2 h
theorem zkW {s : ByteArray} {i : Int} {a : Nat} {c : Int} (h : zal s i = .inr (a, c)) : a <= s.size := by
 unfold zal at h
 split at h
 ·simp only [Sum.inr.injEq, Prod.mk.injEq] at h; omega
 ·rename_i hr
  split at h
  ·rename_i h1
   have hlt : i.toNat < s.size := zaC (by rw [h1]; omega)
   split at h
   ·rename_i h2
    have hlt2 : i.toNat + 1 < s.size := zaC (by rw [h2]; omega)
    cases hm : zab s (s.size + 1) 0#256 (i.toNat + 2) with
    | inr pq =>
     obtain ⟨a', c'⟩ := pq
     rw [hm] at h; simp only [zdQ, Sum.inr.injEq, Prod.mk.injEq] at h; rw [<- h.1]; exact zdS (by omega) hm
    | inl p => rw [hm] at h; simp [zdQ] at h
   ·cases hm : zab s (s.size + 1) 0#256 (i.toNat + 1) with
    | inr pq =>
     obtain ⟨a', c'⟩ := pq
     rw [hm] at h; simp only [zfL, Sum.inr.injEq, Prod.mk.injEq] at h; rw [<- h.1]; exact zdS (by omega) hm
    | inl p => rw [hm] at h; simp [zfL] at h
  ·simp only [Sum.inr.injEq, Prod.mk.injEq] at h; omega
theorem zgB {P : Int -> Bool} {s : ByteArray} (hn : P (-1) = false) {i e : Nat} (hie : i <= e) (h : ∀ k, i <= k -> k < e -> P (chr s k) = true) (he : P (chr s e) = false) : spN P s i = e := by
 obtain ⟨h1, _, h3, h4⟩ := zbe P s hn _ i rfl
 by_cases q : spN P s i < e
 ·rw [h _ h1 q] at h3; cases h3
 ·by_cases q2 : e < spN P s i
  ·rw [h4 e hie q2] at he; cases he
  ·omega
def Ag (s : ByteArray) (b : Nat) (s' : ByteArray) (b' : Nat) (m : Nat) : Prop := ∀ k, k < m -> chr s' (b' + k) = chr s (b + k)
theorem Ag.at {s s' : ByteArray} {b b' m : Nat} (h : Ag s b s' b' m) {j j' : Nat} (hb : b <= j) (hj : j < b + m) (e : j' = b' + (j - b)) : chr s' j' = chr s j := by
 have := h (j - b) (by omega)
 rw [show b + (j - b) = j from by omega] at this
 rw [e]; exact this
theorem Ag.sub {s s' : ByteArray} {b b' m : Nat} (h : Ag s b s' b' m) (d : Nat) {m2 : Nat} (hm : d + m2 <= m) : Ag s (b + d) s' (b' + d) m2 := fun k hk => by
 have := h (d + k) (by omega)
 rw [Nat.add_assoc, Nat.add_assoc]; exact this
theorem zcT {P : Int -> Bool} {s s' : ByteArray} (hn : P (-1) = false) {i i' m : Nat} (h : Ag s i s' i' m) (hs : spN P s i = i + m) (he : P (chr s' (i' + m)) = false) : spN P s' i' = i' + m := by
 obtain ⟨_, _, _, h4⟩ := zbe P s hn _ i rfl
 refine zgB hn (by omega) (fun k k1 k2 => ?_) he
 have := h (k - i') (by omega)
 rw [show i' + (k - i') = k from by omega] at this
 rw [this]
 exact h4 _ (by omega) (by omega)
theorem zhp (s : ByteArray) (i : Nat) (h : i <= s.size) : i <= zbT s i := (zc8 h).1
theorem zeB {s s' : ByteArray} {b b' m : Nat} (h : Ag s b s' b' m) (h1 : b + m <= s.size) (h2 : b' + m <= s'.size) : s'.extract b' (b' + m) = s.extract b (b + m) := by
 apply ByteArray.ext
 apply Array.ext
 ·show (s'.extract b' (b' + m)).size = (s.extract b (b + m)).size
  rw [ByteArray.size_extract, ByteArray.size_extract]; omega
 ·intro k hk1 hk2
  have hk1' : k < (s'.extract b' (b' + m)).size := hk1
  have hk2' : k < (s.extract b (b + m)).size := hk2
  have hm : k < m := by rw [ByteArray.size_extract] at hk2'; omega
  have e1 := zej (s := s') (a := b') (b := b' + m) (k := k) (by omega) h2
  have e2 := zej (s := s) (a := b) (b := b + m) (k := k) (by omega) h1
  rw [h k hm, <- e2, zak hk1', zak hk2'] at e1
  exact (UInt8.toNat_inj.1 (Int.ofNat_inj.1 e1) : (s'.extract b' (b' + m))[k] = (s.extract b (b + m))[k])
def mvT (t : Tk) (b' m : Nat) : Tk := { t with fr := b', en := (b' + m : Nat) }
theorem zni {s s' : ByteArray} {i i' m c n : Nat} (ha : Ag s i s' i' m) (h : zme s i = some (c, n)) (hn : n <= i + m) : zme s' i' = some (c, i' + (n - i)) := by
 have h2 := zfO h
 unfold zme at h ⊢
 have e1 : chr s' (i' + 1) = chr s (i + 1) := by
  by_cases q : 1 < m
  ·exact ha 1 q
  ·exfalso
   split at h; cases h; omega
   split at h; cases h; omega
   split at h; cases h; omega
   split at h; cases h; omega
   split at h; cases h; omega
   cases h
 rw [e1]
 split at h
 ·next q => rw [if_pos q]; cases h; rw [show i + 2 - i = 2 from by omega]
 next q1 =>
 rw [if_neg q1]
 split at h
 ·next q => rw [if_pos q]; cases h; rw [show i + 2 - i = 2 from by omega]
 next q2 =>
 rw [if_neg q2]
 split at h
 ·next q => rw [if_pos q]; cases h; rw [show i + 2 - i = 2 from by omega]
 next q3 =>
 rw [if_neg q3]
 split at h
 ·next q => rw [if_pos q]; cases h; rw [show i + 2 - i = 2 from by omega]
 next q4 =>
 rw [if_neg q4]
 split at h
 ·next q =>
  cases h
  rw [ha 2 (by omega), ha 3 (by omega), if_pos q, show i + 4 - i = 4 from by omega]
 ·cases h
theorem znj (s s' : ByteArray) (q : Int) (b b' : Nat) (hq : 0 <= q) : ∀ (f f' : Nat) (out : List Int) (i i' m : Nat) (t : Tk) (e : Nat), zbR s q b f out i = .inl t -> t.en = e -> e = i + m -> Ag s i s' i' m -> m <= f' -> zbR s' q b' f' out i' = .inl { t with fr := b', en := (i' + m : Nat) } := by
 intro f
 induction f with
 | zero => intro f' out i i' m t e h; rw [zbR] at h; cases h
 | succ f ih =>
  intro f' out i i' m t e h he hm ha hf
  obtain ⟨e2, x1, x2, x3⟩ := zdr s q b hq _ _ _ _ h
  have : e2 = e := by omega
  subst this
  obtain ⟨f', rfl⟩ : ∃ g, f' = g + 1 := ⟨f' - 1, by omega⟩
  have h0 := ha 0 (by omega)
  rw [Nat.add_zero, Nat.add_zero] at h0
  rw [zbR] at h ⊢
  rw [h0]
  split at h
  ·cases h
  next h1 =>
  rw [if_neg h1]
  split at h
  ·next h2 =>
   rw [if_pos h2]
   split at h
   ·cases h
   next h3 =>
   rw [if_neg h3]
   cases h
   have : m = 1 := by
    have he : ((i + 1 : Nat) : Int) = ((i + m : Nat) : Int) := by rw [<- hm, <- he]; rfl
    omega
   subst this
   rfl
  next h2 =>
  rw [if_neg h2]
  split at h
  ·cases h
  next h3 =>
  rw [if_neg h3]
  split at h
  ·next h4 =>
   rw [if_pos h4]
   have h5 := zdr s q b hq _ _ _ _ h
   obtain ⟨e3, y1, y2, y3⟩ := h5
   have := ih f' (out ++ [chr s i]) (i + 1) (i' + 1) (m - 1) t e2 h he (by omega) (ha.sub 1 (by omega)) (by omega)
   rw [this, show i' + 1 + (m - 1) = i' + m from by omega]
  next h4 =>
  rw [if_neg h4]
  cases hx : zme s i with
  | none => rw [hx] at h; cases h
  | some p =>
   obtain ⟨c, n⟩ := p
   rw [hx] at h
   have h5 := zfO hx
   obtain ⟨e3, y1, y2, y3⟩ := zdr s q b hq _ _ _ _ h
   rw [zni ha hx (by omega)]
   have := ih f' (out ++ [(c : Int)]) n (i' + (n - i)) (m - (n - i)) t e2 h he (by omega) (by
    have h7 := ha.sub (n - i) (m2 := m - (n - i)) (by omega)
    rwa [show i + (n - i) = n from by omega] at h7) (by omega)
   show zbR s' q b' f' (out ++ [(c : Int)]) (i' + (n - i)) = _
   rw [this, show i' + (n - i) + (m - (n - i)) = i' + m from by omega]
theorem zeC {s s' : ByteArray} {i i' m c n : Nat} (ha : Ag s i s' i' m) (h : zas s i = some (c, n)) (hn : n <= i + m) : zas s' i' = some (c, i' + (n - i)) := by
 have hb := za7 h
 have h0 := ha 0 (by omega)
 rw [Nat.add_zero, Nat.add_zero] at h0
 unfold zas at h ⊢
 rw [h0]
 split at h
 ·next q =>
  rw [if_pos q]
  unfold zap at h ⊢
  have hm : 2 <= n - i := by
   split at h; cases h; omega
   split at h; cases h; omega
   split at h; cases h; omega
   split at h
   ·unfold zaY at h
    split at h
    ·cases h; omega
    ·cases h
   split at h
   ·cases h; omega
   ·cases h
  rw [ha 1 (by omega)]
  split at h
  ·next q => rw [if_pos q]; cases h; rw [show i + 2 - i = 2 from by omega]
  next q1 =>
  rw [if_neg q1]
  split at h
  ·next q => rw [if_pos q]; cases h; rw [show i + 2 - i = 2 from by omega]
  next q2 =>
  rw [if_neg q2]
  split at h
  ·next q => rw [if_pos q]; cases h; rw [show i + 2 - i = 2 from by omega]
  next q3 =>
  rw [if_neg q3]
  split at h
  ·next q =>
   rw [if_pos q]
   unfold zaY at h ⊢
   split at h
   ·next q5 =>
    cases h
    rw [ha 2 (by omega), ha 3 (by omega), if_pos q5, show i + 4 - i = 4 from by omega]
   ·cases h
  next q4 =>
  rw [if_neg q4]
  split at h
  ·next q5 => rw [if_pos q5]; cases h; rw [show i + 2 - i = 2 from by omega]
  ·cases h
 ·next q =>
  rw [if_neg q]
  split at h
  ·cases h
  ·next q2 => rw [if_neg q2]; cases h; rw [show i + 1 - i = 1 from by omega]
theorem zhq {s s' : ByteArray} {i i' m n : Nat} {y : BitVec 256} (ha : Ag s i s' i' m) (h : zad s i = .inl (y, n)) (hn : n < i + m) : zad s' i' = .inl (y, i' + (n - i)) := by
 have hb := zbP h
 have h0 := ha 0 (by omega)
 rw [Nat.add_zero, Nat.add_zero] at h0
 unfold zad at h ⊢
 rw [h0]
 split at h
 ·next q =>
  rw [if_pos q]
  unfold za1 at h ⊢
  split at h
  ·next q2 =>
   cases h
   have e1 := ha 1 (by omega)
   have hlt : i' + 1 < s'.size := zaC (by rw [e1, zak q2.1]; omega)
   rw [e1, if_pos ⟨hlt, q2.2⟩, show i + 2 - i = 2 from by omega]
  ·cases h
 ·next q =>
  rw [if_neg q]
  cases hi : zas s i with
  | none => rw [hi] at h; cases h
  | some p =>
   obtain ⟨lo, n1⟩ := p
   rw [hi] at h
   have hb1 := za7 hi
   dsimp only at h
   split at h
   ·next q45 =>
    cases hj : zas s (n1 + 1) with
    | none => rw [hj] at h; cases h
    | some p =>
     obtain ⟨hi2, e⟩ := p
     rw [hj] at h
     dsimp only at h
     have hb2 := za7 hj
     split at h
     ·cases h
     ·next q6 =>
      cases h
      rw [zeC ha hi (by omega)]
      dsimp only
      rw [ha.at (j := n1) (by omega) (by omega) rfl, if_pos q45]
      have := zeC (i' := i' + (n1 - i) + 1) (m := i + m - (n1 + 1)) (by
       have h7 := ha.sub (n1 + 1 - i) (m2 := i + m - (n1 + 1)) (by omega)
       rwa [show i + (n1 + 1 - i) = n1 + 1 from by omega, show i' + (n1 + 1 - i) = i' + (n1 - i) + 1 from by omega] at h7) hj (by omega)
      rw [this]
      dsimp only
      rw [if_neg q6, show i' + (n1 - i) + 1 + (n - (n1 + 1)) = i' + (n - i) from by omega]
   ·next q45 =>
    cases h
    rw [zeC ha hi (by omega)]
    dsimp only
    rw [ha.at (j := n) (by omega) (by omega) rfl, if_neg q45]
theorem zdT (s s' : ByteArray) : ∀ (f f' : Nat) (x y : BitVec 256) (i i' m n : Nat), zab s f x i = .inl (y, n) -> Ag s i s' i' m -> n < i + m -> n - i < f' -> zab s' f' x i' = .inl (y, i' + (n - i)) := by
 intro f
 induction f with
 | zero => intro f' x y i i' m n h; rw [zab] at h; cases h
 | succ f ih =>
  intro f' x y i i' m n h ha hn hf
  have hok := zaI h
  obtain ⟨f', rfl⟩ : ∃ g, f' = g + 1 := ⟨f' - 1, by omega⟩
  have h0 := ha 0 (by omega)
  rw [Nat.add_zero, Nat.add_zero] at h0
  rw [zab] at h ⊢
  rw [h0]
  split at h
  ·next q => cases h; rw [if_pos q, Nat.sub_self, Nat.add_zero]
  ·next q =>
   rw [if_neg q]
   cases hm : zad s i with
   | inr p => obtain ⟨a, c⟩ := p; rw [hm] at h; cases h
   | inl p =>
    obtain ⟨z, k⟩ := p
    rw [hm] at h
    dsimp only at h
    have hb := zbP hm
    have hok2 := zaI h
    rw [zhq ha hm (by omega)]
    dsimp only
    have := ih f' (x ||| z) y k (i' + (k - i)) (i + m - k) n h (by
     have h7 := ha.sub (k - i) (m2 := i + m - k) (by omega)
     rwa [show i + (k - i) = k from by omega] at h7) (by omega) (by omega)
    rw [this, show i' + (k - i) + (n - k) = i' + (n - i) from by omega]
def sgC (c0 c1 : Int) : Int × List UInt8 :=
 if c0 = 37 then (if c1 = 101 then (29, [37, 101]) else if c1 = 102 then (30, [37, 102]) else (0, []))
 else if c0 = 94 then (if c1 = 43 then (14, [94, 43]) else if c1 = 45 then (15, [94, 45]) else (13, [94]))
 else if c0 = 60 then (if c1 = 45 then (6, [60, 45]) else (0, []))
 else if c0 = 45 then (if c1 = 62 then (27, [45, 62]) else (0, []))
 else if c0 = 47 then (7, [47])
 else if c0 = 38 then (8, [38])
 else if c0 = 33 then (9, [33])
 else if c0 = 63 then (10, [63])
 else if c0 = 42 then (11, [42])
 else if c0 = 43 then (12, [43])
 else if c0 = 40 then (16, [40])
 else if c0 = 41 then (17, [41])
 else if c0 = 46 then (18, [46])
 else if c0 = 123 then (if c1 = 58 then (21, [123, 58]) else if c1 = 124 then (23, [123, 124]) else if c1 = 126 then (25, [123, 126]) else (19, [123]))
 else if c0 = 58 then (if c1 = 125 then (22, [58, 125]) else (0, []))
 else if c0 = 124 then (if c1 = 125 then (24, [124, 125]) else (0, []))
 else if c0 = 126 then (if c1 = 125 then (26, [126, 125]) else (0, []))
 else if c0 = 125 then (20, [125]) else (0, [])
def pfC (c0 c1 : Int) : List UInt8 -> Bool
 | [] => true
 | [x] => c0 == (x.toNat : Int)
 | x :: y :: _ => c0 == (x.toNat : Int) && c1 == (y.toNat : Int)
def zc0 (c0 c1 : Int) : List (Int × List UInt8) -> Int × List UInt8
 | [] => (0, [])
 | p :: l => if pfC c0 c1 p.2 = true then p else zc0 c0 c1 l
theorem pfx_C (s : ByteArray) (b : Nat) (l : List UInt8) (h : l.length <= 2) : pfx s b l = pfC (chr s b) (chr s (b + 1)) l := by
 match l, h with
 | [], _ => rfl
 | [x], _ => show (chr s b == (x.toNat : Int) && true) = _; rw [Bool.and_true]; rfl
 | [x, y], _ => show (chr s b == (x.toNat : Int) && (chr s (b + 1) == (y.toNat : Int) && true)) = _; rw [Bool.and_true]; rfl
theorem sgGo_C (s : ByteArray) (b : Nat) : ∀ l : List (Int × List UInt8), (∀ p ∈ l, p.2.length <= 2) -> zib s b l = zc0 (chr s b) (chr s (b + 1)) l := by
 intro l
 induction l with
 | nil => intro _; rfl
 | cons p l ih =>
  intro h
  rw [zib, zc0, pfx_C s b p.2 (h p (List.mem_cons_self ..)), ih (fun q hq => h q (List.mem_cons_of_mem _ hq))]
theorem zim (c0 c1 : Int) : zc0 c0 c1 sgTab = sgC c0 c1 := by
 unfold sgC
 by_cases h37 : c0 = 37
 ·subst h37; simp [sgTab, zc0, pfC]
  try (by_cases a1 : c1 = 101 <;> by_cases a2 : c1 = 102 <;> by_cases a3 : c1 = 43 <;> by_cases a4 : c1 = 45 <;> by_cases a5 : c1 = 62 <;> by_cases a6 : c1 = 58 <;> by_cases a7 : c1 = 124 <;> by_cases a8 : c1 = 126 <;> by_cases a9 : c1 = 125 <;> simp [*])
 by_cases h94 : c0 = 94
 ·subst h94; simp [sgTab, zc0, pfC]
  try (by_cases a1 : c1 = 101 <;> by_cases a2 : c1 = 102 <;> by_cases a3 : c1 = 43 <;> by_cases a4 : c1 = 45 <;> by_cases a5 : c1 = 62 <;> by_cases a6 : c1 = 58 <;> by_cases a7 : c1 = 124 <;> by_cases a8 : c1 = 126 <;> by_cases a9 : c1 = 125 <;> simp [*])
 by_cases h60 : c0 = 60
 ·subst h60; simp [sgTab, zc0, pfC]
  try (by_cases a1 : c1 = 101 <;> by_cases a2 : c1 = 102 <;> by_cases a3 : c1 = 43 <;> by_cases a4 : c1 = 45 <;> by_cases a5 : c1 = 62 <;> by_cases a6 : c1 = 58 <;> by_cases a7 : c1 = 124 <;> by_cases a8 : c1 = 126 <;> by_cases a9 : c1 = 125 <;> simp [*])
 by_cases h45 : c0 = 45
 ·subst h45; simp [sgTab, zc0, pfC]
  try (by_cases a1 : c1 = 101 <;> by_cases a2 : c1 = 102 <;> by_cases a3 : c1 = 43 <;> by_cases a4 : c1 = 45 <;> by_cases a5 : c1 = 62 <;> by_cases a6 : c1 = 58 <;> by_cases a7 : c1 = 124 <;> by_cases a8 : c1 = 126 <;> by_cases a9 : c1 = 125 <;> simp [*])
 by_cases h47 : c0 = 47
 ·subst h47; simp [sgTab, zc0, pfC]
  try (by_cases a1 : c1 = 101 <;> by_cases a2 : c1 = 102 <;> by_cases a3 : c1 = 43 <;> by_cases a4 : c1 = 45 <;> by_cases a5 : c1 = 62 <;> by_cases a6 : c1 = 58 <;> by_cases a7 : c1 = 124 <;> by_cases a8 : c1 = 126 <;> by_cases a9 : c1 = 125 <;> simp [*])
 by_cases h38 : c0 = 38
 ·subst h38; simp [sgTab, zc0, pfC]
  try (by_cases a1 : c1 = 101 <;> by_cases a2 : c1 = 102 <;> by_cases a3 : c1 = 43 <;> by_cases a4 : c1 = 45 <;> by_cases a5 : c1 = 62 <;> by_cases a6 : c1 = 58 <;> by_cases a7 : c1 = 124 <;> by_cases a8 : c1 = 126 <;> by_cases a9 : c1 = 125 <;> simp [*])
 by_cases h33 : c0 = 33
 ·subst h33; simp [sgTab, zc0, pfC]
  try (by_cases a1 : c1 = 101 <;> by_cases a2 : c1 = 102 <;> by_cases a3 : c1 = 43 <;> by_cases a4 : c1 = 45 <;> by_cases a5 : c1 = 62 <;> by_cases a6 : c1 = 58 <;> by_cases a7 : c1 = 124 <;> by_cases a8 : c1 = 126 <;> by_cases a9 : c1 = 125 <;> simp [*])
 by_cases h63 : c0 = 63
 ·subst h63; simp [sgTab, zc0, pfC]
  try (by_cases a1 : c1 = 101 <;> by_cases a2 : c1 = 102 <;> by_cases a3 : c1 = 43 <;> by_cases a4 : c1 = 45 <;> by_cases a5 : c1 = 62 <;> by_cases a6 : c1 = 58 <;> by_cases a7 : c1 = 124 <;> by_cases a8 : c1 = 126 <;> by_cases a9 : c1 = 125 <;> simp [*])
 by_cases h42 : c0 = 42
 ·subst h42; simp [sgTab, zc0, pfC]
  try (by_cases a1 : c1 = 101 <;> by_cases a2 : c1 = 102 <;> by_cases a3 : c1 = 43 <;> by_cases a4 : c1 = 45 <;> by_cases a5 : c1 = 62 <;> by_cases a6 : c1 = 58 <;> by_cases a7 : c1 = 124 <;> by_cases a8 : c1 = 126 <;> by_cases a9 : c1 = 125 <;> simp [*])
 by_cases h43 : c0 = 43
 ·subst h43; simp [sgTab, zc0, pfC]
  try (by_cases a1 : c1 = 101 <;> by_cases a2 : c1 = 102 <;> by_cases a3 : c1 = 43 <;> by_cases a4 : c1 = 45 <;> by_cases a5 : c1 = 62 <;> by_cases a6 : c1 = 58 <;> by_cases a7 : c1 = 124 <;> by_cases a8 : c1 = 126 <;> by_cases a9 : c1 = 125 <;> simp [*])
 by_cases h40 : c0 = 40
 ·subst h40; simp [sgTab, zc0, pfC]
  try (by_cases a1 : c1 = 101 <;> by_cases a2 : c1 = 102 <;> by_cases a3 : c1 = 43 <;> by_cases a4 : c1 = 45 <;> by_cases a5 : c1 = 62 <;> by_cases a6 : c1 = 58 <;> by_cases a7 : c1 = 124 <;> by_cases a8 : c1 = 126 <;> by_cases a9 : c1 = 125 <;> simp [*])
 by_cases h41 : c0 = 41
 ·subst h41; simp [sgTab, zc0, pfC]
  try (by_cases a1 : c1 = 101 <;> by_cases a2 : c1 = 102 <;> by_cases a3 : c1 = 43 <;> by_cases a4 : c1 = 45 <;> by_cases a5 : c1 = 62 <;> by_cases a6 : c1 = 58 <;> by_cases a7 : c1 = 124 <;> by_cases a8 : c1 = 126 <;> by_cases a9 : c1 = 125 <;> simp [*])
 by_cases h46 : c0 = 46
 ·subst h46; simp [sgTab, zc0, pfC]
  try (by_cases a1 : c1 = 101 <;> by_cases a2 : c1 = 102 <;> by_cases a3 : c1 = 43 <;> by_cases a4 : c1 = 45 <;> by_cases a5 : c1 = 62 <;> by_cases a6 : c1 = 58 <;> by_cases a7 : c1 = 124 <;> by_cases a8 : c1 = 126 <;> by_cases a9 : c1 = 125 <;> simp [*])
 by_cases h123 : c0 = 123
 ·subst h123; simp [sgTab, zc0, pfC]
  try (by_cases a1 : c1 = 101 <;> by_cases a2 : c1 = 102 <;> by_cases a3 : c1 = 43 <;> by_cases a4 : c1 = 45 <;> by_cases a5 : c1 = 62 <;> by_cases a6 : c1 = 58 <;> by_cases a7 : c1 = 124 <;> by_cases a8 : c1 = 126 <;> by_cases a9 : c1 = 125 <;> simp [*])
 by_cases h58 : c0 = 58
 ·subst h58; simp [sgTab, zc0, pfC]
  try (by_cases a1 : c1 = 101 <;> by_cases a2 : c1 = 102 <;> by_cases a3 : c1 = 43 <;> by_cases a4 : c1 = 45 <;> by_cases a5 : c1 = 62 <;> by_cases a6 : c1 = 58 <;> by_cases a7 : c1 = 124 <;> by_cases a8 : c1 = 126 <;> by_cases a9 : c1 = 125 <;> simp [*])
 by_cases h124 : c0 = 124
 ·subst h124; simp [sgTab, zc0, pfC]
  try (by_cases a1 : c1 = 101 <;> by_cases a2 : c1 = 102 <;> by_cases a3 : c1 = 43 <;> by_cases a4 : c1 = 45 <;> by_cases a5 : c1 = 62 <;> by_cases a6 : c1 = 58 <;> by_cases a7 : c1 = 124 <;> by_cases a8 : c1 = 126 <;> by_cases a9 : c1 = 125 <;> simp [*])
 by_cases h126 : c0 = 126
 ·subst h126; simp [sgTab, zc0, pfC]
  try (by_cases a1 : c1 = 101 <;> by_cases a2 : c1 = 102 <;> by_cases a3 : c1 = 43 <;> by_cases a4 : c1 = 45 <;> by_cases a5 : c1 = 62 <;> by_cases a6 : c1 = 58 <;> by_cases a7 : c1 = 124 <;> by_cases a8 : c1 = 126 <;> by_cases a9 : c1 = 125 <;> simp [*])
 by_cases h125 : c0 = 125
 ·subst h125; simp [sgTab, zc0, pfC]
  try (by_cases a1 : c1 = 101 <;> by_cases a2 : c1 = 102 <;> by_cases a3 : c1 = 43 <;> by_cases a4 : c1 = 45 <;> by_cases a5 : c1 = 62 <;> by_cases a6 : c1 = 58 <;> by_cases a7 : c1 = 124 <;> by_cases a8 : c1 = 126 <;> by_cases a9 : c1 = 125 <;> simp [*])
 simp [sgTab, zc0, pfC, *]
theorem za3 (s : ByteArray) (b : Nat) : zai s b = sgC (chr s b) (chr s (b + 1)) := by
 rw [<- zim]
 exact sgGo_C s b sgTab (by decide)
def zd0 (c : Int) : Bool := !(nmB c) && !(c == 58) && !(c == 123) && !(c == 124) && !(c == 126)
def Fol (s : ByteArray) (e : Nat) (s' : ByteArray) (e' : Nat) : Prop :=
 zd0 (chr s' e') = true ∨ (chr s' e' = chr s e /\ (hdB (chr s e) = true -> ∃ r, spN nmB s e = e + r /\ spN nmB s' e' = e' + r /\ (chr s' (e' + r) = 58 -> chr s (e + r) = 58)))
theorem zbM {c : Int} (h : zd0 c = true) : nmB c = false /\ c ≠ 58 /\ c ≠ 123 /\ c ≠ 124 /\ c ≠ 126 := by
 unfold zd0 at h
 simp only [Bool.and_eq_true, Bool.not_eq_true', beq_eq_false_iff_ne] at h
 exact ⟨h.1.1.1.1, h.1.1.1.2, h.1.1.2, h.1.2, h.2⟩
theorem zp9 {c : Int} (h : nmB c = false) : dgB c = false /\ hdB c = false := by
 unfold nmB at h
 rw [Bool.or_eq_false_iff] at h
 exact ⟨h.2, h.1⟩
theorem Fol.nm {s s' : ByteArray} {e e' : Nat} (h : Fol s e s' e') (q : nmB (chr s e) = false) : nmB (chr s' e') = false := by
 rcases h with h | ⟨h, _⟩
 ·exact (zbM h).1
 ·rw [h]; exact q
theorem Fol.dg {s s' : ByteArray} {e e' : Nat} (h : Fol s e s' e') (q : dgB (chr s e) = false) : dgB (chr s' e') = false := by
 rcases h with h | ⟨h, _⟩
 ·exact (zp9 (zbM h).1).1
 ·rw [h]; exact q
theorem Ag.in {s s' : ByteArray} {b b' m : Nat} (h : Ag s b s' b' m) (hm : 1 <= m) (hs : b + m <= s.size) : b' + m <= s'.size := by
 have h1 := h (m - 1) (by omega)
 have h2 := zak (s := s) (i := b + (m - 1)) (by omega)
 have := zaC (s := s') (i := b' + (m - 1)) (by rw [h1, h2]; omega)
 omega
theorem zfS {s s' : ByteArray} {d d' m : Nat} {base : Int} (ha : Ag s d s' d' m) : ∀ k, k <= m -> zbj s' d' base k = zbj s d base k := by
 intro k
 induction k with
 | zero => intro _; rfl
 | succ k ih => intro hk; rw [zbj, zbj, ih (by omega), ha k (by omega)]
theorem znk {s s' : ByteArray} {d d' m : Nat} {M n : Int} (h : zde s d M = .inl n) (hm : spN dgB s d = d + m) (ha : Ag s d s' d' m) (hf : dgB (chr s' (d' + m)) = false) : zde s' d' M = .inl n /\ spN dgB s' d' = d' + m := by
 have h1 := zcT (P := dgB) (by decide) ha hm hf
 have h2 := zkI h
 have h0 := ha 0 (by omega)
 rw [Nat.add_zero, Nat.add_zero] at h0
 refine ⟨?_, h1⟩
 unfold zde at h ⊢
 rw [h1, show d' + m - d' = m from by omega, h0, zfS ha m (Nat.le_refl _)]
 rw [hm, show d + m - d = m from by omega] at h
 exact h
theorem zhr {s s' : ByteArray} {b b' d d' m : Nat} {k : Int} {t : Tk} (h : nmR s b d k = .inl t) (hm : spN dgB s d = d + m) (ha : Ag s d s' d' m) (hf : dgB (chr s' (d' + m)) = false) : nmR s' b' d' k = .inl { t with fr := b', en := (d' + m : Nat) } := by
 unfold nmR at h ⊢
 cases hn : zde s d (gtK k) with
 | inr e => rw [hn] at h; cases h
 | inl n =>
  obtain ⟨h1, h2⟩ := znk hn hm ha hf
  rw [hn] at h
  cases h
  rw [h1, h2]
theorem zkX {s s' : ByteArray} {b b' m : Nat} {t : Tk} (h : zb0 s b = .inl t) (hm : spN nmB s b = b + m) (h1 : 1 <= m) (hs : b + m <= s.size) (ha : Ag s b s' b' m) (hf : nmB (chr s' (b' + m)) = false) : zb0 s' b' = .inl (mvT t b' m) := by
 have h2 := zcT (P := nmB) (by decide) ha hm hf
 have h3 := zeB ha hs (ha.in h1 hs)
 unfold zb0 at h ⊢
 rw [hm, show b + m - b = m from by omega] at h
 rw [h2, show b' + m - b' = m from by omega, h3]
 split at h
 ·cases h
 ·next q => cases h; rw [if_neg q]; rfl
theorem zhs {s s' : ByteArray} {a a' m : Nat} (h : (ptP s a).2.2 = true) (hm : (ptP s a).2.1 = a + m) (ha : Ag s a s' a' (m + 1)) : ptP s' a' = ((ptP s a).1, a' + m, true) := by
 have hst := (zbe hxB s (by decide) _ a rfl).2.2.1
 have hge := zbo hxB s (by decide) a
 unfold ptP at h hm ⊢
 split at h
 ·cases h
 next q =>
 rw [if_neg q] at hm
 dsimp only at h hm
 rw [hm] at hst q h
 have h1 : spN hxB s' a' = a' + m := zcT (P := hxB) (by decide) (fun k hk => ha k (by omega)) hm (by rw [ha m (by omega)]; exact hst)
 rw [h1, hm, show a' + m - a' = m from by omega, show a + m - a = m from by omega, if_neg (by omega), if_neg (by omega), zfS (m := m) (fun k hk => ha k (by omega)) m (Nat.le_refl _)]
 rw [show a + m - a = m from by omega] at h
 rw [h]
theorem znl {s s' : ByteArray} {b b' m : Nat} {t : Tk} (hb : b + 3 <= s.size) (h : zbY s b = .inl t) (he : t.en = (b + m : Nat)) (ha : Ag s b s' b' m) : zbY s' b' = .inl (mvT t b' m) := by
 have h1 := zbE hb
 unfold zbY at h ⊢
 split at h
 ·cases h
 next q1 =>
 have q1 : (ptP s (b + 3)).2.2 = true := by cases hq : (ptP s (b + 3)).2.2; exact absurd hq q1; rfl
 split at h
 ·next h45 =>
  have h2 := zaC (s := s) (i := (ptP s (b + 3)).2.1) (by omega)
  have h3 := zbE (s := s) (a := (ptP s (b + 3)).2.1 + 1) (by omega)
  split at h
  ·cases h
  next q2 =>
  have q3 : (ptP s ((ptP s (b + 3)).2.1 + 1)).2.2 = true := by cases hq : (ptP s ((ptP s (b + 3)).2.1 + 1)).2.2; exact absurd (.inl hq) q2; rfl
  split at h
  ·next hc =>
   cases h
   dsimp only at he
   have he : (ptP s ((ptP s (b + 3)).2.1 + 1)).2.1 + 1 = b + m := by omega
   have hA := zhs (s' := s') (a' := b' + 3) (m := (ptP s (b + 3)).2.1 - (b + 3)) q1 (by omega) (by
    exact ha.sub 3 (by omega))
   have hB := zhs (s' := s') (a' := b' + ((ptP s (b + 3)).2.1 + 1 - b)) (m := (ptP s ((ptP s (b + 3)).2.1 + 1)).2.1 - ((ptP s (b + 3)).2.1 + 1)) q3 (by omega) (by
    have h7 := ha.sub ((ptP s (b + 3)).2.1 + 1 - b) (m2 := (ptP s ((ptP s (b + 3)).2.1 + 1)).2.1 - ((ptP s (b + 3)).2.1 + 1) + 1) (by omega)
    rwa [show b + ((ptP s (b + 3)).2.1 + 1 - b) = (ptP s (b + 3)).2.1 + 1 from by omega] at h7)
   have e1 : b' + 3 + ((ptP s (b + 3)).2.1 - (b + 3)) = b' + ((ptP s (b + 3)).2.1 - b) := by omega
   have e2 : b' + ((ptP s (b + 3)).2.1 - b) + 1 = b' + ((ptP s (b + 3)).2.1 + 1 - b) := by omega
   rw [hA]
   dsimp only
   rw [e1, e2, hB]
   dsimp only
   rw [if_neg (by decide), ha.at (j := (ptP s (b + 3)).2.1) (by omega) (by omega) rfl, if_pos h45, if_neg (by rw [q3] at q2; simpa using q2)]
   rw [ha.at (j := (ptP s ((ptP s (b + 3)).2.1 + 1)).2.1) (by omega) (by omega) (by omega), if_pos hc]
   unfold mvT
   congr 3
   omega
  ·cases h
 ·next h45 =>
  split at h
  ·next hc =>
   cases h
   dsimp only at he
   have h4 := zaC (s := s) (i := (ptP s (b + 3)).2.1) (by omega)
   have he : (ptP s (b + 3)).2.1 + 1 = b + m := by omega
   have hA := zhs (s' := s') (a' := b' + 3) (m := (ptP s (b + 3)).2.1 - (b + 3)) q1 (by omega) (ha.sub 3 (by omega))
   have e1 : b' + 3 + ((ptP s (b + 3)).2.1 - (b + 3)) = b' + ((ptP s (b + 3)).2.1 - b) := by omega
   rw [hA]
   dsimp only
   rw [e1, if_neg (by decide), ha.at (j := (ptP s (b + 3)).2.1) (by omega) (by omega) rfl, if_neg h45, if_pos hc]
   unfold mvT
   congr 3
   omega
  ·cases h
theorem sg_one {c0 c1 c1' : Int} (h : (sgC c0 c1).2.length = 1) (h2 : (sgC c0 c1).1 ≠ 13) (hc : c1' = c1 ∨ (c1' ≠ 58 /\ c1' ≠ 124 /\ c1' ≠ 126)) : sgC c0 c1' = sgC c0 c1 := by
 rcases hc with rfl | ⟨q1, q2, q3⟩
 ·rfl
 unfold sgC at h h2 ⊢
 by_cases h37 : c0 = 37
 ·subst h37
  by_cases a101 : c1 = 101 <;> by_cases a102 : c1 = 102 <;> simp_all
 by_cases h94 : c0 = 94
 ·subst h94
  by_cases a43 : c1 = 43 <;> by_cases a45 : c1 = 45 <;> simp_all
 by_cases h60 : c0 = 60
 ·subst h60
  by_cases a45 : c1 = 45 <;> simp_all
 by_cases h45 : c0 = 45
 ·subst h45
  by_cases a62 : c1 = 62 <;> simp_all
 by_cases h47 : c0 = 47
 ·subst h47
  simp
 by_cases h38 : c0 = 38
 ·subst h38
  simp
 by_cases h33 : c0 = 33
 ·subst h33
  simp
 by_cases h63 : c0 = 63
 ·subst h63
  simp
 by_cases h42 : c0 = 42
 ·subst h42
  simp
 by_cases h43 : c0 = 43
 ·subst h43
  simp
 by_cases h40 : c0 = 40
 ·subst h40
  simp
 by_cases h41 : c0 = 41
 ·subst h41
  simp
 by_cases h46 : c0 = 46
 ·subst h46
  simp
 by_cases h123 : c0 = 123
 ·subst h123
  by_cases a58 : c1 = 58 <;> by_cases a124 : c1 = 124 <;> by_cases a126 : c1 = 126 <;> simp_all
 by_cases h58 : c0 = 58
 ·subst h58
  by_cases a125 : c1 = 125 <;> simp_all
 by_cases h124 : c0 = 124
 ·subst h124
  by_cases a125 : c1 = 125 <;> simp_all
 by_cases h126 : c0 = 126
 ·subst h126
  by_cases a125 : c1 = 125 <;> simp_all
 by_cases h125 : c0 = 125
 ·subst h125
  simp
 simp [*]
theorem zqa (c0 c1 : Int) : (sgC c0 c1).1 = 0 ∨ (sgC c0 c1).2.length = 1 ∨ (sgC c0 c1).2.length = 2 := by
 have h : ∀ l : List (Int × List UInt8), (∀ p ∈ l, p.2.length = 1 ∨ p.2.length = 2) -> (zc0 c0 c1 l).1 = 0 ∨ (zc0 c0 c1 l).2.length = 1 ∨ (zc0 c0 c1 l).2.length = 2 := by
  intro l
  induction l with
  | nil => intro _; exact .inl rfl
  | cons p l ih =>
   intro h
   rw [zc0]
   split
   ·exact .inr (h p (List.mem_cons_self ..))
   ·exact ih (fun q hq => h q (List.mem_cons_of_mem _ hq))
 rw [<- zim]
 exact h sgTab (by decide)
theorem sg21 {c0 c1 : Int} (h : (sgC c0 c1).1 = 21) : (sgC c0 c1).2.length = 2 := by
 have key : ∀ l : List (Int × List UInt8), (∀ p ∈ l, p.1 = 21 -> p.2.length = 2) -> (zc0 c0 c1 l).1 = 21 -> (zc0 c0 c1 l).2.length = 2 := by
  intro l
  induction l with
  | nil => intro _ q; cases q
  | cons p l ih =>
   intro h
   rw [zc0]
   split
   ·exact h p (List.mem_cons_self ..)
   ·exact ih (fun q hq => h q (List.mem_cons_of_mem _ hq))
 rw [<- zim] at h ⊢
 exact key sgTab (by decide) h
theorem znm {s s' : ByteArray} {b b' d d' m : Nat} {t : Tk} (_hd : d <= s.size) (h : zcq s b d = .inl t) (he : t.en = (d + m : Nat)) (ha : Ag s d s' d' m) (hf : Fol s (d + m) s' (d' + m)) : zcq s' b' d' = .inl { t with fr := b', en := (d' + m : Nat) } := by
 unfold zcq at h ⊢
 have hsp := zbo nmB s (by decide) d
 split at h
 ·next q1 =>
  split at h
  ·cases h
  next q2 =>
  split at h
  ·next q3 =>
   cases h
   dsimp only at he
   have hlt := zaC (s := s) (i := spN nmB s d) (by omega)
   have hm : spN nmB s d + 1 = d + m := by omega
   have hm2 : spN nmB s d = d + (m - 1) := by omega
   have h58 : chr s' (d' + (m - 1)) = 58 := by rw [ha (m - 1) (by omega), <- hm2]; exact q3
   have h1 : spN nmB s' d' = d' + (m - 1) := zcT (P := nmB) (by decide) (fun k hk => ha k (by omega)) hm2 (by rw [h58]; rfl)
   have hnx := (zbn (P := nmB) (s := s) (i := d) (by decide) (by unfold nmB; rw [q1]; rfl)).2
   have hnx2 := zbo nmB s (by decide) (d + 1)
   have h0 := ha 0 (by omega)
   rw [Nat.add_zero, Nat.add_zero] at h0
   have htx : s'.extract d' (d' + (m - 1)) = s.extract d (d + (m - 1)) := zeB (fun k hk => ha k (by omega)) (by omega) (by have := ha.in (by omega) (by omega); omega)
   rw [h0, if_pos q1, h1, show d' + (m - 1) - d' = spN nmB s d - d from by omega, if_neg q2, h58, if_pos rfl, htx, <- hm2, show d' + (m - 1) + 1 = d' + m from by omega]
  ·next q3 =>
   cases h
   dsimp only at he
   obtain rfl : m = 0 := by omega
   rw [Nat.add_zero, Nat.add_zero] at hf
   rcases hf with hf | ⟨e0, hr⟩
   ·rw [if_neg (by rw [(zp9 (zbM hf).1).2]; decide)]; rfl
   ·obtain ⟨r, r1, r2, r3⟩ := hr q1
    rw [e0, if_pos q1, r2, show d' + r - d' = spN nmB s d - d from by omega, if_neg q2, if_neg (fun q => q3 (by rw [r1]; exact r3 q))]
    rfl
 ·next q1 =>
  cases h
  dsimp only at he
  obtain rfl : m = 0 := by omega
  rw [Nat.add_zero, Nat.add_zero] at hf
  rcases hf with hf | ⟨e0, hr⟩
  ·rw [if_neg (by rw [(zp9 (zbM hf).1).2]; decide)]; rfl
  ·rw [e0, if_neg q1]; rfl
theorem zin {s s' : ByteArray} {b b' m : Nat} {t : Tk} (hb : b <= s.size) (h : zbk s b = .inl t) (he : t.en = (b + m : Nat)) (ha : Ag s b s' b' m) (hf : Fol s (b + m) s' (b' + m)) : zbk s' b' = .inl (mvT t b' m) /\ (zai s' b').1 = (zai s b).1 := by
 have hlen := zbA s b hb
 have hpos := zie s b
 have h12 := zqa (chr s b) (chr s (b + 1))
 rw [<- za3] at h12
 have key : 2 <= m -> zai s' b' = zai s b := fun q => by
  have h0 := ha 0 (by omega)
  rw [Nat.add_zero, Nat.add_zero] at h0
  rw [za3, za3, h0, ha 1 (by omega)]
 unfold zbk at h
 split at h
 ·cases h
 next q0 =>
 split at h
 ·next q1 =>
  obtain ⟨e, a1, a2, a3⟩ := zid hlen h
  have hsp : spN dgB s (b + (zai s b).2.length) = b + m := by
   unfold nmR at h
   cases hn : zde s (b + (zai s b).2.length) (gtK (zai s b).1) with
   | inr e => rw [hn] at h; cases h
   | inl n => rw [hn] at h; cases h; dsimp only at he; omega
  have hk := key (by omega)
  refine ⟨?_, by rw [hk]⟩
  unfold zbk
  rw [hk, if_neg q0, if_pos q1]
  have hst := (zbe dgB s (by decide) _ (b + (zai s b).2.length) rfl).2.2.1
  rw [hsp] at hst
  have := zhr (b' := b') (d' := b' + (zai s b).2.length) (m := m - (zai s b).2.length) h (by omega) (ha.sub _ (by omega)) (by
   rw [show b' + (zai s b).2.length + (m - (zai s b).2.length) = b' + m from by omega]; exact hf.dg hst)
  rw [this, show b' + (zai s b).2.length + (m - (zai s b).2.length) = b' + m from by omega]
  rfl
 next q1 =>
 split at h
 ·next q2 =>
  have hl2 : (zai s b).2.length = 2 := by rw [za3] at q2 ⊢; exact sg21 q2
  obtain ⟨e, a1, a2, a3⟩ := zhk hlen h
  have hk := key (by omega)
  refine ⟨?_, by rw [hk]⟩
  unfold zbk
  rw [hk, if_neg q0, if_neg q1, if_pos q2]
  have := znm (b' := b') (d' := b' + (zai s b).2.length) (m := m - (zai s b).2.length) hlen h (by rw [he]; omega) (ha.sub _ (by omega)) (by
   rw [show b + (zai s b).2.length + (m - (zai s b).2.length) = b + m from by omega, show b' + (zai s b).2.length + (m - (zai s b).2.length) = b' + m from by omega]; exact hf)
  rw [this, show b' + (zai s b).2.length + (m - (zai s b).2.length) = b' + m from by omega]
  rfl
 ·next q2 =>
  cases h
  dsimp only at he
  have hm : m = (zai s b).2.length := by omega
  have hk : zai s' b' = zai s b := by
   rcases h12 with h12 | h12 | h12
   ·exact absurd h12 q0
   ·have hm1 : m = 1 := by omega
    subst hm1
    have h0 := ha 0 (by omega)
    rw [Nat.add_zero, Nat.add_zero] at h0
    rw [za3, za3, h0]
    refine sg_one (by rw [<- za3]; exact h12) (by rw [<- za3]; omega) ?_
    rcases hf with hf | ⟨e0, _⟩
    ·have := zbM hf; exact .inr ⟨this.2.1, this.2.2.2.1, this.2.2.2.2⟩
    ·exact .inl e0
   ·exact key (by omega)
  refine ⟨?_, by rw [hk]⟩
  unfold zbk
  rw [hk, if_neg q0, if_neg q1, if_neg q2, <- hm]
  rfl
theorem zkY {s s' : ByteArray} {b b' n : Nat} {x : BitVec 256} (h : zal s b = .inl (x, n)) (ha : Ag s b s' b' (n - b)) : zal s' b' = .inl (x, b' + (n - b)) := by
 have hgt := zgx h
 have hok := zgt h
 have hin := ha.in (by omega) (by omega)
 unfold zal at h ⊢
 rw [Int.toNat_natCast] at h ⊢
 split at h
 ·cases h
 split at h
 ·next q1 =>
  have h0 := ha 0 (by omega)
  rw [Nat.add_zero, Nat.add_zero] at h0
  rw [if_neg (by omega), h0, if_pos q1]
  split at h
  ·next q2 =>
   cases hm : zab s (s.size + 1) 0#256 (b + 2) with
   | inr p => obtain ⟨a, c⟩ := p; rw [hm] at h; cases h
   | inl p =>
    obtain ⟨y, k⟩ := p
    rw [hm] at h
    cases h
    have hb := zaI hm
    rw [ha 1 (by omega), if_pos q2]
    have := zdT s s' _ (s'.size + 1) _ _ _ (b' + 2) (k + 1 - b - 2) _ hm (ha.sub 2 (by omega)) (by omega) (by omega)
    rw [this, zdQ, show b' + 2 + (k - (b + 2)) + 1 = b' + (k + 1 - b) from by omega]
  ·next q2 =>
   cases hm : zab s (s.size + 1) 0#256 (b + 1) with
   | inr p => obtain ⟨a, c⟩ := p; rw [hm] at h; cases h
   | inl p =>
    obtain ⟨y, k⟩ := p
    rw [hm] at h
    cases h
    have hb := zaI hm
    rw [ha 1 (by omega), if_neg q2]
    have := zdT s s' _ (s'.size + 1) _ _ _ (b' + 1) (k + 1 - b - 1) _ hm (ha.sub 1 (by omega)) (by omega) (by omega)
    rw [this, zfL, show b' + 1 + (k - (b + 1)) + 1 = b' + (k + 1 - b) from by omega]
 ·cases h
theorem znn {s s' : ByteArray} {b b' m : Nat} {t : Tk} (hb : b <= s.size) (h37 : chr s b = 37) (h : zcr s b = .inl t) (he : t.en = (b + m : Nat)) (ha : Ag s b s' b' m) (hf : Fol s (b + m) s' (b' + m)) : zcr s' b' = .inl (mvT t b' m) := by
 have hen := zkL hb h
 obtain ⟨e, x1, x2, x3⟩ := hen
 have h0 := ha 0 (by omega)
 rw [Nat.add_zero, Nat.add_zero] at h0
 unfold zcr at h
 split at h
 ·next q1 =>
  have hl : b + 3 <= s.size := zfI hb q1
  have hm := zkK hl h
  have := znl hl h he ha
  have hp : pfx s' b' [37, 117, 123] = true := by
   obtain ⟨e2, y1, y2, y3⟩ := hm
   have h3 : 3 <= m := by
    have hmm := this
    unfold zbY at h
    split at h
    ·cases h
    have hpt := zbE hl
    split at h
    ·next h45 =>
     have h2 := zaC (s := s) (i := (ptP s (b + 3)).2.1) (by omega)
     have h3 := zbE (s := s) (a := (ptP s (b + 3)).2.1 + 1) (by omega)
     split at h
     ·cases h
     split at h
     ·cases h; dsimp only at he; omega
     ·cases h
    ·split at h
     ·cases h; dsimp only at he; omega
     ·cases h
   have e0 : pfx s' b' [37, 117, 123] = pfx s b [37, 117, 123] := by
    show (chr s' b' == 37 && (chr s' (b' + 1) == 117 && (chr s' (b' + 1 + 1) == 123 && true))) = (chr s b == 37 && (chr s (b + 1) == 117 && (chr s (b + 1 + 1) == 123 && true)))
    rw [h0, ha 1 (by omega), show b' + 1 + 1 = b' + 2 from rfl, ha 2 (by omega)]
   rw [e0]; exact q1
  unfold zcr
  rw [if_pos hp]
  exact this
 next q1 =>
 have hq : ∀ m2, m2 = m -> 2 <= m2 -> (m2 = 2 ∨ chr s (b + 1) ≠ 117) -> pfx s' b' [37, 117, 123] = false := fun m2 em h2 hor => by
  subst em
  have q1 : pfx s b [37, 117, 123] = false := by cases hh : pfx s b [37, 117, 123]; rfl; exact absurd hh q1
  show (chr s' b' == 37 && (chr s' (b' + 1) == 117 && (chr s' (b' + 1 + 1) == 123 && true))) = false
  have q1 : (chr s b == 37 && (chr s (b + 1) == 117 && (chr s (b + 1 + 1) == 123 && true))) = false := q1
  rw [h0, h37, ha 1 (by omega)]
  rw [h37] at q1
  by_cases u : chr s (b + 1) = 117
  ·rw [u] at q1 ⊢
   have c1 : ¬ chr s (b + 2) = 123 := by simpa using q1
   have c2 : ¬ chr s' (b' + 2) = 123 := by
    rcases hor with hor | hor
    ·subst hor
     rcases hf with hf | ⟨e0, _⟩
     ·exact (zbM hf).2.2.1
     ·rw [e0]; exact c1
    ·exact absurd u hor
   simpa using c2
  ·rw [bF u]; simp
 split at h
 ·next q2 =>
  have hs2 := zin hb h he ha hf
  have h2 : (zai s b).2.length = 2 /\ chr s (b + 1) ≠ 117 := by
   rw [za3, h37] at q2 ⊢
   unfold sgC at q2 ⊢
   rw [if_pos rfl] at q2 ⊢
   by_cases u1 : chr s (b + 1) = 101
   ·rw [if_pos u1]; exact ⟨rfl, by omega⟩
   ·rw [if_neg u1] at q2 ⊢
    by_cases u2 : chr s (b + 1) = 102
    ·rw [if_pos u2]; exact ⟨rfl, by omega⟩
    ·rw [if_neg u2] at q2; exact absurd rfl q2
  have hm2 : 2 <= m := by
   have hl := zbA s b hb
   have hsg := zhl hb h
   unfold zbk at h
   split at h
   ·cases h
   split at h
   ·obtain ⟨e, a1, a2, a3⟩ := zid hl h; omega
   split at h
   ·obtain ⟨e, a1, a2, a3⟩ := zhk hl h; omega
   ·cases h; dsimp only at he; omega
  unfold zcr
  rw [if_neg (by rw [hq m rfl hm2 (.inr h2.2)]; decide), if_pos (by rw [hs2.2]; exact q2)]
  exact hs2.1
 next q2 =>
 split at h
 ·next q3 =>
  cases h
  dsimp only at he
  have hm2 : m = 2 := by omega
  subst hm2
  have hin := ha.in (by omega) (by omega)
  have e1 := ha 1 (by omega)
  have hsg : zai s' b' = zai s b := by rw [za3, za3, h0, e1]
  have htx : s'.extract (b' + 1) (b' + 2) = s.extract (b + 1) (b + 2) := zeB (m := 1) (ha.sub 1 (by omega)) (by omega) (by omega)
  unfold zcr
  rw [if_neg (by rw [hq 2 rfl (by omega) (.inl rfl)]; decide), hsg, if_neg q2, e1, if_pos ⟨by omega, q3.2⟩, htx]
  rfl
 ·cases h
theorem zno {s s' : ByteArray} {b b' m : Nat} {t : Tk} (hb : b < s.size) (h : zaz s b = .inl t) (he : t.en = (b + m : Nat)) (ha : Ag s b s' b' m) (hf : Fol s (b + m) s' (b' + m)) : zaz s' b' = .inl (mvT t b' m) := by
 obtain ⟨e, x1, x2, x3⟩ := zfQ s b t hb h
 have h1 : 1 <= m := by omega
 have hin := ha.in h1 (by omega)
 have h0 := ha 0 (by omega)
 rw [Nat.add_zero, Nat.add_zero] at h0
 unfold zaz at h ⊢
 rw [h0]
 split at h
 ·next q =>
  rw [if_pos q]
  have hm : spN nmB s b = b + m := by
   unfold zb0 at h
   split at h
   ·cases h
   ·cases h; dsimp only at he; omega
  have hst := (zbe nmB s (by decide) _ b rfl).2.2.1
  rw [hm] at hst
  exact zkX h hm h1 (by omega) ha (hf.nm hst)
 next q0 =>
 rw [if_neg q0]
 split at h
 ·next q =>
  rw [if_pos q]
  have hm : spN dgB s b = b + m := by
   unfold nmR at h
   cases hn : zde s b (gtK 4) with
   | inr e => rw [hn] at h; cases h
   | inl n => rw [hn] at h; cases h; dsimp only at he; omega
  have hst := (zbe dgB s (by decide) _ b rfl).2.2.1
  rw [hm] at hst
  exact zhr h hm ha (hf.dg hst)
 next q1 =>
 rw [if_neg q1]
 split at h
 ·next q =>
  rw [if_pos q]
  unfold zeJ at h ⊢
  rw [h0]
  have hge := zdr s _ b (by omega) _ _ _ _ h
  obtain ⟨e2, y1, y2, y3⟩ := hge
  have := znj s s' (chr s b) b b' (by omega) _ (s'.size + 1) [] (b + 1) (b' + 1) (m - 1) t (b + m) h he (by omega) (ha.sub 1 (by omega)) (by omega)
  rw [this, show b' + 1 + (m - 1) = b' + m from by omega]
  rfl
 next q2 =>
 rw [if_neg q2]
 split at h
 ·next q =>
  rw [if_pos q]
  cases hr : zal s b with
  | inr p =>
   rw [hr, clT] at h
   split at h <;> cases h
  | inl p =>
   obtain ⟨x, n⟩ := p
   rw [hr] at h
   cases h
   dsimp only at he
   have hn : n - b = m := by omega
   rw [zkY hr (by rw [hn]; exact ha), hn]
   rfl
 next q3 =>
 rw [if_neg q3]
 split at h
 ·next q => rw [if_pos q]; exact znn (by omega) q h he ha hf
 ·next q => rw [if_neg q]; exact (zin (by omega) h he ha hf).1
def Chn (s : ByteArray) (i : Nat) : List Tk -> Prop
 | [] => zbT s i = s.size
 | t :: l => zbT s i < s.size /\ zaz s (zbT s i) = .inl t /\ ∃ e : Nat, t.en = e /\ zbT s i < e /\ e <= s.size /\ Chn s e l
theorem chn_of (s : ByteArray) : ∀ (f : Nat) (out : List Tk) (i : Nat) (l : List Tk), i <= s.size -> s.size < f + zbT s i -> zcW (zaz s) s f out (zbT s i) = .inl l -> ∃ l2, l = out ++ l2 /\ Chn s i l2 := by
 intro f
 induction f with
 | zero => intro out i l hi hf h; have := (zc8 hi).2; omega
 | succ f ih =>
  intro out i l hi hf h
  have hb := zc8 hi
  rw [zcW] at h
  by_cases hlt : zbT s i < s.size
  ·rw [if_pos hlt] at h
   cases ho : zaz s (zbT s i) with
   | inr q => rw [ho] at h; cases h
   | inl t =>
    rw [ho] at h
    dsimp only at h
    obtain ⟨e, e1, e2, e3⟩ := zfQ s _ t hlt ho
    rw [e1, Int.toNat_natCast] at h
    have hge := zhp s e e3
    obtain ⟨l2, h2, h3⟩ := ih (out ++ [t]) e l e3 (by omega) h
    refine ⟨t :: l2, by rw [h2, List.append_assoc]; rfl, hlt, ho, e, e1, e2, e3, h3⟩
  ·rw [if_neg hlt] at h
   cases h
   exact ⟨[], by rw [List.append_nil], by show zbT s i = s.size; omega⟩
theorem zqb (s : ByteArray) : ∀ (l : List Tk) (f : Nat) (out : List Tk) (i : Nat), i <= s.size -> s.size < f + zbT s i -> Chn s i l -> zcW (zaz s) s f out (zbT s i) = .inl (out ++ l) := by
 intro l
 induction l with
 | nil =>
  intro f out i hi hf h
  have h : zbT s i = s.size := h
  cases f with
  | zero => omega
  | succ f => rw [zcW, if_neg (by omega), List.append_nil]
 | cons t l ih =>
  intro f out i hi hf h
  obtain ⟨h1, h2, e, e1, e2, e3, h3⟩ := h
  cases f with
  | zero => omega
  | succ f =>
   have hge := zhp s e e3
   rw [zcW, if_pos h1, h2]
   dsimp only
   rw [e1, Int.toNat_natCast, ih f (out ++ [t]) e e3 (by omega) h3, List.append_assoc]
   rfl
theorem zkZ {s : ByteArray} {l : List Tk} (h : zcl (zaz s) s = .inl l) : s.size <= 65536 /\ Chn s 0 l := by
 unfold zcl at h
 split at h
 ·cases h
 ·next q =>
  obtain ⟨l2, h2, h3⟩ := chn_of s _ _ 0 l (by omega) (by have := (zc8 (s := s) (i := 0) (by omega)).1; omega) h
  rw [h2]
  exact ⟨by omega, h3⟩
theorem zff {s : ByteArray} {l : List Tk} (hs : s.size <= 65536) (h : Chn s 0 l) : zcl (zaz s) s = .inl l := by
 unfold zcl
 rw [if_neg (by omega), zqb s l _ [] 0 (by omega) (by have := (zc8 (s := s) (i := 0) (by omega)).1; omega) h]
 rfl
theorem zk0 {s : ByteArray} {b m : Nat} {t : Tk} (h45 : chr s b = 45) (h : zaz s b = .inl t) (he : t.en = (b + m : Nat)) : m = 2 := by
 unfold zaz at h
 rw [h45, if_neg (by decide), if_neg (by decide), if_neg (by decide), if_neg (by decide), if_neg (by decide)] at h
 unfold zbk at h
 rw [za3, h45] at h
 have e : sgC 45 (chr s (b + 1)) = if chr s (b + 1) = 62 then (27, [45, 62]) else (0, []) := by
  unfold sgC
  rw [if_neg (by decide), if_neg (by decide), if_neg (by decide), if_pos rfl]
 rw [e] at h
 by_cases q : chr s (b + 1) = 62
 ·rw [if_pos q] at h
  simp at h
  cases h
  dsimp only at he
  omega
 ·rw [if_neg q] at h
  simp at h
theorem zjj {s s' : ByteArray} {b b' m : Nat} {t : Tk} (hb : b < s.size) (hnb : ¬ (chr s b = 9 ∨ chr s b = 10 ∨ chr s b = 13 ∨ chr s b = 32)) (hnn : ¬ (chr s b = 45 /\ chr s (b + 1) = 45)) (h : zaz s b = .inl t) (he : t.en = (b + m : Nat)) (ha : Ag s b s' b' m) : zbT s' b' = b' /\ b' < s'.size := by
 obtain ⟨e, x1, x2, x3⟩ := zfQ s b t hb h
 have hin := ha.in (by omega) (by omega)
 have h0 := ha 0 (by omega)
 rw [Nat.add_zero, Nat.add_zero] at h0
 refine ⟨?_, by omega⟩
 rw [zb7, if_pos (by omega), if_neg (fun q => ?_), if_neg (by rw [h0]; exact hnb)]
 have h45 : chr s b = 45 := by rw [<- h0]; exact q.1
 have hm := zk0 h45 h he
 exact hnn ⟨h45, by rw [<- ha 1 (by omega)]; exact q.2⟩
def zeK (s : ByteArray) : Bool := decide (0 < s.size) && decide (s.size <= 32) && hdB (chr s 0) && spN nmB s 0 == s.size
theorem zgC {s : ByteArray} (h : ¬ 0 < s.size) : s = ⟨#[]⟩ := by
 apply ByteArray.ext
 apply Array.eq_empty_of_size_eq_zero
 have : s.data.size = s.size := rfl
 omega
def txF (k : Int) (tx : ByteArray) : Bool := if k = 1 then zeK tx else if k = 21 then (tx.toList == []) || zeK tx else if k = 2 then decide ((tx.size : Int) <= 255) else if k = 28 then ((tx.size : Int) == 1) else (tx.toList == [])
def nbF (k n s0 : Int) : Bool := decide (0 <= n) && decide (n <= if k = 5 then s0 else gtK k)
def seF (k : Int) (tx : ByteArray) (s0 s1 s2 s3 : Int) : Bool := if k = 3 then true else if k = 28 then ((cls (chr tx 0).toNat).2 == 0) && (s0 == wd (cls (chr tx 0).toNat).1 0 && (s1 == wd (cls (chr tx 0).toNat).1 1 && (s2 == wd (cls (chr tx 0).toNat).1 2 && s3 == wd (cls (chr tx 0).toNat).1 3))) else if k = 5 then decide (s0 <= 1114111) && (s0 == s0 && (s1 == 0 && (s2 == 0 && s3 == 0))) else (s0 == 0 && (s1 == 0 && (s2 == 0 && s3 == 0)))
def riF (t : Tk) : Bool := decide (1 <= t.kd) && decide (t.kd <= 30) && txF t.kd t.tx && nbF t.kd t.nn t.s0 && seF t.kd t.tx t.s0 t.s1 t.s2 t.s3
structure TkB (t : Tk) : Prop where
 n : t.nn < 9223372036854775808
 u0 : 0 <= t.s0
 u1 : t.s0 < 18446744073709551616
 u2 : 0 <= t.s1 /\ t.s1 < 18446744073709551616
 u3 : 0 <= t.s2 /\ t.s2 < 18446744073709551616
 u4 : 0 <= t.s3 /\ t.s3 < 18446744073709551616
def dgs (b : Nat) : Nat -> Nat -> List UInt8
 | 0, _ => []
 | f + 1, n => if n < b then [zbZ n] else dgs b f (n / b) ++ [zbZ (n % b)]
def dgT (b n : Nat) : List UInt8 := dgs b (n + 1) n
theorem zdu {b n : Nat} (hb : 2 <= b) (h : ¬ n < b) : n / b < n := Nat.div_lt_self (by omega) hb
theorem znp (b : Nat) (hb : 2 <= b) : ∀ f g n, n < f -> n < g -> dgs b f n = dgs b g n := by
 intro f
 induction f with
 | zero => intro g n h; omega
 | succ f ih =>
  intro g n h1 h2
  cases g with
  | zero => omega
  | succ g =>
   unfold dgs
   by_cases h : n < b
   ·rw [if_pos h, if_pos h]
   ·have hd := zdu hb h
    rw [if_neg h, if_neg h, ih g (n / b) (by omega) (by omega)]
theorem zeD {b n : Nat} (h : n < b) : dgT b n = [zbZ n] := by
 unfold dgT dgs
 rw [if_pos h]
theorem zgD {b n : Nat} (hb : 2 <= b) (h : ¬ n < b) : dgT b n = dgT b (n / b) ++ [zbZ (n % b)] := by
 have hd := zdu hb h
 have e : dgT b n = dgs b n (n / b) ++ [zbZ (n % b)] := by
  unfold dgT
  conv => lhs; unfold dgs
  rw [if_neg h]
 rw [e, znp b hb n (n / b + 1) (n / b) hd (by omega)]
 rfl
theorem zio (b n : Nat) (hb : 2 <= b) : dgT b n ≠ [] := by
 by_cases h : n < b
 ·rw [zeD h]; simp
 ·rw [zgD hb h]; simp
theorem zdJ (b : Nat) (hb : 2 <= b) : ∀ (k n : Nat), n < b ^ (k + 1) -> (dgT b n).length <= k + 1 := by
 intro k
 induction k with
 | zero =>
  intro n h
  rw [zeD (by simpa using h)]
  simp
 | succ k ih =>
  intro n h
  by_cases h1 : n < b
  ·rw [zeD h1]; simp
  ·have h2 : n / b < b ^ (k + 1) := by
    rw [Nat.div_lt_iff_lt_mul (by omega), <- Nat.pow_succ]
    exact h
   rw [zgD hb h1, List.length_append, List.length_singleton]
   have := ih (n / b) h2
   omega
def gnm (s : ByteArray) : ByteArray := if s.size = 0 then ⟨#[]⟩ else s ++ ⟨#[58]⟩
end Go.Proofs.YtnpifgcgjgddoaaGreatDoor
namespace Go.Proofs.YtnpifgcgjgddoaaGreatDoor.Q
open Go.RowKit
theorem Tryz.sizeB : (Tryz.prog.info? 57).map (·.size) = some 2 := by kernel_rfl
theorem zcP (b : Nat) (w : World) (h0 : w.cell? ⟨b, 0, none⟩ = some (.pointer (some ⟨b, 0, none⟩))) :
  Calls Tryz.prog 71 #[.pointer (some ⟨b, 0, none⟩)] w fun e w' => e = .returned (.tuple #[]) /\ w' = w := by
 obtain ⟨j, hj, hjs⟩ := Option.map_eq_some_iff.1 Tryz.sizeB
 go_enter Tryz.func71, Tryz.ntmps71
 go_wp2
 rw [Lib.run_neq_ptr_same w _ Tryz.underlying54 hj]
 go_wp2
 go_end0
 exact ⟨rfl, rfl⟩
theorem zc3 (b : Nat) (w : World) (h0 : w.cell? ⟨b, 0, none⟩ = some (.pointer none)) (hsh : w.shape? b = some (57, 2)) (hfz : w.frozen? ⟨b, 0, none⟩ = false) :
  Calls Tryz.prog 71 #[.pointer (some ⟨b, 0, none⟩)] w fun e w' => e = .returned (.tuple #[]) /\ w' = w.setCell ⟨b, 0, none⟩ (.pointer (some ⟨b, 0, none⟩)) := by
 obtain ⟨j, hj, hjs⟩ := Option.map_eq_some_iff.1 Tryz.sizeB
 go_enter Tryz.func71, Tryz.ntmps71
 go_wp2
 rw [Lib.run_to_unsafe w ⟨b, 0, none⟩ Tryz.underlying54 Tryz.underlying140 hj (by rw [hjs]; decide) hsh (Nat.zero_lt_succ 1)]
 simp only [Result.andThen]
 rw [Oper.upon_value]
 go_wp2
 rw [run_callFunc_extern Tryz.func94 (by kernel_rfl) (by kernel_rfl) (by kernel_rfl) (e := Extern.AbiNoEscape.same) (by kernel_rfl)]
 rw [Lib.run_noEscape]
 simp only [Result.andThen]
 rw [Oper.upon_value]
 go_wp2
 rw [Lib.run_from_unsafe w ⟨b, 0, none⟩ Tryz.underlying140 Tryz.underlying54 hj hsh (by kernel_rfl)]
 simp only [Result.andThen]
 rw [Oper.upon_value]
 go_wp2
 go_end0
 exact ⟨rfl, rfl⟩
structure KeepT (b : Nat) (w w' : World) : Prop where
 size : w.heap.size <= w'.heap.size
 block : ∀ k, k < w.heap.size -> k ≠ b -> (∀ c fr, w.heap[k]? ≠ some (.cells c 5 fr)) -> w'.heap[k]? = w.heap[k]?
theorem KeepT.refl (b : Nat) (w : World) : KeepT b w w := ⟨Nat.le_refl _, fun _ _ _ _ => rfl⟩
theorem KeepT.trans {b : Nat} {x y z : World} (h : KeepT b x y) (k : KeepT b y z) : KeepT b x z :=
 ⟨Nat.le_trans h.size k.size, fun j hj hb ht => by
  have e := h.block j hj hb ht
  exact (k.block j (Nat.lt_of_lt_of_le hj h.size) hb (fun c fr => by rw [e]; exact ht c fr)).trans e⟩
theorem KeepT.setCell (b j : Nat) (w : World) (u : Value) : KeepT b w (w.setCell ⟨b, j, none⟩ u) :=
 ⟨by simp [World.setCell], fun k _ hk _ => Below.heap_setCell _ _ _ _ hk⟩
theorem KeepT.alloc (b : Nat) (w : World) (o : Obj) : KeepT b w (w.alloc o) := ⟨by simp, fun k hk _ _ => Below.heap_alloc _ _ _ hk⟩
theorem KeepT.grown {b : Nat} {w w' : World} {base : Nat} {v : Value} {n : Nat} {xs : List Value} (ho : w.ownsRow base 5 1 v n xs) (hg : w.grownBy w' v.ownBlock) : KeepT b w w' :=
 ⟨hg.size, fun k hk _ ht => hg.block k hk (fun e => by
  rcases ho.2 with ⟨rfl, _⟩ | ⟨g, cap, cur, rfl, _, hgb, _⟩
  ·cases e
  ·obtain rfl : k = g := by simpa [Value.ownBlock] using e
   exact ht _ _ hgb)⟩
theorem za5 (b : Nat) (bs : List Value) (w : World) (h : Lib.IsBuilder 57 5 b b bs w) :
  Calls Tryz.prog 71 #[.pointer (some ⟨b, 0, none⟩)] w fun e w' => e = .returned (.tuple #[]) /\ Lib.BuilderAt 57 5 b b (.pointer (some ⟨b, 0, none⟩)) bs w' /\ Below b w w' /\ KeepT b w w' := by
 rcases h with h | h
 ·refine (zc3 b w h.cell0 h.shape h.frozen0).mono ?_
  rintro e w' ⟨rfl, rfl⟩
  exact ⟨rfl, h.used _, (Below.refl b w).setCell (p := ⟨b, 0, none⟩) h.1 _, KeepT.setCell b 0 w _⟩
 ·refine (zcP b w h.cell0).mono ?_
  rintro e w' ⟨rfl, rfl⟩
  exact ⟨rfl, h, Below.refl b _, KeepT.refl b _⟩
theorem zbl (b : Nat) (bs : List Value) (c : Int) (w : World) (h : Lib.IsBuilder 57 5 b b bs w) (hlen : bs.length + 1 <= 140737488355328) :
  Calls Tryz.prog 123 #[.pointer (some ⟨b, 0, none⟩), .int .u8 c] w fun e w' => e = .returned .nilIface /\ Lib.IsBuilder 57 5 b b (bs ++ [.int .u8 c]) w' /\ Below b w w' /\ KeepT b w w' := by
 obtain ⟨i0, hi, hz0, hz1, hz2⟩ := info_parts Tryz.info5
 go_enter Tryz.func123, Tryz.ntmps123
 go_wp2_with fail
 refine (za5 b bs _ h).mono ?_
 rintro e w1 ⟨rfl, h1, hb1, hk1⟩
 have hlt := h1.lt
 obtain ⟨hB, v, hbk, hown, hne⟩ := h1
 have c0 : w1.cell? ⟨b, 0, none⟩ = some (.pointer (some ⟨b, 0, none⟩)) := by rw [Lib.cell_of_heap hbk]; rfl
 have c1 : w1.cell? ⟨b, 1, none⟩ = some v := by rw [Lib.cell_of_heap hbk]; rfl
 go_wp2_with (at_builtin; refine wpList_append_own _ rfl _ _ 55 rfl b 5 i0 (.int .u8 0) 1 1 Tryz.underlying55 hi hz0 hz1 hz2 rfl (by decide) _ _ _ rfl (hown.alloc _) ⟨w1.heap.size, 0, none⟩ 1 1 [.int .u8 c] rfl rfl (cell_one_new _ _ _) ?c2 ?c3 ?c4 ?c5 ?_)
 case c2 => intro u hu; simp at hu; subst hu; rfl
 case c3 => unfold maxLen; omega
 case c4 => omega
 case c5 => simp; omega
 intro v' w2 hown' hgrow _
 have hb2 : w2.heap[b]? = some (.cells #[.pointer (some ⟨b, 0, none⟩), v] 57 (0, 0)) := by
  rw [hgrow.block b (by simp; omega) (fun e => hne e.symm), Lib.alloc_old w1 _ b hlt]
  exact hbk
 have d0 : w2.cell? ⟨b, 0, none⟩ = some (.pointer (some ⟨b, 0, none⟩)) := by rw [Lib.cell_of_heap hb2]; rfl
 have d1 : w2.cell? ⟨b, 1, none⟩ = some v := by rw [Lib.cell_of_heap hb2]; rfl
 have f1 : w2.frozen? ⟨b, 1, none⟩ = false := Lib.frozen_of_heap hb2 1
 obtain ⟨g, cap, rfl⟩ := ownsRow_succ hown'
 go_wp2
 go_ret
 refine ⟨rfl, .inr ?_, ?_, ?_⟩
 ·exact Lib.BuilderAt.put (T := 57) (e := 5) hB hb2 (bs' := bs ++ [.int .u8 c]) (by simpa using hown') (by decide)
 ·exact ((hb1.alloc (by omega) _).grown hgrow (by simp; omega) (fun k hk => (hown.lt k hk).1)).setCell (p := ⟨b, 1, none⟩) hB _
 ·exact ((hk1.trans (KeepT.alloc b w1 _)).trans (KeepT.grown (hown.alloc _) hgrow)).trans (KeepT.setCell b 1 w2 _)
theorem zbO (b : Nat) (bs : List Value) (s : ByteArray) (w : World) (h : Lib.IsBuilder 57 5 b b bs w) (hlen : bs.length + s.size <= 140737488355328) :
  Calls Tryz.prog 48 #[.pointer (some ⟨b, 0, none⟩), .string s] w fun e w' => e = .returned (.tuple #[.int .i64 s.size, .nilIface]) /\ Lib.IsBuilder 57 5 b b (bs ++ Lib.strCells s) w' /\ Below b w w' /\ KeepT b w w' := by
 obtain ⟨i0, hi, hz0, hz1, hz2⟩ := info_parts Tryz.info5
 go_enter Tryz.func48, Tryz.ntmps48
 go_wp2_with fail
 refine (za5 b bs _ h).mono ?_
 rintro e w1 ⟨rfl, h1, hb1, hk1⟩
 have hlt := h1.lt
 obtain ⟨hB, v, hbk, hown, hne⟩ := h1
 have c0 : w1.cell? ⟨b, 0, none⟩ = some (.pointer (some ⟨b, 0, none⟩)) := by rw [Lib.cell_of_heap hbk]; rfl
 have c1 : w1.cell? ⟨b, 1, none⟩ = some v := by rw [Lib.cell_of_heap hbk]; rfl
 go_wp2_with (at_builtin; refine Lib.wpList_append_own_string _ rfl _ _ 55 9 rfl b 5 i0 Tryz.underlying55 Tryz.underlying9 hi hz0 hz1 hz2 _ _ _ rfl hown s rfl ?c3 ?c4 ?c5 ?_)
 case c3 => unfold maxLen; omega
 case c4 => omega
 case c5 => omega
 intro v' w2 hown' hgrow _
 have hb2 : w2.heap[b]? = some (.cells #[.pointer (some ⟨b, 0, none⟩), v] 57 (0, 0)) := by
  rw [hgrow.block b hlt (fun e => hne e.symm)]
  exact hbk
 have d0 : w2.cell? ⟨b, 0, none⟩ = some (.pointer (some ⟨b, 0, none⟩)) := by rw [Lib.cell_of_heap hb2]; rfl
 have d1 : w2.cell? ⟨b, 1, none⟩ = some v := by rw [Lib.cell_of_heap hb2]; rfl
 have f1 : w2.frozen? ⟨b, 1, none⟩ = false := Lib.frozen_of_heap hb2 1
 obtain ⟨ao, n', cap, rfl⟩ : ∃ ao n' cap, v' = .slice ao n' cap := by
  rcases hown'.2 with ⟨hv, _⟩ | ⟨g, cap, cur, hv, _⟩
  ·exact ⟨_, _, _, hv⟩
  ·exact ⟨_, _, _, hv⟩
 go_wp2
 go_ret2
 refine ⟨rfl, .inr ?_, ?_, ?_⟩
 ·exact Lib.BuilderAt.put (T := 57) (e := 5) hB hb2 (bs' := bs ++ Lib.strCells s) (by simpa [Lib.strCells_length] using hown') (by decide)
 ·exact (hb1.grown hgrow (by omega) (fun k hk => (hown.lt k hk).1)).setCell (p := ⟨b, 1, none⟩) hB _
 ·exact (hk1.trans (KeepT.grown hown hgrow)).trans (KeepT.setCell b 1 w2 _)
end Go.Proofs.YtnpifgcgjgddoaaGreatDoor.Q
