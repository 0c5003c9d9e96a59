/- DERIVED. Plain mathematics and walks, laid together (6). -/
import Derived.Laws.Bits64b
import Derived.Deep.RegionHeld3
import Derived.Test.YtnpifgcgjgddoaaGreatDoorCards
import Derived.Test.YtnpifgcgjgddoaaGreatDoorTie
import Derived.WalkKit
import Derived.ProofKit
import Derived.OpenShut
import Derived.ShutString
import Derived.ChangeOld
import Derived.ChangeSame
import Derived.SizedLaws
import Derived.FnData
import Derived.Deep.DeepHandedRow
import Derived.Lib.LaidTab
import Derived.Deep.SlicePairs
import Derived.Lib.SmallJoins
import Derived.Laws.IdiomArrays
import Derived.Test.YtnpifgcgjgddoaaGreatDoorPg05
namespace Go.Proofs.YtnpifgcgjgddoaaGreatDoor
open Go.RowKit
def mkS (a b c d : Int) : BitVec 256 := BitVec.ofNat 256 (a.toNat + 2 ^ 64 * (b.toNat + 2 ^ 64 * (c.toNat + 2 ^ 64 * d.toNat)))
theorem mkS_wd (a b c d : Int) (ha : 0 ≤ a ∧ a < 18446744073709551616) (hb : 0 ≤ b ∧ b < 18446744073709551616) (hc : 0 ≤ c ∧ c < 18446744073709551616) (hd : 0 ≤ d ∧ d < 18446744073709551616) :
    wd (mkS a b c d) 0 = a ∧ wd (mkS a b c d) 1 = b ∧ wd (mkS a b c d) 2 = c ∧ wd (mkS a b c d) 3 = d := by
  unfold mkS
  simp only [wd, BitVec.extractLsb'_toNat, BitVec.toNat_ofNat, Nat.shiftRight_eq_div_pow]
  refine ⟨?_, ?_, ?_, ?_⟩ <;> omega
def txO (l : List UInt8) : ByteArray := ⟨l.toArray⟩
def rnT (a b : Nat) : ByteArray := ⟨#[37, 117, 123]⟩ ++ txO (dgT 16 a) ++ ⟨#[45]⟩ ++ txO (dgT 16 b) ++ ⟨#[125]⟩
def tkX (t : Tk) : ByteArray :=
  if t.kd = 1 then t.tx else if t.kd = 21 then ⟨#[123, 58]⟩ ++ gnm t.tx else if t.kd = 2 then Q.asText (Q.qT t.tx) else
  if t.kd = 3 then txO (shT (mkS t.s0 t.s1 t.s2 t.s3)) else if t.kd = 28 then ⟨#[37]⟩ ++ t.tx else if t.kd = 5 then rnT t.nn.toNat t.s0.toNat else
  if t.kd = 4 then txO (dgT 10 t.nn.toNat) else if t.kd = 13 then ⟨#[94]⟩ ++ txO (dgT 10 t.nn.toNat) else if t.kd = 14 then ⟨#[94, 43]⟩ ++ txO (dgT 10 t.nn.toNat) else
  if t.kd = 15 then ⟨#[94, 45]⟩ ++ txO (dgT 10 t.nn.toNat) else if t.kd = 29 then ⟨#[37, 101]⟩ else if t.kd = 30 then ⟨#[37, 102]⟩ else txO (sgn t.kd.toNat)
/-- What a right token holds, kind by kind. -/
theorem ri_nat {t : Tk} (h : riF t = true) : 1 ≤ t.kd ∧ t.kd ≤ 30 ∧ txF t.kd t.tx = true ∧ 0 ≤ t.nn ∧ t.nn ≤ (if t.kd = 5 then t.s0 else gtK t.kd) ∧ seF t.kd t.tx t.s0 t.s1 t.s2 t.s3 = true := by
  unfold riF nbF at h
  simp only [Bool.and_eq_true, decide_eq_true_eq] at h
  obtain ⟨⟨⟨⟨h1, h2⟩, h3⟩, h4, h5⟩, h6⟩ := h
  exact ⟨h1, h2, h3, h4, h5, h6⟩
theorem isNm_len {s : ByteArray} (h : isNm s = true) : 0 < s.size ∧ s.size ≤ 32 := by
  unfold isNm at h
  simp only [Bool.and_eq_true, decide_eq_true_eq] at h
  exact ⟨h.1.1.1, h.1.1.2⟩
theorem emp_size {s : ByteArray} (h : (s.toList == []) = true) : s.size = 0 := by
  have h := beq_iff_eq.1 h
  rw [ByteArray.toList_eq] at h
  have : s.data.toList.length = 0 := by rw [h]; rfl
  exact this
theorem txF_len {k : Int} {s : ByteArray} (h : txF k s = true) : s.size ≤ 255 := by
  unfold txF at h
  split at h
  · have := isNm_len h; omega
  split at h
  · rcases Bool.or_eq_true_iff.1 h with h | h
    · have := emp_size h; omega
    · have := isNm_len h; omega
  split at h
  · have := of_decide_eq_true h; omega
  split at h
  · have := beq_iff_eq.1 h; omega
  · have := emp_size h; omega
theorem set5_le {k s0 s1 s2 s3 : Int} {s : ByteArray} (hk : k = 5) (h : seF k s s0 s1 s2 s3 = true) : s0 ≤ 1114111 := by
  subst hk
  unfold seF at h
  rw [if_neg (by omega), if_neg (by omega), if_pos rfl] at h
  simp only [Bool.and_eq_true, decide_eq_true_eq] at h
  exact h.1
theorem txO_size (l : List UInt8) : (txO l).size = l.length := by show l.toArray.size = _; simp
theorem shT_len (x : BitVec 256) : (shT x).length ≤ 2306 := by
  unfold shT
  split
  · simp
  · have h1 := mems_len (spL (bys x))
    have h2 := spL_len256 x
    simp only [List.length_append, List.length_cons, List.length_nil]
    omega
end Go.Proofs.YtnpifgcgjgddoaaGreatDoor

namespace Go.Proofs.YtnpifgcgjgddoaaGreatDoor
open Go.RowKit
theorem hex_hexD : ∀ d : Fin 16, hexV ((hexD d.val).toNat : Int) = (d.val : Int) ∧ hxB ((hexD d.val).toNat : Int) = true ∧ (d.val < 10 → dgB ((hexD d.val).toNat : Int) = true) ∧ (((hexD d.val).toNat : Int) = 48 → d.val = 0) := by decide
/-- All are digits; the first one of several is not 0. -/
theorem dgT_dig (b : Nat) (hb : 2 ≤ b) (hb2 : b ≤ 16) (n : Nat) : ∀ x ∈ dgT b n, ∃ d, d < b ∧ x = hexD d := by
  induction n using Nat.strongRecOn with
  | _ n ih =>
    intro x hx
    by_cases h : n < b
    · rw [dgT_lo h] at hx
      exact ⟨n, h, by simpa using hx⟩
    · rw [dgT_hi hb h] at hx
      rcases List.mem_append.1 hx with h1 | h1
      · exact ih (n / b) (div_less hb h) x h1
      · exact ⟨n % b, Nat.mod_lt _ (by omega), by simpa using h1⟩
theorem dgT_first (b : Nat) (hb : 2 ≤ b) (n : Nat) (hn : 0 < n) : ∃ d r, 0 < d ∧ d < b ∧ dgT b n = hexD d :: r := by
  induction n using Nat.strongRecOn with
  | _ n ih =>
    by_cases h : n < b
    · exact ⟨n, [], hn, h, dgT_lo h⟩
    · have h1 : 0 < n / b := Nat.div_pos (by omega) (by omega)
      obtain ⟨d, r, h2, h3, h4⟩ := ih (n / b) (div_less hb h) h1
      exact ⟨d, r ++ [hexD (n % b)], h2, h3, by rw [dgT_hi hb h, h4]; rfl⟩
theorem chL_in {l : List UInt8} {i : Nat} {x : UInt8} (h : l[i]? = some x) : chL l i = (x.toNat : Int) := by unfold chL; rw [h]
theorem chL_out {l : List UInt8} {i : Nat} (h : l.length ≤ i) : chL l i = -1 := by unfold chL; rw [List.getElem?_eq_none h]
theorem chL_left (p q : List UInt8) (i : Nat) (h : i < p.length) : chL (p ++ q) i = chL p i := by unfold chL; rw [List.getElem?_append_left h]
theorem dgT_at (b : Nat) (hb : 2 ≤ b) (hb2 : b ≤ 16) (n i : Nat) (h : i < (dgT b n).length) : ∃ d, d < b ∧ chL (dgT b n) i = ((hexD d).toNat : Int) := by
  obtain ⟨d, h1, h2⟩ := dgT_dig b hb hb2 n (dgT b n)[i] (List.getElem_mem h)
  exact ⟨d, h1, by rw [chL_in (List.getElem?_eq_getElem h), h2]⟩
theorem wthR_text (b : Nat) (hb : 2 ≤ b) (hb2 : b ≤ 16) (n : Nat) : ∀ q : List UInt8, wthR (tx8 (dgT b n ++ q)) 0 (b : Int) (dgT b n).length = (n : Int) := by
  induction n using Nat.strongRecOn with
  | _ n ih =>
    intro q
    by_cases h : n < b
    · rw [dgT_lo h]
      have e : chr (tx8 ([hexD n] ++ q)) 0 = ((hexD n).toNat : Int) := by rw [chr_tx]; rfl
      show (0 : Int) * b + hexV (chr (tx8 ([hexD n] ++ q)) 0) = n
      rw [e, (hex_hexD ⟨n, by omega⟩).1]
      show (0 : Int) * b + (n : Int) = n
      rw [Int.zero_mul, Int.zero_add]
    · have hd := dgT_hi hb h
      have h2 := ih (n / b) (div_less hb h) ([hexD (n % b)] ++ q)
      have hm : n % b < b := Nat.mod_lt _ (by omega)
      rw [hd, List.append_assoc, List.length_append, List.length_singleton]
      show wthR _ 0 (b : Int) (dgT b (n / b)).length * b + hexV (chr _ (0 + (dgT b (n / b)).length)) = n
      rw [h2, Nat.zero_add, at0]
      have e : chL ([hexD (n % b)] ++ q) 0 = ((hexD (n % b)).toNat : Int) := rfl
      rw [e, (hex_hexD ⟨n % b, by omega⟩).1]
      show ((n / b : Nat) : Int) * (b : Int) + ((n % b : Nat) : Int) = n
      have h3 := Nat.div_add_mod n b
      have h4 : ((b * (n / b) + n % b : Nat) : Int) = (n : Int) := by rw [h3]
      rw [Int.natCast_add, Int.natCast_mul, Int.mul_comm] at h4
      exact h4
/-- Digits, wherever they stand: a run of them, and its worth. -/
theorem ag_tx (p l q : List UInt8) : Ag (tx8 l) 0 (tx8 (p ++ l ++ q)) p.length l.length := fun k hk => by
  rw [Nat.zero_add, chr_tx, chr_tx, List.append_assoc, chL_app, chL_left _ _ _ hk]
theorem run10 (n : Nat) : spN dgB (tx8 (dgT 10 n)) 0 = 0 + (dgT 10 n).length := by
  refine spN_eq (by decide) (by omega) (fun k _ hk => ?_) ?_
  · obtain ⟨d, h1, h2⟩ := dgT_at 10 (by omega) (by omega) n k (by omega)
    rw [chr_tx, h2]
    exact (hex_hexD ⟨d, by omega⟩).2.2.1 h1
  · rw [chr_tx, chL_out (by omega)]; decide
theorem run16 (n : Nat) : spN hxB (tx8 (dgT 16 n)) 0 = 0 + (dgT 16 n).length := by
  refine spN_eq (by decide) (by omega) (fun k _ hk => ?_) ?_
  · obtain ⟨d, h1, h2⟩ := dgT_at 16 (by omega) (by omega) n k (by omega)
    rw [chr_tx, h2]
    exact (hex_hexD ⟨d, by omega⟩).2.1
  · rw [chr_tx, chL_out (by omega)]; decide
theorem num10 (n : Nat) (most : Int) (h1 : n ≤ 999999) (h2 : (n : Int) ≤ most) : numR (tx8 (dgT 10 n)) 0 most = .inl (n : Int) := by
  have hr := run10 n
  have hl := dgT_len 10 (by omega) 5 n (by omega)
  have hne := dgT_ne 10 n (by omega)
  have hw : wthR (tx8 (dgT 10 n)) 0 10 (dgT 10 n).length = (n : Int) := by
    have h := wthR_text 10 (by omega) (by omega) n []
    rw [List.append_nil] at h
    exact h
  have hpos : 0 < (dgT 10 n).length := by
    cases hd : dgT 10 n with
    | nil => exact absurd hd hne
    | cons a b => simp
  unfold numR
  rw [hr, Nat.zero_add, Nat.sub_zero, if_neg, if_neg, hw]
  · rw [hw]; omega
  · rintro (q | ⟨q1, q2⟩)
    · omega
    · by_cases h0 : 0 < n
      · obtain ⟨d, r, d1, d2, d3⟩ := dgT_first 10 (by omega) n h0
        rw [chr_tx, d3] at q2
        have := (hex_hexD ⟨d, by omega⟩).2.2.2 q2
        simp only at this
        omega
      · obtain rfl : n = 0 := by omega
        rw [dgT_lo (by omega)] at q1
        simp at q1
/-- A place at which a token begins. -/
structure Beg (s : ByteArray) : Prop where
  b : ¬ (chr s 0 = 9 ∨ chr s 0 = 10 ∨ chr s 0 = 13 ∨ chr s 0 = 32)
  c : ¬ (chr s 0 = 45 ∧ chr s 1 = 45)
theorem Beg.of {s : ByteArray} {c : Int} (h : chr s 0 = c) (h1 : ¬ (c = 9 ∨ c = 10 ∨ c = 13 ∨ c = 32 ∨ c = 45)) : Beg s := ⟨by rw [h]; omega, by rw [h]; omega⟩
/-- A text that is one token. -/
structure Aln (s : ByteArray) (kd nn : Int) (tx : ByteArray) (s0 s1 s2 s3 : Int) : Prop where
  p : 0 < s.size
  o : oneP s 0 = .inl ⟨kd, nn, 0, (s.size : Nat), tx, s0, s1, s2, s3⟩
  b : Beg s
theorem al_name {s : ByteArray} (h : isNm s = true) : Aln s 1 0 s 0 0 0 0 := by
  unfold isNm at h
  simp only [Bool.and_eq_true, decide_eq_true_eq, beq_iff_eq] at h
  obtain ⟨⟨⟨h1, h2⟩, h3⟩, h4⟩ := h
  refine ⟨h1, ?_, ?_⟩
  · unfold oneP
    rw [if_pos h3]
    unfold nameR
    rw [h4, Nat.sub_zero, if_neg (by omega)]
    congr 2
    apply ByteArray.ext
    simp []
  · refine Beg.of rfl ?_
    unfold hdB at h3
    simp only [Bool.or_eq_true, Bool.and_eq_true, decide_eq_true_eq, beq_iff_eq] at h3
    omega
theorem al_num (n : Nat) (h : n ≤ 999999) : Aln (tx8 (dgT 10 n)) 4 n ⟨#[]⟩ 0 0 0 0 := by
  have hne := dgT_ne 10 n (by omega)
  have hpos : 0 < (dgT 10 n).length := by
    cases hd : dgT 10 n with
    | nil => exact absurd hd hne
    | cons a b => simp
  obtain ⟨d, h1, h2⟩ := dgT_at 10 (by omega) (by omega) n 0 hpos
  have h3 := (hex_hexD ⟨d, by omega⟩).2.2.1 h1
  dsimp only at h3
  rw [← h2, ← chr_tx] at h3
  have hc : 48 ≤ chr (tx8 (dgT 10 n)) 0 ∧ chr (tx8 (dgT 10 n)) 0 ≤ 57 := by
    unfold dgB at h3
    simpa using h3
  refine ⟨hpos, ?_, Beg.of rfl (by omega)⟩
  have hh : hdB (chr (tx8 (dgT 10 n)) 0) = false := by
    unfold hdB
    simp only [Bool.or_eq_false_iff, Bool.and_eq_false_iff, decide_eq_false_iff_not, beq_eq_false_iff_ne]
    omega
  unfold oneP
  rw [if_neg (by rw [hh]; decide), if_pos h3]
  unfold nmR
  rw [show gtK 4 = 999999 from rfl, num10 n 999999 h (by omega), run10 n, Nat.zero_add]
  rfl
end Go.Proofs.YtnpifgcgjgddoaaGreatDoor

namespace Go.Proofs.YtnpifgcgjgddoaaGreatDoor.Q
open Go.RowKit
/-- The byte of a list at a place, or -1. -/
def lch (l : List Int) (i : Nat) : Int := (l[i]?).getD (-1)
theorem chr_text {l : List Int} (h : By l) (i : Nat) : chr (asText l) i = lch l i := by
  by_cases hi : i < (asText l).size
  · rw [chr_in hi]
    have hl : i < l.length := by rwa [asText_size] at hi
    unfold lch
    rw [List.getElem?_eq_getElem hl]
    have hb := h l[i] (List.getElem_mem hl)
    have he : (asText l)[i] = UInt8.ofNat l[i].toNat := by
      have h2 := asText_data l
      have : (asText l).data.toList[i]'(by simpa using hi) = (asText l)[i] := rfl
      rw [← this]
      simp [h2]
    rw [he]
    show ((UInt8.ofNat l[i].toNat).toNat : Int) = l[i]
    rw [UInt8.toNat_ofNat', Nat.mod_eq_of_lt (by omega)]
    omega
  · rw [chr_out hi]
    unfold lch
    rw [List.getElem?_eq_none (by rw [asText_size] at hi; omega)]
    rfl

/-- One byte's piece alone, read. -/
theorem piece_reads : ∀ b : Fin 256, rdByte (asText (shB (b.val : Int))) 0 = .inl ((b.val : Int), (shB (b.val : Int)).length) ∧ chr (asText (shB (b.val : Int))) 0 ≠ 39 := by
  have key : ∀ b : Fin 256, (match rdByte (asText (shB (b.val : Int))) 0 with | .inl (x, n) => decide (x = (b.val : Int)) && decide (n = (shB (b.val : Int)).length) | .inr (_, _) => false) = true ∧ decide (chr (asText (shB (b.val : Int))) 0 ≠ 39) = true := by decide +kernel
  intro b
  obtain ⟨h1, h2⟩ := key b
  refine ⟨?_, of_decide_eq_true h2⟩
  split at h1
  · next x n hx =>
    rw [hx]
    simp only [Bool.and_eq_true, decide_eq_true_eq] at h1
    rw [h1.1, h1.2]
  · cases h1

theorem lch_mid (a p c : List Int) (i : Nat) (h : i < p.length) : lch (a ++ p ++ c) (a.length + i) = lch p i := by
  unfold lch
  rw [List.append_assoc, List.getElem?_append_right (by omega), show a.length + i - a.length = i from by omega, List.getElem?_append_left h]
theorem lch_end (a : List Int) (x : Int) : lch (a ++ [x]) a.length = x := by
  unfold lch
  rw [List.getElem?_append_right (Nat.le_refl _), Nat.sub_self]
  rfl

theorem rdHex_move {s s' : ByteArray} {d n : Nat} {b : Int} (h : rdHex s 0 = some (b, n)) (hc : ∀ k, k < n → chr s' (d + k) = chr s k) : rdHex s' d = some (b, d + n) := by
  unfold rdHex at h ⊢
  split at h
  · next q =>
    cases h
    rw [Nat.zero_add] at hc
    rw [Nat.zero_add, Nat.zero_add] at *
    rw [hc 2 (by omega), hc 3 (by omega), if_pos q]
  · cases h
theorem rdEsc_move {s s' : ByteArray} {d n : Nat} {b : Int} (h : rdEsc s 0 = some (b, n)) (hc : ∀ k, k < n → chr s' (d + k) = chr s k) : rdEsc s' d = some (b, d + n) := by
  have hn : 1 < n := by
    unfold rdEsc rdHex at h
    repeat' split at h
    all_goals first | (cases h; omega) | cases h
  have h1 := hc 1 (by omega)
  unfold rdEsc at h ⊢
  rw [Nat.zero_add] at h
  rw [h1]
  split at h
  · next q => cases h; rw [if_pos q]
  · next q1 =>
    rw [if_neg q1]
    split at h
    · next q => cases h; rw [if_pos q]
    · next q2 =>
      rw [if_neg q2]
      split at h
      · next q => cases h; rw [if_pos q]
      · next q3 =>
        rw [if_neg q3]
        split at h
        · next q => cases h; rw [if_pos q]
        · next q4 =>
          rw [if_neg q4]
          split at h
          · next q => rw [if_pos q]; exact rdHex_move h hc
          · cases h
theorem rdByte_unshift {s s' : ByteArray} {d n : Nat} {b : Int} (h : rdByte s 0 = .inl (b, n)) (hc : ∀ k, k < n → chr s' (d + k) = chr s k) : rdByte s' d = .inl (b, d + n) := by
  have hn := rdByte_bd h
  have h1 := hc 0 (by omega)
  rw [Nat.add_zero] at h1
  unfold rdByte at h ⊢
  rw [h1]
  split at h
  · next q =>
    rw [if_pos q]
    split at h
    · cases h
    · next p hp => cases h; rw [rdEsc_move hp hc]
  · next q =>
    rw [if_neg q]
    split at h
    · cases h
    · next q2 => cases h; rw [if_neg q2]

/-- From a place on, behind what was read, the pieces of the rest and a mark. -/
theorem body_reads (L : List Int) (hL : By L) (rest : List Int) (hr : By rest) (a : List Int) (l : List Int) (hE : L = a ++ rest.flatMap shB ++ [39]) (f : Nat) (hf : L.length + 1 ≤ f + a.length) :
    rdBody (asText L) 39 f a.length l = .inl (l ++ rest, L.length) := by
  induction rest generalizing a l f with
  | nil =>
    obtain ⟨g, rfl⟩ : ∃ g, f = g + 1 := ⟨f - 1, by rw [hE] at hf; simp at hf; omega⟩
    have h39 : chr (asText L) a.length = 39 := by
      rw [chr_text hL, hE]; simp only [List.flatMap_nil, List.append_nil]; exact lch_end a 39
    rw [rdBody_end h39, List.append_nil]
    have : L.length = a.length + 1 := by rw [hE]; simp
    rw [this]
  | cons b rest ih =>
    obtain ⟨g, rfl⟩ : ∃ g, f = g + 1 := ⟨f - 1, by rw [hE] at hf; simp at hf; omega⟩
    have hb := hr b (List.mem_cons_self ..)
    have hlen := shB_len b
    have hE2 : L = a ++ shB b ++ (rest.flatMap shB ++ [39]) := by rw [hE, List.flatMap_cons]; simp
    obtain ⟨p1, p2⟩ := piece_reads ⟨b.toNat, by omega⟩
    rw [show (((⟨b.toNat, by omega⟩ : Fin 256).val : Nat) : Int) = b from by show ((b.toNat : Nat) : Int) = b; omega] at p1 p2
    have hcp : ∀ i, i < (shB b).length → chr (asText L) (a.length + i) = chr (asText (shB b)) i := fun i hi => by
      rw [chr_text hL, chr_text (shB_by hb.1 hb.2), hE2]; exact lch_mid a (shB b) _ i hi
    have hsz : (asText L).size = L.length := asText_size L
    have hL2 : L.length = a.length + (shB b).length + (rest.flatMap shB ++ [39]).length := by rw [hE2]; simp; omega
    have hlt : a.length < (asText L).size := by omega
    have hne : chr (asText L) a.length ≠ 39 := by have := hcp 0 (by omega); rw [Nat.add_zero] at this; rw [this]; exact p2
    have hby : rdByte (asText L) a.length = .inl (b, a.length + (shB b).length) := by
      have hs := rdByte_unshift p1 hcp
      exact hs
    rw [rdBody_step hne hlt hby]
    have h3 := ih (fun n hn => hr n (List.mem_cons_of_mem _ hn)) (a ++ shB b) (l ++ [b]) (by rw [hE2]; simp) g (by rw [List.length_append]; omega)
    rw [List.length_append] at h3
    rw [h3]
    simp
theorem cut_reads (s : ByteArray) (h : (qT s).length ≤ 65536) : rdCut (asText (qT s)) 0 = .inl (byl s, (qT s).length) := by
  have hsz := asText_size (qT s)
  have hb := qT_by s
  have hE : qT s = [39] ++ (byl s).flatMap shB ++ [39] := rfl
  have h0 : chr (asText (qT s)) 0 = 39 := by rw [chr_text hb]; rfl
  unfold rdCut
  rw [if_neg (by omega), if_neg (by omega), show (0 : Int).toNat = 0 from rfl, h0, if_pos (.inl rfl)]
  have h2 := body_reads (qT s) hb (byl s) (byl_by s) [39] [] hE ((asText (qT s)).size + 1) (by rw [hsz]; simp)
  exact h2
end Go.Proofs.YtnpifgcgjgddoaaGreatDoor.Q

namespace Go.Proofs.YtnpifgcgjgddoaaGreatDoor
open Go.RowKit
/-- A sign's text, at the front. -/
theorem sig_at {s : ByteArray} {c : Int} (h0 : chr s 0 = c) (h1 : hdB c = false) (h2 : dgB c = false) (h3 : ¬ (c = 39 ∨ c = 34)) (h4 : ¬ c = 91) (h5 : ¬ c = 37) : oneP s 0 = sigP s 0 := by
  unfold oneP
  rw [h0, if_neg (by rw [h1]; decide), if_neg (by rw [h2]; decide), if_neg h3, if_neg h4, if_neg h5]
theorem al_cnt (p : List UInt8) (k : Int) (n : Nat) (h : n ≤ 50) (hp : p = [94] ∧ k = 13 ∨ p = [94, 43] ∧ k = 14 ∨ p = [94, 45] ∧ k = 15) : Aln (tx8 (p ++ dgT 10 n)) k n ⟨#[]⟩ 0 0 0 0 := by
  have hne := dgT_ne 10 n (by omega)
  have hpos : 0 < (dgT 10 n).length := by
    cases hd : dgT 10 n with
    | nil => exact absurd hd hne
    | cons a b => simp
  obtain ⟨d, d1, d2⟩ := dgT_at 10 (by omega) (by omega) n 0 hpos
  have d3 := (hex_hexD ⟨d, by omega⟩).2.2.1 d1
  dsimp only at d3
  rw [← d2] at d3
  have hc : 48 ≤ chL (dgT 10 n) 0 ∧ chL (dgT 10 n) 0 ≤ 57 := by
    unfold dgB at d3
    simpa using d3
  have hsz : (tx8 (p ++ dgT 10 n)).size = p.length + (dgT 10 n).length := by rw [tx_size, List.length_append]
  have hag : Ag (tx8 (dgT 10 n)) 0 (tx8 (p ++ dgT 10 n)) p.length (dgT 10 n).length := by
    have := ag_tx p (dgT 10 n) []
    rwa [List.append_nil] at this
  have hend : dgB (chr (tx8 (p ++ dgT 10 n)) (p.length + (dgT 10 n).length)) = false := by
    rw [chr_out (by rw [hsz]; omega)]; decide
  have hnum := nm_move (b' := 0) (by
    show nmR (tx8 (dgT 10 n)) 0 0 k = .inl ⟨k, n, (0 : Nat), ((dgT 10 n).length : Nat), ⟨#[]⟩, 0, 0, 0, 0⟩
    have hg : gtK k = 50 := by rcases hp with h | h | h <;> (rw [h.2]; rfl)
    unfold nmR
    rw [hg, num10 n 50 (by omega) (by omega), run10 n, Nat.zero_add]) (by have := run10 n; omega) hag hend
  have hfirst := atj p (dgT 10 n) 0
  rcases hp with ⟨rfl, rfl⟩ | ⟨rfl, rfl⟩ | ⟨rfl, rfl⟩
  · have c0 : chr (tx8 ([94] ++ dgT 10 n)) 0 = 94 := by rw [chr_tx]; rfl
    refine ⟨by rw [hsz]; omega, ?_, Beg.of c0 (by omega)⟩
    rw [sig_at c0 (by decide) (by decide) (by decide) (by decide) (by decide)]
    have e : sgAt (tx8 ([94] ++ dgT 10 n)) 0 = (13, [94]) := by
      rw [sgAt_C, c0, Nat.zero_add, show chr (tx8 ([94] ++ dgT 10 n)) 1 = chL (dgT 10 n) 0 from hfirst]
      unfold sgC
      rw [if_neg (by decide), if_pos rfl, if_neg (by omega), if_neg (by omega)]
    unfold sigP
    rw [e]
    rw [if_neg (by decide), if_pos (by decide), hsz]
    exact hnum
  · have c0 : chr (tx8 ([94, 43] ++ dgT 10 n)) 0 = 94 := by rw [chr_tx]; rfl
    have c1 : chr (tx8 ([94, 43] ++ dgT 10 n)) 1 = 43 := by rw [chr_tx]; rfl
    refine ⟨by rw [hsz]; omega, ?_, Beg.of c0 (by omega)⟩
    rw [sig_at c0 (by decide) (by decide) (by decide) (by decide) (by decide)]
    have e : sgAt (tx8 ([94, 43] ++ dgT 10 n)) 0 = (14, [94, 43]) := by rw [sgAt_C, c0, Nat.zero_add, c1]; rfl
    unfold sigP
    rw [e]
    rw [if_neg (by decide), if_pos (by decide), hsz]
    exact hnum
  · have c0 : chr (tx8 ([94, 45] ++ dgT 10 n)) 0 = 94 := by rw [chr_tx]; rfl
    have c1 : chr (tx8 ([94, 45] ++ dgT 10 n)) 1 = 45 := by rw [chr_tx]; rfl
    refine ⟨by rw [hsz]; omega, ?_, Beg.of c0 (by omega)⟩
    rw [sig_at c0 (by decide) (by decide) (by decide) (by decide) (by decide)]
    have e : sgAt (tx8 ([94, 45] ++ dgT 10 n)) 0 = (15, [94, 45]) := by rw [sgAt_C, c0, Nat.zero_add, c1]; rfl
    unfold sigP
    rw [e]
    rw [if_neg (by decide), if_pos (by decide), hsz]
    exact hnum
theorem pt_at {s : ByteArray} {d n : Nat} (h : n ≤ 1114111) (hag : Ag (tx8 (dgT 16 n)) 0 s d (dgT 16 n).length) (he : hxB (chr s (d + (dgT 16 n).length)) = false) : ptP s d = ((n : Int), d + (dgT 16 n).length, true) := by
  have hne := dgT_ne 16 n (by omega)
  have hl := dgT_len 16 (by omega) 5 n (by omega)
  have hpos : 0 < (dgT 16 n).length := by
    cases hd : dgT 16 n with
    | nil => exact absurd hd hne
    | cons a b => simp
  have hr := run_move (by decide) hag (run16 n) he
  have hw : wthR s d 16 (dgT 16 n).length = (n : Int) := by
    rw [wth_move hag _ (Nat.le_refl _)]
    have h := wthR_text 16 (by omega) (by omega) n []
    rw [List.append_nil] at h
    exact h
  unfold ptP
  rw [hr, if_neg (by omega), show d + (dgT 16 n).length - d = (dgT 16 n).length from by omega, hw, decide_eq_true (by omega)]
def rnL (a b : Nat) : List UInt8 := [37, 117, 123] ++ dgT 16 a ++ [45] ++ dgT 16 b ++ [125]
theorem rnT_L (a b : Nat) : rnT a b = tx8 (rnL a b) := by
  unfold rnT rnL txO
  apply ByteArray.ext
  simp
theorem al_pts (a b : Nat) (hab : a ≤ b) (hb : b ≤ 1114111) : Aln (rnT a b) 5 a ⟨#[]⟩ b 0 0 0 := by
  rw [rnT_L]
  have hsz : (tx8 (rnL a b)).size = 3 + (dgT 16 a).length + 1 + (dgT 16 b).length + 1 := by
    rw [tx_size]; unfold rnL; simp only [List.length_append, List.length_cons, List.length_nil]
  have c0 : chr (tx8 (rnL a b)) 0 = 37 := by rw [chr_tx]; rfl
  have c1 : chr (tx8 (rnL a b)) 1 = 117 := by rw [chr_tx]; rfl
  have c2 : chr (tx8 (rnL a b)) 2 = 123 := by rw [chr_tx]; rfl
  have hA : Ag (tx8 (dgT 16 a)) 0 (tx8 (rnL a b)) 3 (dgT 16 a).length := by
    have := ag_tx [37, 117, 123] (dgT 16 a) ([45] ++ dgT 16 b ++ [125])
    rwa [show [37, 117, 123] ++ dgT 16 a ++ ([45] ++ dgT 16 b ++ [125]) = rnL a b from by unfold rnL; simp] at this
  have hB : Ag (tx8 (dgT 16 b)) 0 (tx8 (rnL a b)) (3 + (dgT 16 a).length + 1) (dgT 16 b).length := by
    have := ag_tx ([37, 117, 123] ++ dgT 16 a ++ [45]) (dgT 16 b) [125]
    rwa [show ([37, 117, 123] ++ dgT 16 a ++ [45] : List UInt8).length = 3 + (dgT 16 a).length + 1 from by simp only [List.length_append, List.length_cons, List.length_nil]] at this
  have e1 : chr (tx8 (rnL a b)) (3 + (dgT 16 a).length) = 45 := by
    have := at0 ([37, 117, 123] ++ dgT 16 a) ([45] ++ dgT 16 b ++ [125])
    rw [show ([37, 117, 123] ++ dgT 16 a) ++ ([45] ++ dgT 16 b ++ [125]) = rnL a b from by unfold rnL; simp, show ([37, 117, 123] ++ dgT 16 a : List UInt8).length = 3 + (dgT 16 a).length from by simp only [List.length_append, List.length_cons, List.length_nil]] at this
    exact this
  have e2 : chr (tx8 (rnL a b)) (3 + (dgT 16 a).length + 1 + (dgT 16 b).length) = 125 := by
    have := at0 ([37, 117, 123] ++ dgT 16 a ++ [45] ++ dgT 16 b) [125]
    rw [show ([37, 117, 123] ++ dgT 16 a ++ [45] ++ dgT 16 b : List UInt8).length = 3 + (dgT 16 a).length + 1 + (dgT 16 b).length from by simp only [List.length_append, List.length_cons, List.length_nil]] at this
    exact this
  have p1 := pt_at (by omega) hA (by rw [e1]; decide)
  have p2 := pt_at hb hB (by rw [e2]; decide)
  refine ⟨by rw [hsz]; omega, ?_, Beg.of c0 (by omega)⟩
  unfold oneP
  rw [c0, if_neg (by decide), if_neg (by decide), if_neg (by decide), if_neg (by decide), if_pos rfl]
  unfold pctP
  have hp : pfx (tx8 (rnL a b)) 0 [37, 117, 123] = true := by
    unfold pfx; rw [c0]
    unfold pfx; rw [Nat.zero_add, c1]
    unfold pfx; rw [c2]
    rfl
  rw [if_pos hp]
  unfold ptsP
  rw [Nat.zero_add, p1]
  dsimp only
  rw [if_neg (by decide), if_pos e1, p2]
  dsimp only
  rw [if_neg (by simp; omega), if_pos e2, hsz]
  rfl
theorem al_pct (c : UInt8) (h : (cls c.toNat).2 = 0) : Aln (tx8 [37, c]) 28 0 (tx8 [c]) (wd (cls c.toNat).1 0) (wd (cls c.toNat).1 1) (wd (cls c.toNat).1 2) (wd (cls c.toNat).1 3) := by
  have n1 : c.toNat ≠ 101 := by intro q; rw [q] at h; revert h; decide
  have n2 : c.toNat ≠ 102 := by intro q; rw [q] at h; revert h; decide
  have c0 : chr (tx8 [37, c]) 0 = 37 := by rw [chr_tx]; rfl
  have c1 : chr (tx8 [37, c]) 1 = (c.toNat : Int) := by rw [chr_tx]; rfl
  have c2 : chr (tx8 [37, c]) 2 = -1 := by rw [chr_tx]; rfl
  refine ⟨by show 0 < 2; omega, ?_, Beg.of c0 (by omega)⟩
  unfold oneP
  rw [c0, if_neg (by decide), if_neg (by decide), if_neg (by decide), if_neg (by decide), if_pos rfl]
  unfold pctP
  have hp : pfx (tx8 [37, c]) 0 [37, 117, 123] = false := by
    unfold pfx
    unfold pfx
    unfold pfx
    rw [Nat.zero_add, show (1 : Nat) + 1 = 2 from rfl, c2]
    simp
  have e : sgAt (tx8 [37, c]) 0 = (0, []) := by
    rw [sgAt_C, c0, Nat.zero_add, c1]
    unfold sgC
    rw [if_pos rfl, if_neg (by omega), if_neg (by omega)]
  rw [if_neg (by rw [hp]; decide), e]
  rw [if_neg (by decide), Nat.zero_add, c1, Int.toNat_natCast, if_pos ⟨by show 1 < 2; omega, h⟩]
  congr 2
/-- A group's text. -/
theorem al_grp0 : Aln (tx8 [123, 58]) 21 0 ⟨#[]⟩ 0 0 0 0 := by
  have c0 : chr (tx8 [123, 58]) 0 = 123 := by rw [chr_tx]; rfl
  have c1 : chr (tx8 [123, 58]) 1 = 58 := by rw [chr_tx]; rfl
  have c2 : chr (tx8 [123, 58]) 2 = -1 := by rw [chr_tx]; rfl
  refine ⟨by show 0 < 2; omega, ?_, Beg.of c0 (by omega)⟩
  rw [sig_at c0 (by decide) (by decide) (by decide) (by decide) (by decide)]
  have e : sgAt (tx8 [123, 58]) 0 = (21, [123, 58]) := by rw [sgAt_C, c0, Nat.zero_add, c1]; rfl
  unfold sigP
  rw [e]
  rw [if_neg (by decide), if_neg (by decide), if_pos (by decide)]
  show grpP (tx8 [123, 58]) 0 2 = _
  unfold grpP
  rw [c2, if_neg (by decide)]
  rfl
theorem al_grp {s : ByteArray} (h : isNm s = true) : Aln (⟨#[123, 58]⟩ ++ (s ++ ⟨#[58]⟩)) 21 0 s 0 0 0 0 := by
  unfold isNm at h
  simp only [Bool.and_eq_true, decide_eq_true_eq, beq_iff_eq] at h
  obtain ⟨⟨⟨h1, h2⟩, h3⟩, h4⟩ := h
  obtain ⟨l, rfl⟩ : ∃ l : List UInt8, s = tx8 l := ⟨s.data.toList, by apply ByteArray.ext; simp⟩
  have hX : (⟨#[123, 58]⟩ ++ (tx8 l ++ ⟨#[58]⟩) : ByteArray) = tx8 ([123, 58] ++ l ++ [58]) := by apply ByteArray.ext; simp
  rw [hX]
  rw [tx_size] at h1 h2 h4
  have hag := ag_tx [123, 58] l [58]
  have c0 : chr (tx8 ([123, 58] ++ l ++ [58])) 0 = 123 := by rw [chr_tx]; rfl
  have c1 : chr (tx8 ([123, 58] ++ l ++ [58])) 1 = 58 := by rw [chr_tx]; rfl
  have c2 : chr (tx8 ([123, 58] ++ l ++ [58])) 2 = chr (tx8 l) 0 := hag 0 h1
  have ce : chr (tx8 ([123, 58] ++ l ++ [58])) (2 + l.length) = 58 := by
    have := at0 ([123, 58] ++ l) [58]
    rw [show ([123, 58] ++ l : List UInt8).length = 2 + l.length from by simp only [List.length_append, List.length_cons, List.length_nil]] at this
    exact this
  have hr : spN nmB (tx8 ([123, 58] ++ l ++ [58])) 2 = 2 + l.length := run_move (by decide) hag (by rw [h4, Nat.zero_add]) (by show nmB (chr _ (2 + l.length)) = false; rw [ce]; decide)
  have hsz : (tx8 ([123, 58] ++ l ++ [58])).size = 2 + l.length + 1 := by rw [tx_size]; simp only [List.length_append, List.length_cons, List.length_nil]
  refine ⟨by rw [hsz]; omega, ?_, Beg.of c0 (by omega)⟩
  rw [sig_at c0 (by decide) (by decide) (by decide) (by decide) (by decide)]
  have e : sgAt (tx8 ([123, 58] ++ l ++ [58])) 0 = (21, [123, 58]) := by rw [sgAt_C, c0, Nat.zero_add, c1]; rfl
  unfold sigP
  rw [e]
  rw [if_neg (by decide), if_neg (by decide), if_pos (by decide)]
  show grpP _ 0 2 = _
  unfold grpP
  rw [c2, if_pos h3, hr, if_neg (by omega), if_pos ce, hsz]
  have hx : (tx8 ([123, 58] ++ l ++ [58])).extract 2 (2 + l.length) = tx8 l := by
    apply ByteArray.ext
    simp [ByteArray.data_extract]
  rw [hx]
  rfl
/-- A literal's text. -/
theorem al_lit (s : ByteArray) (h : s.size ≤ 255) : Aln (Q.asText (Q.qT s)) 2 0 s 0 0 0 0 := by
  have hq : (Q.qT s).length ≤ 4 * s.size + 2 := by
    have h := (Q.qTo_len s s.size).1
    rw [← Q.qTo_all s s.size (Nat.le_refl _), List.length_append, List.length_singleton]
    omega
  have hsz : (Q.asText (Q.qT s)).size = (Q.qT s).length := Q.asText_size _
  have c0 : chr (Q.asText (Q.qT s)) 0 = 39 := by
    rw [← q_chr, Q.chr_text (Q.qT_by s)]
    rfl
  have hpos : 0 < (Q.asText (Q.qT s)).size := chr_lt (by rw [c0]; omega)
  have hr := Q.cut_reads s (by omega)
  have hl := lit_same (Q.asText (Q.qT s)) 0 (by omega) (by omega) (.inl c0)
  refine ⟨hpos, ?_, Beg.of c0 (by omega)⟩
  unfold oneP
  rw [c0, if_neg (by decide), if_neg (by decide), if_pos (by decide), ← hl]
  rw [show (((0 : Nat) : Int)) = 0 from rfl, hr]
  unfold litP
  dsimp only
  rw [if_neg (by rw [Q.byl_len]; omega), hsz, ← q_text, Q.asText_byl]
  rfl
/-- A class's text. -/
theorem al_cls (x : BitVec 256) : Aln (tx8 (shT x)) 3 0 ⟨#[]⟩ (wd x 0) (wd x 1) (wd x 2) (wd x 3) := by
  have hr := back_read x
  have c0 : chr (tx8 (shT x)) 0 = 91 := by
    rw [chr_tx]
    unfold shT
    split <;> rfl
  refine ⟨chr_lt (by rw [c0]; omega), ?_, Beg.of c0 (by omega)⟩
  unfold oneP
  rw [c0, if_neg (by decide), if_neg (by decide), if_neg (by decide), if_pos rfl]
  rw [show (((0 : Nat) : Int)) = 0 from rfl, hr]
  rfl
/-- The signs' texts. -/
def isOne (r : Sum Tk (Nat × Int)) (k : Int) (n : Nat) : Bool := match r with
  | .inl t => t.kd == k && t.nn == 0 && t.fr == 0 && t.en == (n : Int) && t.tx.data.toList == [] && t.s0 == 0 && t.s1 == 0 && t.s2 == 0 && t.s3 == 0
  | .inr _ => false
theorem isOne_eq {r : Sum Tk (Nat × Int)} {k : Int} {n : Nat} (h : isOne r k n = true) : r = .inl ⟨k, 0, 0, (n : Int), ⟨#[]⟩, 0, 0, 0, 0⟩ := by
  cases r with
  | inr q => cases h
  | inl t =>
    obtain ⟨a0, a1, a2, a3, a4, a5, a6, a7, a8⟩ := t
    simp only [isOne, Bool.and_eq_true, beq_iff_eq] at h
    obtain ⟨⟨⟨⟨⟨⟨⟨⟨h0, h1⟩, h2⟩, h3⟩, h4⟩, h5⟩, h6⟩, h7⟩, h8⟩ := h
    have h4 : a4 = ⟨#[]⟩ := by apply ByteArray.ext; simpa using h4
    subst h0 h1 h2 h3 h4 h5 h6 h7 h8
    rfl
def sgX (k : Nat) : List UInt8 := if k = 29 then [37, 101] else if k = 30 then [37, 102] else sgn k
def begB (l : List UInt8) : Bool := decide (0 < l.length) && !(chL l 0 == 9) && !(chL l 0 == 10) && !(chL l 0 == 13) && !(chL l 0 == 32) && !(chL l 0 == 45 && chL l 1 == 45)
theorem sg_all : ∀ k, k < 31 → (1 ≤ k ∧ k ≠ 1 ∧ k ≠ 21 ∧ k ≠ 2 ∧ k ≠ 3 ∧ k ≠ 28 ∧ k ≠ 5 ∧ k ≠ 4 ∧ k ≠ 13 ∧ k ≠ 14 ∧ k ≠ 15) → (isOne (oneP (tx8 (sgX k)) 0) k (sgX k).length && begB (sgX k)) = true := by decide +kernel
theorem al_sig (k : Nat) (h1 : k < 31) (h2 : 1 ≤ k ∧ k ≠ 1 ∧ k ≠ 21 ∧ k ≠ 2 ∧ k ≠ 3 ∧ k ≠ 28 ∧ k ≠ 5 ∧ k ≠ 4 ∧ k ≠ 13 ∧ k ≠ 14 ∧ k ≠ 15) : Aln (tx8 (sgX k)) k 0 ⟨#[]⟩ 0 0 0 0 := by
  have h := sg_all k h1 h2
  obtain ⟨h3, h4⟩ := Bool.and_eq_true_iff.1 h
  simp only [begB, Bool.and_eq_true, decide_eq_true_eq, Bool.not_eq_true', beq_eq_false_iff_ne, Bool.and_eq_false_iff] at h4
  obtain ⟨⟨⟨⟨⟨g0, g1⟩, g2⟩, g3⟩, g4⟩, g5⟩ := h4
  refine ⟨g0, isOne_eq h3, ⟨?_, ?_⟩⟩
  · rw [chr_tx]; omega
  · rw [chr_tx, chr_tx]; omega
end Go.Proofs.YtnpifgcgjgddoaaGreatDoor

namespace Go.Proofs.YtnpifgcgjgddoaaGreatDoor
open Go.RowKit
theorem asT_go (l : List UInt8) : ∀ r : ByteArray, ((l.map fun x => (x.toNat : Int)).foldl (fun r n => r.push (UInt8.ofNat n.toNat)) r) = r ++ ⟨l.toArray⟩ := by
  induction l with
  | nil => intro r; apply ByteArray.ext; simp
  | cons x l ih =>
    intro r
    rw [List.map_cons, List.foldl_cons, ih]
    apply ByteArray.ext
    simp
theorem asT_nat (l : List UInt8) : asText (l.map fun x => (x.toNat : Int)) = ⟨l.toArray⟩ := by
  unfold asText
  rw [asT_go]
  apply ByteArray.ext
  simp
end Go.Proofs.YtnpifgcgjgddoaaGreatDoor

namespace Go.Proofs.YtnpifgcgjgddoaaGreatDoor
open Go.RowKit
theorem qT_len (s : ByteArray) : (Q.qT s).length ≤ 4 * s.size + 2 := by
  have h := (Q.qTo_len s s.size).1
  rw [← Q.qTo_all s s.size (Nat.le_refl _), List.length_append, List.length_singleton]
  omega
end Go.Proofs.YtnpifgcgjgddoaaGreatDoor

namespace Go.Proofs.YtnpifgcgjgddoaaGreatDoor
open Go.RowKit
theorem cat_dig (m : Nat) (hm : m < 16) (l : List UInt8) : digs.extract m (m + 1) ++ (⟨l.toArray⟩ : ByteArray) = ⟨(hexD m :: l).toArray⟩ := by
  rw [ext_dig ⟨m, hm⟩]
  exact catL [hexD m] l
set_option maxRecDepth 100000 in
set_option maxHeartbeats 4000000 in
theorem whole10_any (n0 : Nat) (hn : n0 ≤ 1114111) (w : World) : Calls Tryz.prog 82 #[.int .i64 n0, .int .i64 10] w fun e w' => e = .returned (.string ⟨(dgT 10 n0).toArray⟩) ∧ w' = w := by
  have HN : Hid (∀ n l, whI 10 n0 n l → 0 < n ∨ l = [] → whI 10 n0 (n / 10) (hexD (n % 10) :: l)) := fun n l h1 h2 => whI_step (by omega) h1 h2
  have HE : Hid (∀ n l, whI 10 n0 n l → n = 0 → l ≠ [] → dgT 10 n0 = l) := fun n l h1 h2 h3 => whI_end h1 h2 h3
  have HC : Hid (∀ m, m < 16 → ∀ l : List UInt8, digs.extract m (m + 1) ++ (⟨l.toArray⟩ : ByteArray) = ⟨(hexD m :: l).toArray⟩) := fun m hm l => cat_dig m hm l
  go_enter Tryz.func82, Tryz.ntmps82
  go_wp2_with fail
  go_loopw [0, 5] (fun t s wr => ∃ n : Nat, ∃ A : ByteArray, n ≤ 1114111 ∧ t = .int .i64 n ∧ s = .string A ∧ wr = w ∧ A.size + n ≤ 1114112 ∧ Hid (∃ l, A = ⟨l.toArray⟩ ∧ whI 10 n0 n l)) (fun t s _ => (intOf t).toNat + (match s with | .string A => if A.size = 0 then 1 else 0 | _ => 0))
  case atStart => exact ⟨n0, _, hn, rfl, rfl, rfl, by show 0 + n0 ≤ _; omega, [], rfl, Or.inl ⟨rfl, rfl⟩⟩
  case round =>
    obtain ⟨n, A, h1, rfl, rfl, rfl, h2, HI⟩ := hrel
    have step : 0 < n ∨ A.size = 0 → ∃ l, digs.extract (n % 10) (n % 10 + 1) ++ A = ⟨l.toArray⟩ ∧ whI 10 n0 (n / 10) l := fun hc => by
      obtain ⟨l, rfl, hl⟩ := HI.out
      refine ⟨_, HC.out (n % 10) (by omega) l, HN.out n l hl ?_⟩
      rcases hc with hc | hc
      · exact Or.inl hc
      · exact Or.inr (List.eq_nil_of_length_eq_zero hc)
    have t1 : IntKind.i64.wrap ((n : Int) / 10) = ((n / 10 : Nat) : Int) := by rw [IntKind.wrap_i64]; omega
    have t2 : IntKind.i64.wrap ((n : Int) % 10) = ((n % 10 : Nat) : Int) := by rw [IntKind.wrap_i64]; omega
    have t3 : (n : Int) / 10 = ((n / 10 : Nat) : Int) := by omega
    have t4 : (n : Int) % 10 = ((n % 10 : Nat) : Int) := by omega
    have q1 : n / 10 ≤ n := Nat.div_le_self _ _
    have q2 : n % 10 < 16 := by omega
    have q3 : 0 < n → n / 10 < n := fun h => Nat.div_lt_self h (by omega)
    clear HC HN
    generalize n / 10 = p at *
    generalize n % 10 = m at *
    have v1 : IntKind.i64.wrap ((m : Int) + 1) = (m : Int) + 1 := by rw [IntKind.wrap_i64]; omega
    have y1 : ((m : Int) + 1).toNat = m + 1 := by omega
    have l1 : (m : Int) ≤ (m : Int) + 1 := by omega
    have l3 : (m : Int) + 1 ≤ 16 := by omega
    have l5 : (0 : Int) ≤ (m : Int) + 1 := by omega
    have l0 : (0 : Int) ≤ (m : Int) := by omega
    have HX : Hid (digs.extract m (m + 1) = ⟨#[hexD m]⟩) := ext_dig ⟨m, q2⟩
    have HS := (show Hid _ from step)
    have hA : A.size ≤ 1114112 := by omega
    clear step
    by_cases hn0 : 0 < n
    · have z : (0 : Int) < (n : Int) := by omega
      go_wp2_with fail
      go_roundw
      case rel => exact ⟨p, _, by omega, rfl, rfl, trivial, by
        show (digs.extract m (m + 1) ++ A).size + p ≤ _
        rw [HX.out, ByteArray.size_append]
        have := q3 hn0
        show 1 + A.size + p ≤ _
        omega, HS.out (Or.inl hn0)⟩
      case measure =>
        have h5 := q3 hn0
        show p + (if (digs.extract m (m + 1) ++ A).size = 0 then 1 else 0) < n + (if A.size = 0 then 1 else 0)
        rw [HX.out, ByteArray.size_append, if_neg (show ¬ (ByteArray.mk #[hexD m]).size + A.size = 0 by show ¬ 1 + A.size = 0; omega)]
        split <;> omega
    · have z : ¬ (0 : Int) < (n : Int) := by omega
      have HZ : Hid (n = 0) := Nat.eq_zero_of_not_pos hn0
      by_cases ha : A.size = 0
      · obtain rfl : A = ⟨#[]⟩ := ByteArray.ext (Array.eq_empty_of_size_eq_zero ha)
        go_wp2_with fail
        go_roundw
        case rel => exact ⟨p, _, by omega, rfl, rfl, trivial, by
          show (digs.extract m (m + 1) ++ ⟨#[]⟩).size + p ≤ _
          rw [HX.out, ByteArray.size_append]
          show 1 + 0 + p ≤ _
          omega, HS.out (Or.inr rfl)⟩
        case measure =>
          show p + (if (digs.extract m (m + 1) ++ ⟨#[]⟩).size = 0 then 1 else 0) < n + (if (⟨#[]⟩ : ByteArray).size = 0 then 1 else 0)
          rw [HX.out, ByteArray.size_append, if_neg (show ¬ (ByteArray.mk #[hexD m]).size + (⟨#[]⟩ : ByteArray).size = 0 by show ¬ 1 + 0 = 0; omega), if_pos ha]
          omega
      · have he := ne_emp (s := A) (by omega)
        have HF : Hid (A = ⟨(dgT 10 n0).toArray⟩) := by
          show _ = _
          obtain ⟨l, rfl, hl⟩ := HI.out
          rw [HE.out n l hl HZ.out (by rintro rfl; exact ha rfl)]
        clear HI HS HE HZ hn0
        go_wp2_with fail
        go_ret
        exact ⟨ret_str HF.out, rfl⟩
end Go.Proofs.YtnpifgcgjgddoaaGreatDoor

namespace Go.Proofs.YtnpifgcgjgddoaaGreatDoor
open Go.RowKit
theorem cnt_zero (x : BitVec 256) : (x == 0#256) = ((cnt x : Int) == 0) := by
  rw [Bool.eq_iff_iff]
  simp only [beq_iff_eq]
  constructor
  · rintro rfl
    have : ∀ k, cntTo (0#256).getLsbD k = 0 := fun k => by induction k with
      | zero => rfl
      | succ n ih => rw [cntTo_succ, ih]; simp
    have h := this 256
    show ((cntTo (0#256).getLsbD 256 : Nat) : Int) = 0
    omega
  · intro h
    have hz : ∀ k, cntTo x.getLsbD k = 0 → ∀ j, j < k → x.getLsbD j = false := fun k => by induction k with
      | zero => intro _ j hj; omega
      | succ n ih =>
        intro h j hj
        rw [cntTo_succ] at h
        by_cases e : j = n
        · subst e; cases hb : x.getLsbD j with
          | false => rfl
          | true => rw [hb] at h; simp at h
        · exact ih (by omega) j (by omega)
    refine set_eq _ _ fun j hj => ?_
    rw [hz 256 (by unfold cnt at h; omega) j hj]; simp
theorem cnt_not (x : BitVec 256) : cnt x + cnt (~~~ x) = 256 := by
  have : ∀ k, k ≤ 256 → cntTo x.getLsbD k + cntTo (~~~ x).getLsbD k = k := fun k => by induction k with
    | zero => intro _; rfl
    | succ n ih =>
      intro hk
      have h := ih (by omega)
      rw [cntTo_succ, cntTo_succ, BitVec.getLsbD_not]
      have : n < 256 := by omega
      cases x.getLsbD n <;> simp [this] <;> omega
  exact this 256 (Nat.le_refl _)
theorem cnt_full (x : BitVec 256) : (x == ~~~ 0#256) = ((cnt x : Int) == 256) := by
  have h1 := cnt_zero (~~~ x)
  have h2 := cnt_not x
  have e : (x == ~~~ 0#256) = (~~~ x == 0#256) := by
    rw [Bool.eq_iff_iff]; simp only [beq_iff_eq]
    constructor
    · rintro rfl; exact BitVec.not_not
    · intro h; rw [← h, BitVec.not_not]
  rw [e, h1, Bool.eq_iff_iff]
  simp only [beq_iff_eq]
  omega
end Go.Proofs.YtnpifgcgjgddoaaGreatDoor

namespace Go.Proofs.YtnpifgcgjgddoaaGreatDoor
open Go.RowKit
theorem drewN_own {w : World} {b e sz n : Nat} {v : Value} {xs : List Value} (k : Nat) (h : w.ownsRow b e sz v n xs) : (w.drewN k).ownsRow b e sz v n xs := h
set_option maxRecDepth 100000 in
set_option maxHeartbeats 4000000 in
theorem showR_any (x : BitVec 256) (w : World) :
    Calls Tryz.prog 81 #[sv x] w fun e w' => e = .returned (.string ⟨(shT x).toArray⟩) ∧ Below w.heap.size w w' := by
  have HX := (show Hid _ from Holds.new w x)
  have HB := (show Hid _ from below1 w (c4 x))
  have HC := (show Hid (∀ w, Calls Tryz.prog 104 #[sv x] w fun e w' => e = .returned (.int .i64 (cnt x)) ∧ Below w.heap.size w w') from countR_any x)
  cases hf : fulB x
  · have HE : Hid (shT x = 91 :: mems (spL (bys x)) ++ [93]) := (by show shT x = _; unfold shT; rw [hf]; rfl)
    have hcf : ((cnt x : Int) == 256) = false := by rw [← cnt_full]; exact hf
    clear hf
    go_enter Tryz.func81, Tryz.ntmps81
    go_wp2_with fail
    refine (HC.out _).mono ?_
    rintro e w1 ⟨rfl, hb⟩
    have HX1 := (show Hid _ from HX.out.below hb (by simp))
    have HB1 := (show Hid _ from HB.out.trans (hb.mono (by simp)))
    clear hb HX HB HC
    obtain ⟨_, x0, x1, x2, x3, _, _, _, _⟩ := HX1.out
    go_wp2_with fail
    refine (spansR_any x _).mono ?_
    rintro e w3 ⟨v, rfl, hro, hnil, hb3⟩
    have HB3 := (show Hid _ from HB1.out.trans (hb3.mono HB1.out.size))
    have hs3 := hb3.size
    have HR := (show Hid _ from hro)
    have hsl : ∃ g cap, v = .slice g (spL (bys x)).length cap := by
      rcases hro.2 with ⟨hv, h0⟩ | ⟨g, cap, cur, hv, _⟩
      · exact ⟨_, _, by rw [h0]; exact hv⟩
      · exact ⟨_, _, hv⟩
    obtain ⟨g, cap, rfl⟩ := hsl
    have HZ : Hid ((spL (bys x)).length ≤ 256) := (show (spL (bys x)).length ≤ 256 from spL_len256 x)
    have HOK : Hid (∀ p ∈ spL (bys x), 0 ≤ p.1 ∧ p.1 ≤ p.2 ∧ p.2 < 256) := (fun p hp => spL_byte x p hp)
    clear hro hnil hb3 HX1 x0 x1 x2 x3 HB1 hcf
    generalize spL (bys x) = SL at *
    go_wp2
    go_loopw [4, 5] (fun o t wr => ∃ k : Nat, ∃ A : ByteArray, k ≤ SL.length ∧ o = .string A ∧ t = .int .i64 k ∧ A.size ≤ 1 + 9 * k ∧ Hid (A = ⟨(91 :: mems (SL.take k)).toArray⟩) ∧ Hid (wr.ownsRow (w1.heap.size + 1) 152 2 (.slice g SL.length cap) SL.length (spc SL) ∧ Below w.heap.size w wr)) (fun _ t _ => SL.length - (intOf t).toNat)
    case atStart => exact ⟨0, _, by omega, rfl, rfl, by decide, rfl, HR.out, HB3.out⟩
    case round =>
      obtain ⟨k, A, hk, rfl, rfl, hA, HAE, HI⟩ := hrel
      have hz := HZ.out
      by_cases hlt : k < SL.length
      · have hk0 : (0 : Int) ≤ (k : Int) := by omega
        have hk1 : (k : Int) < (SL.length : Int) := by omega
        obtain ⟨lo, hi, hle, hh, e1, e2, hmem⟩ := step_at SL k hlt HOK.out
        obtain ⟨g', rfl, c0, c1⟩ := read_at HI.out.1 hlt
        rw [e1] at c0
        rw [e2] at c1
        have hkl : k * 2 + 1 < 2 * SL.length := by omega
        have hLs := itB_size lo
        have hMs := itB_size hi
        have HL : Hid (∀ w, Calls Tryz.prog 106 #[.int .i64 lo] w fun e w' => e = .returned (.string (itB lo)) ∧ Below w.heap.size w w') := fun w => itmR_any lo (by omega) w
        have HM : Hid (∀ w, Calls Tryz.prog 106 #[.int .i64 hi] w fun e w' => e = .returned (.string (itB hi)) ∧ Below w.heap.size w w') := fun w => itmR_any hi (by omega) w
        have HLE : Hid (itB lo = ⟨(itm lo).toArray⟩) := rfl
        have HME : Hid (itB hi = ⟨(itm hi).toArray⟩) := rfl
        generalize itB lo = L at *
        generalize itB hi = M at *
        have hw1 : IntKind.i64.wrap ((lo : Int) + 1) = (lo : Int) + 1 := by rw [IntKind.wrap_i64]; omega
        by_cases d0 : hi - lo = 0
        · have hsp : spT lo hi = itm lo := by unfold spT; rw [if_pos d0]
          have n1 : ¬ (lo : Int) + 1 < (hi : Int) := by omega
          have n2 : ¬ (lo : Int) < (hi : Int) := by omega
          go_wp2_with fail
          refine (HL.out _).mono ?_
          rintro e w4 ⟨rfl, hb4⟩
          have HJ := (show Hid _ from (⟨own_below' HI.out.1 hb4, HI.out.2.trans (hb4.mono HI.out.2.size)⟩ : _ ∧ _))
          obtain ⟨_, hg2, c0, c1⟩ := read_at HJ.out.1 hlt
          cases hg2
          rw [e1] at c0
          rw [e2] at c1
          clear hb4 HI
          go_wp2_with fail
          go_quiet (fail)
          go_wp2_with fail
          go_quiet (fail)
          replace HJ := (show Hid (∀ n, (w4.drewN n).ownsRow (w1.heap.size + 1) 152 2 (.slice (some ⟨g', 0, none⟩) SL.length cap) SL.length (spc SL) ∧ Below w.heap.size w (w4.drewN n)) from fun n => ⟨drewN_own n HJ.out.1, Go.below_drewN HJ.out.2 n⟩)
          go_wp2_with fail
          go_roundw
          case rel => exact ⟨k + 1, _, by omega, rfl, by go_num, by simp only [ByteArray.size_append]; omega, (show _ = _ by rw [hmem, hsp, HAE.out, HLE.out, catL]; rfl), HJ.out _⟩
          case measure => simp [intOf]; omega
        · by_cases d1 : hi - lo = 1
          · have hsp : spT lo hi = itm lo ++ itm hi := by unfold spT; rw [if_neg d0, if_pos d1]
            have n1 : ¬ (lo : Int) + 1 < (hi : Int) := by omega
            have n2 : (lo : Int) < (hi : Int) := by omega
            go_wp2_with fail
            refine (HL.out _).mono ?_
            rintro e w4 ⟨rfl, hb4⟩
            have HJ := (show Hid _ from (⟨own_below' HI.out.1 hb4, HI.out.2.trans (hb4.mono HI.out.2.size)⟩ : _ ∧ _))
            obtain ⟨_, hg2, c0, c1⟩ := read_at HJ.out.1 hlt
            cases hg2
            rw [e1] at c0
            rw [e2] at c1
            clear hb4 HI
            go_wp2_with fail
            go_quiet (fail)
            go_wp2_with fail
            go_quiet (fail)
            replace HJ := (show Hid (∀ n, (w4.drewN n).ownsRow (w1.heap.size + 1) 152 2 (.slice (some ⟨g', 0, none⟩) SL.length cap) SL.length (spc SL) ∧ Below w.heap.size w (w4.drewN n)) from fun n => ⟨drewN_own n HJ.out.1, Go.below_drewN HJ.out.2 n⟩)
            go_wp2_with fail
            refine (HM.out _).mono ?_
            rintro e w5 ⟨rfl, hb5⟩
            have HK := (show Hid _ from (⟨own_below' (HJ.out _).1 hb5, (HJ.out _).2.trans (hb5.mono (HJ.out _).2.size)⟩ : _ ∧ _))
            clear hb5 HJ c0 c1
            go_wp2_with fail
            go_roundw
            case rel => exact ⟨k + 1, _, by omega, rfl, by go_num, by simp only [ByteArray.size_append]; omega, (show _ = _ by rw [hmem, hsp, HAE.out, HLE.out, HME.out, catL, catL]; simp), HK⟩
            case measure => simp [intOf]; omega
          · have hsp : spT lo hi = itm lo ++ [45] ++ itm hi := by unfold spT; rw [if_neg d0, if_neg d1]
            have n1 : (lo : Int) + 1 < (hi : Int) := by omega
            have n2 : (lo : Int) < (hi : Int) := by omega
            go_wp2_with fail
            refine (HL.out _).mono ?_
            rintro e w4 ⟨rfl, hb4⟩
            have HJ := (show Hid _ from (⟨own_below' HI.out.1 hb4, HI.out.2.trans (hb4.mono HI.out.2.size)⟩ : _ ∧ _))
            obtain ⟨_, hg2, c0, c1⟩ := read_at HJ.out.1 hlt
            cases hg2
            rw [e1] at c0
            rw [e2] at c1
            clear hb4 HI
            go_wp2_with fail
            go_quiet (fail)
            go_wp2_with fail
            go_quiet (fail)
            replace HJ := (show Hid (∀ n, (w4.drewN n).ownsRow (w1.heap.size + 1) 152 2 (.slice (some ⟨g', 0, none⟩) SL.length cap) SL.length (spc SL) ∧ Below w.heap.size w (w4.drewN n)) from fun n => ⟨drewN_own n HJ.out.1, Go.below_drewN HJ.out.2 n⟩)
            go_wp2_with fail
            refine (HM.out _).mono ?_
            rintro e w5 ⟨rfl, hb5⟩
            have HK := (show Hid _ from (⟨own_below' (HJ.out _).1 hb5, (HJ.out _).2.trans (hb5.mono (HJ.out _).2.size)⟩ : _ ∧ _))
            clear hb5 HJ c0 c1
            go_wp2_with fail
            go_roundw
            case rel => exact ⟨k + 1, _, by omega, rfl, by go_num, by simp only [ByteArray.size_append]; have h45 : (⟨#[45]⟩ : ByteArray).size = 1 := rfl; omega, (show _ = _ by rw [hmem, hsp, HAE.out, HLE.out, HME.out, catL, show (⟨#[45]⟩ : ByteArray) = ⟨[45].toArray⟩ from rfl, catL, catL]; simp), HK⟩
            case measure => simp [intOf]; omega
      · obtain rfl : k = SL.length := by omega
        rw [List.take_length] at HAE
        go_wp2
        go_ret
        exact ⟨ret_str (by rw [HE.out, HAE.out]; rw [show (⟨#[93]⟩ : ByteArray) = ⟨[93].toArray⟩ from rfl, catL]), HI.out.2⟩
  · have HE : Hid (shT x = [91, 94, 93]) := (by show shT x = _; unfold shT; rw [hf]; rfl)
    have hcf : ((cnt x : Int) == 256) = true := by rw [← cnt_full]; exact hf
    clear hf
    go_enter Tryz.func81, Tryz.ntmps81
    go_wp2_with fail
    refine (HC.out _).mono ?_
    rintro e w1 ⟨rfl, hb⟩
    have HB1 := (show Hid _ from HB.out.trans (hb.mono (by simp)))
    clear hb
    go_wp2
    go_ret
    exact ⟨by rw [HE.out]; rfl, HB1.out⟩
end Go.Proofs.YtnpifgcgjgddoaaGreatDoor

namespace Go.Proofs.YtnpifgcgjgddoaaGreatDoor
open Go.RowKit
theorem bcells (a b : List UInt8) : Lib.byteCells (a ++ b) = Lib.byteCells a ++ Lib.byteCells b := by unfold Lib.byteCells; rw [List.map_append]
theorem scells (s : ByteArray) : Lib.strCells s = Lib.byteCells s.data.toList := rfl
end Go.Proofs.YtnpifgcgjgddoaaGreatDoor

namespace Go.Proofs.YtnpifgcgjgddoaaGreatDoor
open Go.RowKit
theorem emp_eq {s : ByteArray} (h : (s.toList == []) = true) : s = ⟨#[]⟩ := emp_of (by have := emp_size h; omega)
theorem seF_zero {k s0 s1 s2 s3 : Int} {s : ByteArray} (n3 : ¬ k = 3) (n28 : ¬ k = 28) (n5 : ¬ k = 5) (h : seF k s s0 s1 s2 s3 = true) : s0 = 0 ∧ s1 = 0 ∧ s2 = 0 ∧ s3 = 0 := by
  unfold seF at h
  rw [if_neg n3, if_neg n28, if_neg n5] at h
  simpa using h
theorem txF_zero {k : Int} {s : ByteArray} (n1 : ¬ k = 1) (n21 : ¬ k = 21) (n2 : ¬ k = 2) (n28 : ¬ k = 28) (h : txF k s = true) : s = ⟨#[]⟩ := by
  unfold txF at h
  rw [if_neg n1, if_neg n21, if_neg n2, if_neg n28] at h
  exact emp_eq h
theorem aln_of {t : Tk} (hr : riF t = true) (hb : TkB t) : Aln (tkX t) t.kd t.nn t.tx t.s0 t.s1 t.s2 t.s3 := by
  obtain ⟨h1, h2, h3, h4, h5, h6⟩ := ri_nat hr
  have hs := txF_len h3
  have u0 := hb.u0
  have u1 := hb.u1
  have u2 := hb.u2
  have u3 := hb.u3
  have u4 := hb.u4
  obtain ⟨kd, nn, fr, en, tx, s0, s1, s2, s3⟩ := t
  unfold tkX
  dsimp only at *
  clear hr hb
  by_cases n1 : kd = 1
  · subst n1
    obtain ⟨rfl, rfl, rfl, rfl⟩ := seF_zero (by omega) (by omega) (by omega) h6
    obtain rfl : nn = 0 := by rw [if_neg (by omega)] at h5; have : gtK 1 = 0 := rfl; omega
    rw [if_pos rfl]
    exact al_name h3
  rw [if_neg n1]
  by_cases n21 : kd = 21
  · subst n21
    obtain ⟨rfl, rfl, rfl, rfl⟩ := seF_zero (by omega) (by omega) (by omega) h6
    obtain rfl : nn = 0 := by rw [if_neg (by omega)] at h5; have : gtK 21 = 0 := rfl; omega
    rw [if_pos rfl]
    unfold txF at h3
    rw [if_neg (by omega), if_pos rfl] at h3
    rcases Bool.or_eq_true_iff.1 h3 with h | h
    · obtain rfl := emp_eq h
      exact al_grp0
    · have := (isNm_len h).1
      unfold gnm
      rw [if_neg (by omega)]
      exact al_grp h
  rw [if_neg n21]
  by_cases n2 : kd = 2
  · subst n2
    obtain ⟨rfl, rfl, rfl, rfl⟩ := seF_zero (by omega) (by omega) (by omega) h6
    obtain rfl : nn = 0 := by rw [if_neg (by omega)] at h5; have : gtK 2 = 0 := rfl; omega
    rw [if_pos rfl]
    exact al_lit tx hs
  rw [if_neg n2]
  by_cases n3 : kd = 3
  · subst n3
    obtain rfl := txF_zero (by omega) (by omega) (by omega) (by omega) h3
    obtain rfl : nn = 0 := by rw [if_neg (by omega)] at h5; have : gtK 3 = 0 := rfl; omega
    rw [if_pos rfl]
    obtain ⟨x0, x1, x2, x3⟩ := mkS_wd s0 s1 s2 s3 ⟨u0, u1⟩ u2 u3 u4
    have h := al_cls (mkS s0 s1 s2 s3)
    rw [x0, x1, x2, x3] at h
    exact h
  rw [if_neg n3]
  by_cases n28 : kd = 28
  · subst n28
    obtain rfl : nn = 0 := by rw [if_neg (by omega)] at h5; have : gtK 28 = 0 := rfl; omega
    rw [if_pos rfl]
    have hsz : tx.size = 1 := by
      unfold txF at h3
      rw [if_neg (by omega), if_neg (by omega), if_neg (by omega), if_pos rfl] at h3
      have := of_decide_eq_true h3
      omega
    obtain ⟨c, rfl⟩ : ∃ c, tx = tx8 [c] := by
      obtain ⟨⟨l⟩⟩ := tx
      match l, hsz with
      | [c], _ => exact ⟨c, rfl⟩
    have hc : chr (tx8 [c]) 0 = (c.toNat : Int) := by rw [chr_tx]; rfl
    unfold seF at h6
    rw [if_neg (by omega), if_pos rfl, hc, Int.toNat_natCast] at h6
    simp only [Bool.and_eq_true, beq_iff_eq] at h6
    obtain ⟨q, rfl, rfl, rfl, rfl⟩ := h6
    exact al_pct c q
  rw [if_neg n28]
  obtain rfl := txF_zero n1 n21 n2 n28 h3
  by_cases n5 : kd = 5
  · subst n5
    have h7 := set5_le rfl h6
    rw [if_pos rfl] at h5 ⊢
    unfold seF at h6
    rw [if_neg (by omega), if_neg (by omega), if_pos rfl] at h6
    simp only [Bool.and_eq_true, beq_iff_eq] at h6
    obtain ⟨_, _, rfl, rfl, rfl⟩ := h6
    have h := al_pts nn.toNat s0.toNat (by omega) (by omega)
    rw [show ((nn.toNat : Nat) : Int) = nn from by omega, show ((s0.toNat : Nat) : Int) = s0 from by omega] at h
    exact h
  rw [if_neg n5] at h5 ⊢
  obtain ⟨rfl, rfl, rfl, rfl⟩ := seF_zero n3 n28 n5 h6
  by_cases n4 : kd = 4
  · subst n4
    rw [if_pos rfl]
    have hg : gtK 4 = 999999 := rfl
    have h := al_num nn.toNat (by omega)
    rw [show ((nn.toNat : Nat) : Int) = nn from by omega] at h
    exact h
  rw [if_neg n4]
  by_cases n13 : kd = 13
  · subst n13
    rw [if_pos rfl]
    have hg : gtK 13 = 50 := rfl
    have h := al_cnt [94] 13 nn.toNat (by omega) (.inl ⟨rfl, rfl⟩)
    rw [show ((nn.toNat : Nat) : Int) = nn from by omega] at h
    rw [show (⟨#[94]⟩ ++ txO (dgT 10 nn.toNat) : ByteArray) = tx8 ([94] ++ dgT 10 nn.toNat) from by unfold txO; apply ByteArray.ext; simp]
    exact h
  rw [if_neg n13]
  by_cases n14 : kd = 14
  · subst n14
    rw [if_pos rfl]
    have hg : gtK 14 = 50 := rfl
    have h := al_cnt [94, 43] 14 nn.toNat (by omega) (.inr (.inl ⟨rfl, rfl⟩))
    rw [show ((nn.toNat : Nat) : Int) = nn from by omega] at h
    rw [show (⟨#[94, 43]⟩ ++ txO (dgT 10 nn.toNat) : ByteArray) = tx8 ([94, 43] ++ dgT 10 nn.toNat) from by unfold txO; apply ByteArray.ext; simp]
    exact h
  rw [if_neg n14]
  by_cases n15 : kd = 15
  · subst n15
    rw [if_pos rfl]
    have hg : gtK 15 = 50 := rfl
    have h := al_cnt [94, 45] 15 nn.toNat (by omega) (.inr (.inr ⟨rfl, rfl⟩))
    rw [show ((nn.toNat : Nat) : Int) = nn from by omega] at h
    rw [show (⟨#[94, 45]⟩ ++ txO (dgT 10 nn.toNat) : ByteArray) = tx8 ([94, 45] ++ dgT 10 nn.toNat) from by unfold txO; apply ByteArray.ext; simp]
    exact h
  rw [if_neg n15]
  have hg : gtK kd = 0 := by unfold gtK; rw [if_neg n4, if_neg (by omega)]
  obtain rfl : nn = 0 := by omega
  have h := al_sig kd.toNat (by omega) ⟨by omega, by omega, by omega, by omega, by omega, by omega, by omega, by omega, by omega, by omega, by omega⟩
  rw [show ((kd.toNat : Nat) : Int) = kd from by omega] at h
  by_cases n29 : kd = 29
  · subst n29; rw [if_pos rfl]; exact h
  rw [if_neg n29]
  by_cases n30 : kd = 30
  · subst n30; rw [if_pos rfl]; exact h
  rw [if_neg n30]
  unfold sgX at h
  rw [if_neg (by omega), if_neg (by omega)] at h
  exact h
/-- Where a right token's text stands, with a blank or nothing behind it, the token is read. -/
theorem tok_there {t : Tk} (hr : riF t = true) (hb : TkB t) {s : ByteArray} {b : Nat} (ha : Ag (tkX t) 0 s b (tkX t).size) (he : stopB (chr s (b + (tkX t).size)) = true) : 0 < (tkX t).size ∧ gapN s b = b ∧ b < s.size ∧ b + (tkX t).size ≤ s.size ∧ oneP s b = .inl (mvT t b (tkX t).size) := by
  have h := aln_of hr hb
  have h1 := start_move h.p h.b.b h.b.c h.o (m := (tkX t).size) (by show ((tkX t).size : Int) = ((0 + (tkX t).size : Nat) : Int); omega) ha
  have h2 := tok_move h.p h.o (m := (tkX t).size) (by show ((tkX t).size : Int) = ((0 + (tkX t).size : Nat) : Int); omega) ha (.inl he)
  exact ⟨h.p, h1.1, h1.2, ha.in h.p (by omega), h2⟩
end Go.Proofs.YtnpifgcgjgddoaaGreatDoor

namespace Go.Proofs.YtnpifgcgjgddoaaGreatDoor
open Go.RowKit
/-- Right, and of the sizes that a machine holds. -/
structure Rgt (t : Tk) : Prop where
  r : riF t = true
  b : TkB t
theorem Rgt.plain {k n a e : Int} {tx : ByteArray} (h : riF ⟨k, n, a, e, tx, 0, 0, 0, 0⟩ = true) (hn : n ≤ 1114111) : Rgt ⟨k, n, a, e, tx, 0, 0, 0, 0⟩ := ⟨h, ⟨by show n < _; omega, by show (0 : Int) ≤ 0; omega, by show (0 : Int) < _; omega, by show (0 : Int) ≤ 0 ∧ (0 : Int) < _; omega, by show (0 : Int) ≤ 0 ∧ (0 : Int) < _; omega, by show (0 : Int) ≤ 0 ∧ (0 : Int) < _; omega⟩⟩
theorem ri_name {a e : Int} {s : ByteArray} (h : isNm s = true) : riF ⟨1, 0, a, e, s, 0, 0, 0, 0⟩ = true := by
  unfold riF txF nbF seF gtK
  simp [h]
theorem ri_grp {a e : Int} {s : ByteArray} (h : isNm s = true) : riF ⟨21, 0, a, e, s, 0, 0, 0, 0⟩ = true := by
  unfold riF txF nbF seF gtK
  simp [h]
theorem ri_grp0 {a e : Int} : riF ⟨21, 0, a, e, ⟨#[]⟩, 0, 0, 0, 0⟩ = true := by
  have em : ((⟨#[]⟩ : ByteArray).toList == []) = true := by rw [ByteArray.toList_eq]; rfl
  unfold riF txF nbF seF gtK
  simp []
def sgK (k : Int) : Bool := k == 0 || k == 13 || k == 14 || k == 15 || k == 21 || k == 29 || k == 30 || k == 27 || (decide (6 ≤ k) && decide (k ≤ 12)) || (decide (16 ≤ k) && decide (k ≤ 20)) || (decide (22 ≤ k) && decide (k ≤ 26))
theorem ri_sig {k a e : Int} (h : sgK k = true) (h0 : ¬ k = 0) (h1 : ¬ (k = 13 ∨ k = 14 ∨ k = 15)) (h2 : ¬ k = 21) : riF ⟨k, 0, a, e, ⟨#[]⟩, 0, 0, 0, 0⟩ = true := by
  have em : ((⟨#[]⟩ : ByteArray).toList == []) = true := by rw [ByteArray.toList_eq]; rfl
  simp only [sgK, Bool.or_eq_true, Bool.and_eq_true, beq_iff_eq, decide_eq_true_eq] at h
  unfold riF txF nbF seF gtK
  dsimp only
  rw [if_neg (show ¬ k = 1 by omega), if_neg (show ¬ k = 21 by omega), if_neg (show ¬ k = 2 by omega), if_neg (show ¬ k = 28 by omega), if_neg (show ¬ k = 5 by omega), if_neg (show ¬ k = 4 by omega), if_neg h1, if_neg (show ¬ k = 3 by omega), if_neg (show ¬ k = 28 by omega), if_neg (show ¬ k = 5 by omega), em, decide_eq_true (show 1 ≤ k by omega), decide_eq_true (show k ≤ 30 by omega)]
  rfl
end Go.Proofs.YtnpifgcgjgddoaaGreatDoor

namespace Go.Proofs.YtnpifgcgjgddoaaGreatDoor
open Go.ChangeShapes Go.WideShapes Go.ChangeAt Go.RowKit
theorem own : ownKnob Tryz.prog.godebug = none := by kernel_rfl
theorem laidOut : laidOutB Tryz.prog = true := by kernel_rfl
/-- A world with the tables laid. -/
def layAt (k : Nat) (cs : Array Value) (w : World) : World := { w with heap := w.heap.modify k fun
      | .cells _ t frozen => .cells cs t frozen
      | o => o }
def layTab (w : World) : World := layAt 6 #[.int .i32 0, .int .i32 127, .int .i32 128, .int .i32 2047, .int .i32 2048, .int .i32 55295, .int .i32 57344, .int .i32 65535, .int .i32 65536, .int .i32 1114111] (layAt 5 #[.int .u8 0, .int .u8 1, .int .u8 56, .int .u8 2, .int .u8 57, .int .u8 49, .int .u8 28, .int .u8 3, .int .u8 61, .int .u8 58, .int .u8 42, .int .u8 50, .int .u8 38, .int .u8 29, .int .u8 17, .int .u8 4, .int .u8 62, .int .u8 47, .int .u8 59, .int .u8 36, .int .u8 45, .int .u8 43, .int .u8 51, .int .u8 22, .int .u8 53, .int .u8 39, .int .u8 33, .int .u8 30, .int .u8 24, .int .u8 18, .int .u8 12, .int .u8 5, .int .u8 63, .int .u8 55, .int .u8 48, .int .u8 27, .int .u8 60, .int .u8 41, .int .u8 37, .int .u8 16, .int .u8 46, .int .u8 35, .int .u8 44, .int .u8 21, .int .u8 52, .int .u8 32, .int .u8 23, .int .u8 11, .int .u8 54, .int .u8 26, .int .u8 40, .int .u8 15, .int .u8 34, .int .u8 20, .int .u8 31, .int .u8 10, .int .u8 25, .int .u8 14, .int .u8 19, .int .u8 9, .int .u8 13, .int .u8 8, .int .u8 7, .int .u8 6] (layAt 4 #[.int .u8 0, .int .u8 1, .int .u8 28, .int .u8 2, .int .u8 29, .int .u8 14, .int .u8 24, .int .u8 3, .int .u8 30, .int .u8 22, .int .u8 20, .int .u8 15, .int .u8 25, .int .u8 17, .int .u8 4, .int .u8 8, .int .u8 31, .int .u8 27, .int .u8 13, .int .u8 23, .int .u8 21, .int .u8 19, .int .u8 16, .int .u8 7, .int .u8 26, .int .u8 12, .int .u8 18, .int .u8 6, .int .u8 11, .int .u8 5, .int .u8 10, .int .u8 9] (layAt 2 #[.int .u64 1, .int .u64 10, .int .u64 100, .int .u64 1000, .int .u64 10000, .int .u64 100000, .int .u64 1000000, .int .u64 10000000, .int .u64 100000000, .int .u64 1000000000, .int .u64 10000000000, .int .u64 100000000000, .int .u64 1000000000000, .int .u64 10000000000000, .int .u64 100000000000000, .int .u64 1000000000000000, .int .u64 10000000000000000, .int .u64 100000000000000000, .int .u64 1000000000000000000, .int .u64 10000000000000000000] (layAt 1 #[.int .i64 29, .string ⟨#[37, 101]⟩, .int .i64 30, .string ⟨#[37, 102]⟩, .int .i64 14, .string ⟨#[94, 43]⟩, .int .i64 15, .string ⟨#[94, 45]⟩, .int .i64 13, .string ⟨#[94]⟩, .int .i64 6, .string ⟨#[60, 45]⟩, .int .i64 27, .string ⟨#[45, 62]⟩, .int .i64 7, .string ⟨#[47]⟩, .int .i64 8, .string ⟨#[38]⟩, .int .i64 9, .string ⟨#[33]⟩, .int .i64 10, .string ⟨#[63]⟩, .int .i64 11, .string ⟨#[42]⟩, .int .i64 12, .string ⟨#[43]⟩, .int .i64 16, .string ⟨#[40]⟩, .int .i64 17, .string ⟨#[41]⟩, .int .i64 18, .string ⟨#[46]⟩, .int .i64 21, .string ⟨#[123, 58]⟩, .int .i64 22, .string ⟨#[58, 125]⟩, .int .i64 23, .string ⟨#[123, 124]⟩, .int .i64 24, .string ⟨#[124, 125]⟩, .int .i64 25, .string ⟨#[123, 126]⟩, .int .i64 26, .string ⟨#[126, 125]⟩, .int .i64 19, .string ⟨#[123]⟩, .int .i64 20, .string ⟨#[125]⟩] (layAt 0 #[.string ⟨#[]⟩, .string ⟨#[101, 109, 112, 116, 121]⟩, .string ⟨#[102, 97, 105, 108]⟩, .string ⟨#[97, 110, 121]⟩, .string ⟨#[116, 101, 120, 116]⟩, .string ⟨#[115, 101, 116]⟩, .string ⟨#[99, 97, 108, 108]⟩, .string ⟨#[115, 101, 113]⟩, .string ⟨#[99, 104, 111, 105, 99, 101]⟩, .string ⟨#[115, 116, 97, 114]⟩, .string ⟨#[112, 108, 117, 115]⟩, .string ⟨#[111, 112, 116]⟩, .string ⟨#[97, 110, 100]⟩, .string ⟨#[110, 111, 116]⟩, .string ⟨#[116, 105, 109, 101, 115]⟩, .string ⟨#[108, 101, 97, 115, 116]⟩, .string ⟨#[109, 111, 115, 116]⟩, .string ⟨#[112, 108, 97, 99, 101]⟩, .string ⟨#[115, 117, 98]⟩, .string ⟨#[103, 114, 111, 117, 112]⟩, .string ⟨#[108, 105, 115, 116]⟩, .string ⟨#[115, 117, 98, 115, 116]⟩, .string ⟨#[115, 116, 114, 105, 110, 103]⟩, .string ⟨#[112, 105, 99, 107]⟩] (w))))))
end Go.Proofs.YtnpifgcgjgddoaaGreatDoor

namespace Go.Proofs.YtnpifgcgjgddoaaGreatDoor.T
open Go.ChangeShapes Go.WideShapes Go.ChangeAt Go.RowKit
theorem Tryz.cells51 : Tryz.prog.cellsOf 51 = 7 := by kernel_rfl
theorem Tryz.cells49 : Tryz.prog.cellsOf 49 = 4 := by kernel_rfl
theorem Tryz.cells47 : Tryz.prog.cellsOf 47 = 1 := by kernel_rfl
theorem Tryz.cells9 : Tryz.prog.cellsOf 9 = 1 := by kernel_rfl
theorem Tryz.cells3 : Tryz.prog.cellsOf 3 = 1 := by kernel_rfl
theorem Tryz.bytes51 : Tryz.prog.bytesOf 51 = 64 := by kernel_rfl

theorem sized_at {H : Type} {P : Program} {ts : List TypeId} {ds : List (DataW H)} (h : (DataW.weightsEach P ts ds).all (· ≤ reachBytes) = true) {j : Nat} {t : TypeId} {d : DataW H} (ht : ts[j]? = some t) (hd : ds[j]? = some d) : ∀ n ∈ d.weights P t, n ≤ reachBytes := fun n hn => by
  have := List.all_eq_true.1 h _ (DataW.weights_mem_each ht hd n hn)
  simpa using this
theorem weights_all {H : Type} (P : Program) (e : TypeId) : ∀ (l : List (DataW H)) (d : DataW H), d ∈ l → ∀ n ∈ d.weights P e, n ∈ DataW.weightsAll P e l
  | [], _, h, _, _ => by cases h
  | a :: l, d, h, n, hn => by
    simp only [DataW.weightsAll, List.mem_append]
    rcases List.mem_cons.1 h with rfl | h
    · exact .inl hn
    · exact .inr (weights_all P e l d h n hn)

theorem list7 {α : Type} {l : List α} (h : l.length = 7) : ∃ a b c d e f g, l = [a, b, c, d, e, f, g] := by
  match l, h with
  | [a, b, c, d, e, f, g], _ => exact ⟨a, b, c, d, e, f, g, rfl⟩
theorem wf64 {n : Int} (h : (Lit.int .u64 n).wf = true) : 0 ≤ n ∧ n < 18446744073709551616 := by
  have := bounds_u64 h
  omega
/-- The words of a node's set are words. -/
def SeW (n : Nd) : Prop := (0 ≤ n.s0 ∧ n.s0 < 18446744073709551616) ∧ (0 ≤ n.s1 ∧ n.s1 < 18446744073709551616) ∧ (0 ≤ n.s2 ∧ n.s2 < 18446744073709551616) ∧ (0 ≤ n.s3 ∧ n.s3 < 18446744073709551616)
set_option maxRecDepth 100000 in
theorem node_in {H : Type} {enc : TypeId × Value → H} {W : World} {held : Bool} {n : Nat} {cs : List Value} {x : DataW H × List MemPlace} (h : DataW.trod enc Tryz.prog W 0 (fun _ => true) held n 51 cs = some x) :
    ∃ nd : Nd, cs = ndV nd ∧ nd.tx.size ∈ x.1.weights Tryz.prog 51 ∧ SeW nd := by
  obtain ⟨y0, y1, y2, y3, k, hx, hl, h0, h1, h2, h3⟩ := Go.Joins.trod_struct4 Tryz.underlying51 h
  rw [Tryz.cells51] at hl
  obtain ⟨a, b, c, d, e, f, g, rfl⟩ := list7 hl
  simp only [Tryz.cells3, Tryz.cells9, Tryz.cells49, List.drop_zero, List.take_succ_cons, List.take_zero, List.drop_succ_cons] at h0 h1 h2 h3
  obtain ⟨N0, e0, _, _⟩ := DataW.trod_int Tryz.underlying3 h0
  obtain ⟨N1, e1, _, _⟩ := DataW.trod_int Tryz.underlying3 h1
  obtain ⟨s, e2, hs, _⟩ := DataW.trod_string Tryz.underlying9 h2
  obtain ⟨z0, z1, z2, z3, k2, _, g0, g1, g2, g3⟩ := trod_array4 Tryz.underlying49 Tryz.cells47 h3
  obtain ⟨M0, f0, _, m0⟩ := DataW.trod_int Tryz.underlying47 g0
  obtain ⟨M1, f1, _, m1⟩ := DataW.trod_int Tryz.underlying47 g1
  obtain ⟨M2, f2, _, m2⟩ := DataW.trod_int Tryz.underlying47 g2
  obtain ⟨M3, f3, _, m3⟩ := DataW.trod_int Tryz.underlying47 g3
  cases e0; cases e1; cases e2; cases f0; cases f1; cases f2; cases f3
  refine ⟨⟨N0, N1, s, M0, M1, M2, M3⟩, rfl, ?_, wf64 m0, wf64 m1, wf64 m2, wf64 m3⟩
  rw [hx, hs]
  simp only [DataW.weights, Tryz.underlying51]
  simp only [DataW.weightsEach, DataW.weights, List.map_cons, List.mem_append, List.mem_singleton]
  right; right; left
  show s.size = s.data.toList.length
  rw [Array.length_toList]
  rfl

/-- A pattern that comes in. -/
theorem open_pat {H : Type} {enc : TypeId × Value → H} {W : World} {held : Bool} {v : Value} {d : DataW H} {p : List MemPlace} (h : DataW.Trod enc Tryz.prog W 0 (fun _ => true) held 23 v d p) (hv : ∃ a l c, v = .slice a l c) :
    ∃ A c L, v = .slice A L.length c ∧ RdN W A L ∧ (A = none → c = 0 ∧ L = []) ∧ ((∀ n ∈ d.weights Tryz.prog 23, n ≤ reachBytes) → L.length * 64 ≤ 140737488351232 ∧ ∀ n ∈ L, n.tx.size ≤ 140737488351232) ∧ ∀ n ∈ L, SeW n := by
  obtain ⟨fuel, hf⟩ := h
  obtain ⟨a0, len0, cap0, rfl⟩ := hv
  have hr : reachBytes = 140737488351232 := by decide
  rcases Go.Deep.open_slice Tryz.underlying23 hf with ⟨hc, hx⟩ | ⟨a, len, cap, m, n, D, Pl, hc, _, hl, hm, hmm, hx, hall⟩
  · have hc : [Value.slice a0 len0 cap0] = [.slice none 0 0] := hc
    cases hc
    exact ⟨none, 0, [], rfl, fun q => absurd rfl q, fun _ => ⟨rfl, rfl⟩, fun _ => ⟨by simp, fun n hn => by cases hn⟩, fun n hn => by cases hn⟩
  · have hc : [Value.slice a0 len0 cap0] = [.slice (some a) len cap] := hc
    cases hc
    simp only [if_true] at hmm
    subst hmm
    have hlm : len0 ≤ m := hl
    have each : ∀ i, i < len0 → ∃ nd : Nd, (∀ j u, (ndV nd)[j]? = some u → W.cell? (a.add (i * 7 + j)) = some u) ∧ nd.tx.size ∈ (D i).weights Tryz.prog 51 ∧ SeW nd := by
      intro i hi
      obtain ⟨cs', h1, h2⟩ := hall i (by omega)
      rw [Tryz.cells51] at h1
      obtain ⟨_, hlen, hcell⟩ := World.cells?_some h1
      obtain ⟨nd, rfl, hw⟩ := node_in h2
      refine ⟨nd, fun j u hj => ?_, hw⟩
      have hj7 : j < 7 := by
        by_cases q : j < 7
        · exact q
        · rw [List.getElem?_eq_none (by show (ndV nd).length ≤ j; show 7 ≤ j; omega)] at hj; cases hj
      have e := hcell j (by rw [show (ndV nd).length = 7 from rfl] at *; omega)
      rw [Go.Deep.add_add] at e
      rw [e]
      exact hj
    obtain ⟨F, hF⟩ : ∃ F : Nat → Nd, ∀ i, i < len0 → (∀ j u, (ndV (F i))[j]? = some u → W.cell? (a.add (i * 7 + j)) = some u) ∧ (F i).tx.size ∈ (D i).weights Tryz.prog 51 ∧ SeW (F i) :=
      ⟨fun i => if h : i < len0 then Classical.choose (each i h) else ⟨0, 0, ⟨#[]⟩, 0, 0, 0, 0⟩, fun i h => by simp only [dif_pos h]; exact Classical.choose_spec (each i h)⟩
    refine ⟨some a, m, (List.range len0).map F, by simp, fun hne => ?_, fun q => (by cases q), fun hw => ?_, fun n hn => ?_⟩
    · have h0 : 0 < len0 := by
        by_cases q : 0 < len0
        · exact q
        · have : len0 = 0 := by omega
          subst this
          exact absurd rfl hne
      obtain ⟨g, off, spot⟩ := a
      have hspot : spot = none := by simpa [Addr.add] using World.cell?_spot ((hF 0 h0).1 0 _ rfl)
      subst hspot
      refine ⟨g, off, rfl, World.block_lt_of_cell? W _ ((hF 0 h0).1 0 _ rfl), fun j nd hj => ?_⟩
      rw [List.getElem?_map] at hj
      have hj2 : j < len0 := by
        by_cases q : j < len0
        · exact q
        · rw [List.getElem?_eq_none (by simp; omega)] at hj; cases hj
      rw [List.getElem?_range hj2] at hj
      cases hj
      have key : ∀ i u, (ndV (F j))[i]? = some u → W.cell? ⟨g, off + j * 7 + i, none⟩ = some u := fun i u hu => by
        have e := (hF j hj2).1 i u hu
        rw [Addr.add_lit, ← Nat.add_assoc] at e
        exact e
      exact ⟨key 0 _ rfl, key 1 _ rfl, key 2 _ rfl, key 3 _ rfl, key 4 _ rfl, key 5 _ rfl, key 6 _ rfl⟩
    · have hd : d = .slice ((List.range len0).map D) ((List.range (m - len0)).map fun j => D (len0 + j)) := congrArg Prod.fst hx
      rw [hd] at hw
      simp only [DataW.weights, Tryz.underlying23] at hw
      refine ⟨?_, fun nd hnd => ?_⟩
      · have := hw _ (List.mem_cons_self ..)
        rw [Tryz.bytes51, hr] at this
        simp only [List.length_map, List.length_range] at this ⊢
        omega
      · obtain ⟨i, hi, rfl⟩ := List.mem_map.1 hnd
        have hi2 := List.mem_range.1 hi
        have := hw _ (List.mem_cons_of_mem _ (List.mem_append_left _ (weights_all _ 51 _ (D i) (List.mem_map.2 ⟨i, hi, rfl⟩) _ (hF i hi2).2.1)))
        rw [hr] at this
        exact this
    · obtain ⟨i, hi, rfl⟩ := List.mem_map.1 hn
      exact (hF i (List.mem_range.1 hi)).2.2
end Go.Proofs.YtnpifgcgjgddoaaGreatDoor.T
