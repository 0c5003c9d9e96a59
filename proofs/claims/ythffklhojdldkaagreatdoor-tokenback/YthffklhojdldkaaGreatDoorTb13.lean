/- DERIVED. Plain mathematics and walks, laid together (13). -/
import Derived.Deep.RegionHeld3
import Derived.Test.YthffklhojdldkaaGreatDoorTb12
namespace Go.Proofs.YthffklhojdldkaaGreatDoor
open Go.RowKit
theorem hex_hexD : ∀ d : Fin 16, hexV ((hexD d.val).toNat : Int) = (d.val : Int) ∧ hxB ((hexD d.val).toNat : Int) = true ∧ (d.val < 10 → dgB ((hexD d.val).toNat : Int) = true) ∧ (((hexD d.val).toNat : Int) = 48 → d.val = 0) := by decide
/-- All are digits; the first one of several is not 0. -/
theorem dgT_dig (b : Nat) (hb : 2 ≤ b) (hb2 : b ≤ 16) (n : Nat) : ∀ x ∈ dgT b n, ∃ d, d < b ∧ x = hexD d := by
  induction n using Nat.strongRecOn with
  | _ n ih =>
    intro x hx
    by_cases h : n < b
    · rw [dgT_lo h] at hx
      exact ⟨n, h, by simpa using hx⟩
    · rw [dgT_hi hb h] at hx
      rcases List.mem_append.1 hx with h1 | h1
      · exact ih (n / b) (div_less hb h) x h1
      · exact ⟨n % b, Nat.mod_lt _ (by omega), by simpa using h1⟩
theorem dgT_first (b : Nat) (hb : 2 ≤ b) (n : Nat) (hn : 0 < n) : ∃ d r, 0 < d ∧ d < b ∧ dgT b n = hexD d :: r := by
  induction n using Nat.strongRecOn with
  | _ n ih =>
    by_cases h : n < b
    · exact ⟨n, [], hn, h, dgT_lo h⟩
    · have h1 : 0 < n / b := Nat.div_pos (by omega) (by omega)
      obtain ⟨d, r, h2, h3, h4⟩ := ih (n / b) (div_less hb h) h1
      exact ⟨d, r ++ [hexD (n % b)], h2, h3, by rw [dgT_hi hb h, h4]; rfl⟩
theorem chL_in {l : List UInt8} {i : Nat} {x : UInt8} (h : l[i]? = some x) : chL l i = (x.toNat : Int) := by unfold chL; rw [h]
theorem chL_out {l : List UInt8} {i : Nat} (h : l.length ≤ i) : chL l i = -1 := by unfold chL; rw [List.getElem?_eq_none h]
theorem chL_left (p q : List UInt8) (i : Nat) (h : i < p.length) : chL (p ++ q) i = chL p i := by unfold chL; rw [List.getElem?_append_left h]
theorem dgT_at (b : Nat) (hb : 2 ≤ b) (hb2 : b ≤ 16) (n i : Nat) (h : i < (dgT b n).length) : ∃ d, d < b ∧ chL (dgT b n) i = ((hexD d).toNat : Int) := by
  obtain ⟨d, h1, h2⟩ := dgT_dig b hb hb2 n (dgT b n)[i] (List.getElem_mem h)
  exact ⟨d, h1, by rw [chL_in (List.getElem?_eq_getElem h), h2]⟩
theorem wthR_text (b : Nat) (hb : 2 ≤ b) (hb2 : b ≤ 16) (n : Nat) : ∀ q : List UInt8, wthR (tx8 (dgT b n ++ q)) 0 (b : Int) (dgT b n).length = (n : Int) := by
  induction n using Nat.strongRecOn with
  | _ n ih =>
    intro q
    by_cases h : n < b
    · rw [dgT_lo h]
      have e : chr (tx8 ([hexD n] ++ q)) 0 = ((hexD n).toNat : Int) := by rw [chr_tx]; rfl
      show (0 : Int) * b + hexV (chr (tx8 ([hexD n] ++ q)) 0) = n
      rw [e, (hex_hexD ⟨n, by omega⟩).1]
      show (0 : Int) * b + (n : Int) = n
      rw [Int.zero_mul, Int.zero_add]
    · have hd := dgT_hi hb h
      have h2 := ih (n / b) (div_less hb h) ([hexD (n % b)] ++ q)
      have hm : n % b < b := Nat.mod_lt _ (by omega)
      rw [hd, List.append_assoc, List.length_append, List.length_singleton]
      show wthR _ 0 (b : Int) (dgT b (n / b)).length * b + hexV (chr _ (0 + (dgT b (n / b)).length)) = n
      rw [h2, Nat.zero_add, at0]
      have e : chL ([hexD (n % b)] ++ q) 0 = ((hexD (n % b)).toNat : Int) := rfl
      rw [e, (hex_hexD ⟨n % b, by omega⟩).1]
      show ((n / b : Nat) : Int) * (b : Int) + ((n % b : Nat) : Int) = n
      have h3 := Nat.div_add_mod n b
      have h4 : ((b * (n / b) + n % b : Nat) : Int) = (n : Int) := by rw [h3]
      rw [Int.natCast_add, Int.natCast_mul, Int.mul_comm] at h4
      exact h4
/-- Digits, wherever they stand: a run of them, and its worth. -/
theorem ag_tx (p l q : List UInt8) : Ag (tx8 l) 0 (tx8 (p ++ l ++ q)) p.length l.length := fun k hk => by
  rw [Nat.zero_add, chr_tx, chr_tx, List.append_assoc, chL_app, chL_left _ _ _ hk]
theorem run10 (n : Nat) : spN dgB (tx8 (dgT 10 n)) 0 = 0 + (dgT 10 n).length := by
  refine spN_eq (by decide) (by omega) (fun k _ hk => ?_) ?_
  · obtain ⟨d, h1, h2⟩ := dgT_at 10 (by omega) (by omega) n k (by omega)
    rw [chr_tx, h2]
    exact (hex_hexD ⟨d, by omega⟩).2.2.1 h1
  · rw [chr_tx, chL_out (by omega)]; decide
theorem run16 (n : Nat) : spN hxB (tx8 (dgT 16 n)) 0 = 0 + (dgT 16 n).length := by
  refine spN_eq (by decide) (by omega) (fun k _ hk => ?_) ?_
  · obtain ⟨d, h1, h2⟩ := dgT_at 16 (by omega) (by omega) n k (by omega)
    rw [chr_tx, h2]
    exact (hex_hexD ⟨d, by omega⟩).2.1
  · rw [chr_tx, chL_out (by omega)]; decide
theorem num10 (n : Nat) (most : Int) (h1 : n ≤ 999999) (h2 : (n : Int) ≤ most) : numR (tx8 (dgT 10 n)) 0 most = .inl (n : Int) := by
  have hr := run10 n
  have hl := dgT_len 10 (by omega) 5 n (by omega)
  have hne := dgT_ne 10 n (by omega)
  have hw : wthR (tx8 (dgT 10 n)) 0 10 (dgT 10 n).length = (n : Int) := by
    have h := wthR_text 10 (by omega) (by omega) n []
    rw [List.append_nil] at h
    exact h
  have hpos : 0 < (dgT 10 n).length := by
    cases hd : dgT 10 n with
    | nil => exact absurd hd hne
    | cons a b => simp
  unfold numR
  rw [hr, Nat.zero_add, Nat.sub_zero, if_neg, if_neg, hw]
  · rw [hw]; omega
  · rintro (q | ⟨q1, q2⟩)
    · omega
    · by_cases h0 : 0 < n
      · obtain ⟨d, r, d1, d2, d3⟩ := dgT_first 10 (by omega) n h0
        rw [chr_tx, d3] at q2
        have := (hex_hexD ⟨d, by omega⟩).2.2.2 q2
        simp only at this
        omega
      · obtain rfl : n = 0 := by omega
        rw [dgT_lo (by omega)] at q1
        simp at q1
/-- A place at which a token begins. -/
structure Beg (s : ByteArray) : Prop where
  b : ¬ (chr s 0 = 9 ∨ chr s 0 = 10 ∨ chr s 0 = 13 ∨ chr s 0 = 32)
  c : ¬ (chr s 0 = 45 ∧ chr s 1 = 45)
theorem Beg.of {s : ByteArray} {c : Int} (h : chr s 0 = c) (h1 : ¬ (c = 9 ∨ c = 10 ∨ c = 13 ∨ c = 32 ∨ c = 45)) : Beg s := ⟨by rw [h]; omega, by rw [h]; omega⟩
/-- A text that is one token. -/
structure Aln (s : ByteArray) (kd nn : Int) (tx : ByteArray) (s0 s1 s2 s3 : Int) : Prop where
  p : 0 < s.size
  o : oneP s 0 = .inl ⟨kd, nn, 0, (s.size : Nat), tx, s0, s1, s2, s3⟩
  b : Beg s
theorem al_name {s : ByteArray} (h : isNm s = true) : Aln s 1 0 s 0 0 0 0 := by
  unfold isNm at h
  simp only [Bool.and_eq_true, decide_eq_true_eq, beq_iff_eq] at h
  obtain ⟨⟨⟨h1, h2⟩, h3⟩, h4⟩ := h
  refine ⟨h1, ?_, ?_⟩
  · unfold oneP
    rw [if_pos h3]
    unfold nameR
    rw [h4, Nat.sub_zero, if_neg (by omega)]
    congr 2
    apply ByteArray.ext
    simp []
  · refine Beg.of rfl ?_
    unfold hdB at h3
    simp only [Bool.or_eq_true, Bool.and_eq_true, decide_eq_true_eq, beq_iff_eq] at h3
    omega
theorem al_num (n : Nat) (h : n ≤ 999999) : Aln (tx8 (dgT 10 n)) 4 n ⟨#[]⟩ 0 0 0 0 := by
  have hne := dgT_ne 10 n (by omega)
  have hpos : 0 < (dgT 10 n).length := by
    cases hd : dgT 10 n with
    | nil => exact absurd hd hne
    | cons a b => simp
  obtain ⟨d, h1, h2⟩ := dgT_at 10 (by omega) (by omega) n 0 hpos
  have h3 := (hex_hexD ⟨d, by omega⟩).2.2.1 h1
  dsimp only at h3
  rw [← h2, ← chr_tx] at h3
  have hc : 48 ≤ chr (tx8 (dgT 10 n)) 0 ∧ chr (tx8 (dgT 10 n)) 0 ≤ 57 := by
    unfold dgB at h3
    simpa using h3
  refine ⟨hpos, ?_, Beg.of rfl (by omega)⟩
  have hh : hdB (chr (tx8 (dgT 10 n)) 0) = false := by
    unfold hdB
    simp only [Bool.or_eq_false_iff, Bool.and_eq_false_iff, decide_eq_false_iff_not, beq_eq_false_iff_ne]
    omega
  unfold oneP
  rw [if_neg (by rw [hh]; decide), if_pos h3]
  unfold nmR
  rw [show gtK 4 = 999999 from rfl, num10 n 999999 h (by omega), run10 n, Nat.zero_add]
  rfl
end Go.Proofs.YthffklhojdldkaaGreatDoor

namespace Go.Proofs.YthffklhojdldkaaGreatDoor.Q
open Go.RowKit
/-- The byte of a list at a place, or -1. -/
def lch (l : List Int) (i : Nat) : Int := (l[i]?).getD (-1)
theorem chr_text {l : List Int} (h : By l) (i : Nat) : chr (asText l) i = lch l i := by
  by_cases hi : i < (asText l).size
  · rw [chr_in hi]
    have hl : i < l.length := by rwa [asText_size] at hi
    unfold lch
    rw [List.getElem?_eq_getElem hl]
    have hb := h l[i] (List.getElem_mem hl)
    have he : (asText l)[i] = UInt8.ofNat l[i].toNat := by
      have h2 := asText_data l
      have : (asText l).data.toList[i]'(by simpa using hi) = (asText l)[i] := rfl
      rw [← this]
      simp [h2]
    rw [he]
    show ((UInt8.ofNat l[i].toNat).toNat : Int) = l[i]
    rw [UInt8.toNat_ofNat', Nat.mod_eq_of_lt (by omega)]
    omega
  · rw [chr_out hi]
    unfold lch
    rw [List.getElem?_eq_none (by rw [asText_size] at hi; omega)]
    rfl

/-- One byte's piece alone, read. -/
theorem piece_reads : ∀ b : Fin 256, rdByte (asText (shB (b.val : Int))) 0 = .inl ((b.val : Int), (shB (b.val : Int)).length) ∧ chr (asText (shB (b.val : Int))) 0 ≠ 39 := by
  have key : ∀ b : Fin 256, (match rdByte (asText (shB (b.val : Int))) 0 with | .inl (x, n) => decide (x = (b.val : Int)) && decide (n = (shB (b.val : Int)).length) | .inr (_, _) => false) = true ∧ decide (chr (asText (shB (b.val : Int))) 0 ≠ 39) = true := by decide +kernel
  intro b
  obtain ⟨h1, h2⟩ := key b
  refine ⟨?_, of_decide_eq_true h2⟩
  split at h1
  · next x n hx =>
    rw [hx]
    simp only [Bool.and_eq_true, decide_eq_true_eq] at h1
    rw [h1.1, h1.2]
  · cases h1

theorem lch_mid (a p c : List Int) (i : Nat) (h : i < p.length) : lch (a ++ p ++ c) (a.length + i) = lch p i := by
  unfold lch
  rw [List.append_assoc, List.getElem?_append_right (by omega), show a.length + i - a.length = i from by omega, List.getElem?_append_left h]
theorem lch_end (a : List Int) (x : Int) : lch (a ++ [x]) a.length = x := by
  unfold lch
  rw [List.getElem?_append_right (Nat.le_refl _), Nat.sub_self]
  rfl

theorem rdHex_move {s s' : ByteArray} {d n : Nat} {b : Int} (h : rdHex s 0 = some (b, n)) (hc : ∀ k, k < n → chr s' (d + k) = chr s k) : rdHex s' d = some (b, d + n) := by
  unfold rdHex at h ⊢
  split at h
  · next q =>
    cases h
    rw [Nat.zero_add] at hc
    rw [Nat.zero_add, Nat.zero_add] at *
    rw [hc 2 (by omega), hc 3 (by omega), if_pos q]
  · cases h
theorem rdEsc_move {s s' : ByteArray} {d n : Nat} {b : Int} (h : rdEsc s 0 = some (b, n)) (hc : ∀ k, k < n → chr s' (d + k) = chr s k) : rdEsc s' d = some (b, d + n) := by
  have hn : 1 < n := by
    unfold rdEsc rdHex at h
    repeat' split at h
    all_goals first | (cases h; omega) | cases h
  have h1 := hc 1 (by omega)
  unfold rdEsc at h ⊢
  rw [Nat.zero_add] at h
  rw [h1]
  split at h
  · next q => cases h; rw [if_pos q]
  · next q1 =>
    rw [if_neg q1]
    split at h
    · next q => cases h; rw [if_pos q]
    · next q2 =>
      rw [if_neg q2]
      split at h
      · next q => cases h; rw [if_pos q]
      · next q3 =>
        rw [if_neg q3]
        split at h
        · next q => cases h; rw [if_pos q]
        · next q4 =>
          rw [if_neg q4]
          split at h
          · next q => rw [if_pos q]; exact rdHex_move h hc
          · cases h
theorem rdByte_unshift {s s' : ByteArray} {d n : Nat} {b : Int} (h : rdByte s 0 = .inl (b, n)) (hc : ∀ k, k < n → chr s' (d + k) = chr s k) : rdByte s' d = .inl (b, d + n) := by
  have hn := rdByte_bd h
  have h1 := hc 0 (by omega)
  rw [Nat.add_zero] at h1
  unfold rdByte at h ⊢
  rw [h1]
  split at h
  · next q =>
    rw [if_pos q]
    split at h
    · cases h
    · next p hp => cases h; rw [rdEsc_move hp hc]
  · next q =>
    rw [if_neg q]
    split at h
    · cases h
    · next q2 => cases h; rw [if_neg q2]

/-- From a place on, behind what was read, the pieces of the rest and a mark. -/
theorem body_reads (L : List Int) (hL : By L) (rest : List Int) (hr : By rest) (a : List Int) (l : List Int) (hE : L = a ++ rest.flatMap shB ++ [39]) (f : Nat) (hf : L.length + 1 ≤ f + a.length) :
    rdBody (asText L) 39 f a.length l = .inl (l ++ rest, L.length) := by
  induction rest generalizing a l f with
  | nil =>
    obtain ⟨g, rfl⟩ : ∃ g, f = g + 1 := ⟨f - 1, by rw [hE] at hf; simp at hf; omega⟩
    have h39 : chr (asText L) a.length = 39 := by
      rw [chr_text hL, hE]; simp only [List.flatMap_nil, List.append_nil]; exact lch_end a 39
    rw [rdBody_end h39, List.append_nil]
    have : L.length = a.length + 1 := by rw [hE]; simp
    rw [this]
  | cons b rest ih =>
    obtain ⟨g, rfl⟩ : ∃ g, f = g + 1 := ⟨f - 1, by rw [hE] at hf; simp at hf; omega⟩
    have hb := hr b (List.mem_cons_self ..)
    have hlen := shB_len b
    have hE2 : L = a ++ shB b ++ (rest.flatMap shB ++ [39]) := by rw [hE, List.flatMap_cons]; simp
    obtain ⟨p1, p2⟩ := piece_reads ⟨b.toNat, by omega⟩
    rw [show (((⟨b.toNat, by omega⟩ : Fin 256).val : Nat) : Int) = b from by show ((b.toNat : Nat) : Int) = b; omega] at p1 p2
    have hcp : ∀ i, i < (shB b).length → chr (asText L) (a.length + i) = chr (asText (shB b)) i := fun i hi => by
      rw [chr_text hL, chr_text (shB_by hb.1 hb.2), hE2]; exact lch_mid a (shB b) _ i hi
    have hsz : (asText L).size = L.length := asText_size L
    have hL2 : L.length = a.length + (shB b).length + (rest.flatMap shB ++ [39]).length := by rw [hE2]; simp; omega
    have hlt : a.length < (asText L).size := by omega
    have hne : chr (asText L) a.length ≠ 39 := by have := hcp 0 (by omega); rw [Nat.add_zero] at this; rw [this]; exact p2
    have hby : rdByte (asText L) a.length = .inl (b, a.length + (shB b).length) := by
      have hs := rdByte_unshift p1 hcp
      exact hs
    rw [rdBody_step hne hlt hby]
    have h3 := ih (fun n hn => hr n (List.mem_cons_of_mem _ hn)) (a ++ shB b) (l ++ [b]) (by rw [hE2]; simp) g (by rw [List.length_append]; omega)
    rw [List.length_append] at h3
    rw [h3]
    simp
theorem cut_reads (s : ByteArray) (h : (qT s).length ≤ 65536) : rdCut (asText (qT s)) 0 = .inl (byl s, (qT s).length) := by
  have hsz := asText_size (qT s)
  have hb := qT_by s
  have hE : qT s = [39] ++ (byl s).flatMap shB ++ [39] := rfl
  have h0 : chr (asText (qT s)) 0 = 39 := by rw [chr_text hb]; rfl
  unfold rdCut
  rw [if_neg (by omega), if_neg (by omega), show (0 : Int).toNat = 0 from rfl, h0, if_pos (.inl rfl)]
  have h2 := body_reads (qT s) hb (byl s) (byl_by s) [39] [] hE ((asText (qT s)).size + 1) (by rw [hsz]; simp)
  exact h2
end Go.Proofs.YthffklhojdldkaaGreatDoor.Q

namespace Go.Proofs.YthffklhojdldkaaGreatDoor
open Go.RowKit
/-- A sign's text, at the front. -/
theorem sig_at {s : ByteArray} {c : Int} (h0 : chr s 0 = c) (h1 : hdB c = false) (h2 : dgB c = false) (h3 : ¬ (c = 39 ∨ c = 34)) (h4 : ¬ c = 91) (h5 : ¬ c = 37) : oneP s 0 = sigP s 0 := by
  unfold oneP
  rw [h0, if_neg (by rw [h1]; decide), if_neg (by rw [h2]; decide), if_neg h3, if_neg h4, if_neg h5]
theorem al_cnt (p : List UInt8) (k : Int) (n : Nat) (h : n ≤ 50) (hp : p = [94] ∧ k = 13 ∨ p = [94, 43] ∧ k = 14 ∨ p = [94, 45] ∧ k = 15) : Aln (tx8 (p ++ dgT 10 n)) k n ⟨#[]⟩ 0 0 0 0 := by
  have hne := dgT_ne 10 n (by omega)
  have hpos : 0 < (dgT 10 n).length := by
    cases hd : dgT 10 n with
    | nil => exact absurd hd hne
    | cons a b => simp
  obtain ⟨d, d1, d2⟩ := dgT_at 10 (by omega) (by omega) n 0 hpos
  have d3 := (hex_hexD ⟨d, by omega⟩).2.2.1 d1
  dsimp only at d3
  rw [← d2] at d3
  have hc : 48 ≤ chL (dgT 10 n) 0 ∧ chL (dgT 10 n) 0 ≤ 57 := by
    unfold dgB at d3
    simpa using d3
  have hsz : (tx8 (p ++ dgT 10 n)).size = p.length + (dgT 10 n).length := by rw [tx_size, List.length_append]
  have hag : Ag (tx8 (dgT 10 n)) 0 (tx8 (p ++ dgT 10 n)) p.length (dgT 10 n).length := by
    have := ag_tx p (dgT 10 n) []
    rwa [List.append_nil] at this
  have hend : dgB (chr (tx8 (p ++ dgT 10 n)) (p.length + (dgT 10 n).length)) = false := by
    rw [chr_out (by rw [hsz]; omega)]; decide
  have hnum := nm_move (b' := 0) (by
    show nmR (tx8 (dgT 10 n)) 0 0 k = .inl ⟨k, n, (0 : Nat), ((dgT 10 n).length : Nat), ⟨#[]⟩, 0, 0, 0, 0⟩
    have hg : gtK k = 50 := by rcases hp with h | h | h <;> (rw [h.2]; rfl)
    unfold nmR
    rw [hg, num10 n 50 (by omega) (by omega), run10 n, Nat.zero_add]) (by have := run10 n; omega) hag hend
  have hfirst := atj p (dgT 10 n) 0
  rcases hp with ⟨rfl, rfl⟩ | ⟨rfl, rfl⟩ | ⟨rfl, rfl⟩
  · have c0 : chr (tx8 ([94] ++ dgT 10 n)) 0 = 94 := by rw [chr_tx]; rfl
    refine ⟨by rw [hsz]; omega, ?_, Beg.of c0 (by omega)⟩
    rw [sig_at c0 (by decide) (by decide) (by decide) (by decide) (by decide)]
    have e : sgAt (tx8 ([94] ++ dgT 10 n)) 0 = (13, [94]) := by
      rw [sgAt_C, c0, Nat.zero_add, show chr (tx8 ([94] ++ dgT 10 n)) 1 = chL (dgT 10 n) 0 from hfirst]
      unfold sgC
      rw [if_neg (by decide), if_pos rfl, if_neg (by omega), if_neg (by omega)]
    unfold sigP
    rw [e]
    rw [if_neg (by decide), if_pos (by decide), hsz]
    exact hnum
  · have c0 : chr (tx8 ([94, 43] ++ dgT 10 n)) 0 = 94 := by rw [chr_tx]; rfl
    have c1 : chr (tx8 ([94, 43] ++ dgT 10 n)) 1 = 43 := by rw [chr_tx]; rfl
    refine ⟨by rw [hsz]; omega, ?_, Beg.of c0 (by omega)⟩
    rw [sig_at c0 (by decide) (by decide) (by decide) (by decide) (by decide)]
    have e : sgAt (tx8 ([94, 43] ++ dgT 10 n)) 0 = (14, [94, 43]) := by rw [sgAt_C, c0, Nat.zero_add, c1]; rfl
    unfold sigP
    rw [e]
    rw [if_neg (by decide), if_pos (by decide), hsz]
    exact hnum
  · have c0 : chr (tx8 ([94, 45] ++ dgT 10 n)) 0 = 94 := by rw [chr_tx]; rfl
    have c1 : chr (tx8 ([94, 45] ++ dgT 10 n)) 1 = 45 := by rw [chr_tx]; rfl
    refine ⟨by rw [hsz]; omega, ?_, Beg.of c0 (by omega)⟩
    rw [sig_at c0 (by decide) (by decide) (by decide) (by decide) (by decide)]
    have e : sgAt (tx8 ([94, 45] ++ dgT 10 n)) 0 = (15, [94, 45]) := by rw [sgAt_C, c0, Nat.zero_add, c1]; rfl
    unfold sigP
    rw [e]
    rw [if_neg (by decide), if_pos (by decide), hsz]
    exact hnum
theorem pt_at {s : ByteArray} {d n : Nat} (h : n ≤ 1114111) (hag : Ag (tx8 (dgT 16 n)) 0 s d (dgT 16 n).length) (he : hxB (chr s (d + (dgT 16 n).length)) = false) : ptP s d = ((n : Int), d + (dgT 16 n).length, true) := by
  have hne := dgT_ne 16 n (by omega)
  have hl := dgT_len 16 (by omega) 5 n (by omega)
  have hpos : 0 < (dgT 16 n).length := by
    cases hd : dgT 16 n with
    | nil => exact absurd hd hne
    | cons a b => simp
  have hr := run_move (by decide) hag (run16 n) he
  have hw : wthR s d 16 (dgT 16 n).length = (n : Int) := by
    rw [wth_move hag _ (Nat.le_refl _)]
    have h := wthR_text 16 (by omega) (by omega) n []
    rw [List.append_nil] at h
    exact h
  unfold ptP
  rw [hr, if_neg (by omega), show d + (dgT 16 n).length - d = (dgT 16 n).length from by omega, hw, decide_eq_true (by omega)]
def rnL (a b : Nat) : List UInt8 := [37, 117, 123] ++ dgT 16 a ++ [45] ++ dgT 16 b ++ [125]
theorem rnT_L (a b : Nat) : rnT a b = tx8 (rnL a b) := by
  unfold rnT rnL txO
  apply ByteArray.ext
  simp
theorem al_pts (a b : Nat) (hab : a ≤ b) (hb : b ≤ 1114111) : Aln (rnT a b) 5 a ⟨#[]⟩ b 0 0 0 := by
  rw [rnT_L]
  have hsz : (tx8 (rnL a b)).size = 3 + (dgT 16 a).length + 1 + (dgT 16 b).length + 1 := by
    rw [tx_size]; unfold rnL; simp only [List.length_append, List.length_cons, List.length_nil]
  have c0 : chr (tx8 (rnL a b)) 0 = 37 := by rw [chr_tx]; rfl
  have c1 : chr (tx8 (rnL a b)) 1 = 117 := by rw [chr_tx]; rfl
  have c2 : chr (tx8 (rnL a b)) 2 = 123 := by rw [chr_tx]; rfl
  have hA : Ag (tx8 (dgT 16 a)) 0 (tx8 (rnL a b)) 3 (dgT 16 a).length := by
    have := ag_tx [37, 117, 123] (dgT 16 a) ([45] ++ dgT 16 b ++ [125])
    rwa [show [37, 117, 123] ++ dgT 16 a ++ ([45] ++ dgT 16 b ++ [125]) = rnL a b from by unfold rnL; simp] at this
  have hB : Ag (tx8 (dgT 16 b)) 0 (tx8 (rnL a b)) (3 + (dgT 16 a).length + 1) (dgT 16 b).length := by
    have := ag_tx ([37, 117, 123] ++ dgT 16 a ++ [45]) (dgT 16 b) [125]
    rwa [show ([37, 117, 123] ++ dgT 16 a ++ [45] : List UInt8).length = 3 + (dgT 16 a).length + 1 from by simp only [List.length_append, List.length_cons, List.length_nil]] at this
  have e1 : chr (tx8 (rnL a b)) (3 + (dgT 16 a).length) = 45 := by
    have := at0 ([37, 117, 123] ++ dgT 16 a) ([45] ++ dgT 16 b ++ [125])
    rw [show ([37, 117, 123] ++ dgT 16 a) ++ ([45] ++ dgT 16 b ++ [125]) = rnL a b from by unfold rnL; simp, show ([37, 117, 123] ++ dgT 16 a : List UInt8).length = 3 + (dgT 16 a).length from by simp only [List.length_append, List.length_cons, List.length_nil]] at this
    exact this
  have e2 : chr (tx8 (rnL a b)) (3 + (dgT 16 a).length + 1 + (dgT 16 b).length) = 125 := by
    have := at0 ([37, 117, 123] ++ dgT 16 a ++ [45] ++ dgT 16 b) [125]
    rw [show ([37, 117, 123] ++ dgT 16 a ++ [45] ++ dgT 16 b : List UInt8).length = 3 + (dgT 16 a).length + 1 + (dgT 16 b).length from by simp only [List.length_append, List.length_cons, List.length_nil]] at this
    exact this
  have p1 := pt_at (by omega) hA (by rw [e1]; decide)
  have p2 := pt_at hb hB (by rw [e2]; decide)
  refine ⟨by rw [hsz]; omega, ?_, Beg.of c0 (by omega)⟩
  unfold oneP
  rw [c0, if_neg (by decide), if_neg (by decide), if_neg (by decide), if_neg (by decide), if_pos rfl]
  unfold pctP
  have hp : pfx (tx8 (rnL a b)) 0 [37, 117, 123] = true := by
    unfold pfx; rw [c0]
    unfold pfx; rw [Nat.zero_add, c1]
    unfold pfx; rw [c2]
    rfl
  rw [if_pos hp]
  unfold ptsP
  rw [Nat.zero_add, p1]
  dsimp only
  rw [if_neg (by decide), if_pos e1, p2]
  dsimp only
  rw [if_neg (by simp; omega), if_pos e2, hsz]
  rfl
theorem al_pct (c : UInt8) (h : (cls c.toNat).2 = 0) : Aln (tx8 [37, c]) 28 0 (tx8 [c]) (wd (cls c.toNat).1 0) (wd (cls c.toNat).1 1) (wd (cls c.toNat).1 2) (wd (cls c.toNat).1 3) := by
  have n1 : c.toNat ≠ 101 := by intro q; rw [q] at h; revert h; decide
  have n2 : c.toNat ≠ 102 := by intro q; rw [q] at h; revert h; decide
  have c0 : chr (tx8 [37, c]) 0 = 37 := by rw [chr_tx]; rfl
  have c1 : chr (tx8 [37, c]) 1 = (c.toNat : Int) := by rw [chr_tx]; rfl
  have c2 : chr (tx8 [37, c]) 2 = -1 := by rw [chr_tx]; rfl
  refine ⟨by show 0 < 2; omega, ?_, Beg.of c0 (by omega)⟩
  unfold oneP
  rw [c0, if_neg (by decide), if_neg (by decide), if_neg (by decide), if_neg (by decide), if_pos rfl]
  unfold pctP
  have hp : pfx (tx8 [37, c]) 0 [37, 117, 123] = false := by
    unfold pfx
    unfold pfx
    unfold pfx
    rw [Nat.zero_add, show (1 : Nat) + 1 = 2 from rfl, c2]
    simp
  have e : sgAt (tx8 [37, c]) 0 = (0, []) := by
    rw [sgAt_C, c0, Nat.zero_add, c1]
    unfold sgC
    rw [if_pos rfl, if_neg (by omega), if_neg (by omega)]
  rw [if_neg (by rw [hp]; decide), e]
  rw [if_neg (by decide), Nat.zero_add, c1, Int.toNat_natCast, if_pos ⟨by show 1 < 2; omega, h⟩]
  congr 2
/-- A group's text. -/
theorem al_grp0 : Aln (tx8 [123, 58]) 21 0 ⟨#[]⟩ 0 0 0 0 := by
  have c0 : chr (tx8 [123, 58]) 0 = 123 := by rw [chr_tx]; rfl
  have c1 : chr (tx8 [123, 58]) 1 = 58 := by rw [chr_tx]; rfl
  have c2 : chr (tx8 [123, 58]) 2 = -1 := by rw [chr_tx]; rfl
  refine ⟨by show 0 < 2; omega, ?_, Beg.of c0 (by omega)⟩
  rw [sig_at c0 (by decide) (by decide) (by decide) (by decide) (by decide)]
  have e : sgAt (tx8 [123, 58]) 0 = (21, [123, 58]) := by rw [sgAt_C, c0, Nat.zero_add, c1]; rfl
  unfold sigP
  rw [e]
  rw [if_neg (by decide), if_neg (by decide), if_pos (by decide)]
  show grpP (tx8 [123, 58]) 0 2 = _
  unfold grpP
  rw [c2, if_neg (by decide)]
  rfl
theorem al_grp {s : ByteArray} (h : isNm s = true) : Aln (⟨#[123, 58]⟩ ++ (s ++ ⟨#[58]⟩)) 21 0 s 0 0 0 0 := by
  unfold isNm at h
  simp only [Bool.and_eq_true, decide_eq_true_eq, beq_iff_eq] at h
  obtain ⟨⟨⟨h1, h2⟩, h3⟩, h4⟩ := h
  obtain ⟨l, rfl⟩ : ∃ l : List UInt8, s = tx8 l := ⟨s.data.toList, by apply ByteArray.ext; simp⟩
  have hX : (⟨#[123, 58]⟩ ++ (tx8 l ++ ⟨#[58]⟩) : ByteArray) = tx8 ([123, 58] ++ l ++ [58]) := by apply ByteArray.ext; simp
  rw [hX]
  rw [tx_size] at h1 h2 h4
  have hag := ag_tx [123, 58] l [58]
  have c0 : chr (tx8 ([123, 58] ++ l ++ [58])) 0 = 123 := by rw [chr_tx]; rfl
  have c1 : chr (tx8 ([123, 58] ++ l ++ [58])) 1 = 58 := by rw [chr_tx]; rfl
  have c2 : chr (tx8 ([123, 58] ++ l ++ [58])) 2 = chr (tx8 l) 0 := hag 0 h1
  have ce : chr (tx8 ([123, 58] ++ l ++ [58])) (2 + l.length) = 58 := by
    have := at0 ([123, 58] ++ l) [58]
    rw [show ([123, 58] ++ l : List UInt8).length = 2 + l.length from by simp only [List.length_append, List.length_cons, List.length_nil]] at this
    exact this
  have hr : spN nmB (tx8 ([123, 58] ++ l ++ [58])) 2 = 2 + l.length := run_move (by decide) hag (by rw [h4, Nat.zero_add]) (by show nmB (chr _ (2 + l.length)) = false; rw [ce]; decide)
  have hsz : (tx8 ([123, 58] ++ l ++ [58])).size = 2 + l.length + 1 := by rw [tx_size]; simp only [List.length_append, List.length_cons, List.length_nil]
  refine ⟨by rw [hsz]; omega, ?_, Beg.of c0 (by omega)⟩
  rw [sig_at c0 (by decide) (by decide) (by decide) (by decide) (by decide)]
  have e : sgAt (tx8 ([123, 58] ++ l ++ [58])) 0 = (21, [123, 58]) := by rw [sgAt_C, c0, Nat.zero_add, c1]; rfl
  unfold sigP
  rw [e]
  rw [if_neg (by decide), if_neg (by decide), if_pos (by decide)]
  show grpP _ 0 2 = _
  unfold grpP
  rw [c2, if_pos h3, hr, if_neg (by omega), if_pos ce, hsz]
  have hx : (tx8 ([123, 58] ++ l ++ [58])).extract 2 (2 + l.length) = tx8 l := by
    apply ByteArray.ext
    simp [ByteArray.data_extract]
  rw [hx]
  rfl
/-- A literal's text. -/
theorem al_lit (s : ByteArray) (h : s.size ≤ 255) : Aln (Q.asText (Q.qT s)) 2 0 s 0 0 0 0 := by
  have hq : (Q.qT s).length ≤ 4 * s.size + 2 := by
    have h := (Q.qTo_len s s.size).1
    rw [← Q.qTo_all s s.size (Nat.le_refl _), List.length_append, List.length_singleton]
    omega
  have hsz : (Q.asText (Q.qT s)).size = (Q.qT s).length := Q.asText_size _
  have c0 : chr (Q.asText (Q.qT s)) 0 = 39 := by
    rw [← q_chr, Q.chr_text (Q.qT_by s)]
    rfl
  have hpos : 0 < (Q.asText (Q.qT s)).size := chr_lt (by rw [c0]; omega)
  have hr := Q.cut_reads s (by omega)
  have hl := lit_same (Q.asText (Q.qT s)) 0 (by omega) (by omega) (.inl c0)
  refine ⟨hpos, ?_, Beg.of c0 (by omega)⟩
  unfold oneP
  rw [c0, if_neg (by decide), if_neg (by decide), if_pos (by decide), ← hl]
  rw [show (((0 : Nat) : Int)) = 0 from rfl, hr]
  unfold litP
  dsimp only
  rw [if_neg (by rw [Q.byl_len]; omega), hsz, ← q_text, Q.asText_byl]
  rfl
/-- A class's text. -/
theorem al_cls (x : BitVec 256) : Aln (tx8 (shT x)) 3 0 ⟨#[]⟩ (wd x 0) (wd x 1) (wd x 2) (wd x 3) := by
  have hr := back_read x
  have c0 : chr (tx8 (shT x)) 0 = 91 := by
    rw [chr_tx]
    unfold shT
    split <;> rfl
  refine ⟨chr_lt (by rw [c0]; omega), ?_, Beg.of c0 (by omega)⟩
  unfold oneP
  rw [c0, if_neg (by decide), if_neg (by decide), if_neg (by decide), if_pos rfl]
  rw [show (((0 : Nat) : Int)) = 0 from rfl, hr]
  rfl
/-- The signs' texts. -/
def isOne (r : Sum Tk (Nat × Int)) (k : Int) (n : Nat) : Bool := match r with
  | .inl t => t.kd == k && t.nn == 0 && t.fr == 0 && t.en == (n : Int) && t.tx.data.toList == [] && t.s0 == 0 && t.s1 == 0 && t.s2 == 0 && t.s3 == 0
  | .inr _ => false
theorem isOne_eq {r : Sum Tk (Nat × Int)} {k : Int} {n : Nat} (h : isOne r k n = true) : r = .inl ⟨k, 0, 0, (n : Int), ⟨#[]⟩, 0, 0, 0, 0⟩ := by
  cases r with
  | inr q => cases h
  | inl t =>
    obtain ⟨a0, a1, a2, a3, a4, a5, a6, a7, a8⟩ := t
    simp only [isOne, Bool.and_eq_true, beq_iff_eq] at h
    obtain ⟨⟨⟨⟨⟨⟨⟨⟨h0, h1⟩, h2⟩, h3⟩, h4⟩, h5⟩, h6⟩, h7⟩, h8⟩ := h
    have h4 : a4 = ⟨#[]⟩ := by apply ByteArray.ext; simpa using h4
    subst h0 h1 h2 h3 h4 h5 h6 h7 h8
    rfl
def sgX (k : Nat) : List UInt8 := if k = 29 then [37, 101] else if k = 30 then [37, 102] else sgn k
def begB (l : List UInt8) : Bool := decide (0 < l.length) && !(chL l 0 == 9) && !(chL l 0 == 10) && !(chL l 0 == 13) && !(chL l 0 == 32) && !(chL l 0 == 45 && chL l 1 == 45)
theorem sg_all : ∀ k, k < 31 → (1 ≤ k ∧ k ≠ 1 ∧ k ≠ 21 ∧ k ≠ 2 ∧ k ≠ 3 ∧ k ≠ 28 ∧ k ≠ 5 ∧ k ≠ 4 ∧ k ≠ 13 ∧ k ≠ 14 ∧ k ≠ 15) → (isOne (oneP (tx8 (sgX k)) 0) k (sgX k).length && begB (sgX k)) = true := by decide +kernel
theorem al_sig (k : Nat) (h1 : k < 31) (h2 : 1 ≤ k ∧ k ≠ 1 ∧ k ≠ 21 ∧ k ≠ 2 ∧ k ≠ 3 ∧ k ≠ 28 ∧ k ≠ 5 ∧ k ≠ 4 ∧ k ≠ 13 ∧ k ≠ 14 ∧ k ≠ 15) : Aln (tx8 (sgX k)) k 0 ⟨#[]⟩ 0 0 0 0 := by
  have h := sg_all k h1 h2
  obtain ⟨h3, h4⟩ := Bool.and_eq_true_iff.1 h
  simp only [begB, Bool.and_eq_true, decide_eq_true_eq, Bool.not_eq_true', beq_eq_false_iff_ne, Bool.and_eq_false_iff] at h4
  obtain ⟨⟨⟨⟨⟨g0, g1⟩, g2⟩, g3⟩, g4⟩, g5⟩ := h4
  refine ⟨g0, isOne_eq h3, ⟨?_, ?_⟩⟩
  · rw [chr_tx]; omega
  · rw [chr_tx, chr_tx]; omega
end Go.Proofs.YthffklhojdldkaaGreatDoor

namespace Go.Proofs.YthffklhojdldkaaGreatDoor
open Go.RowKit
theorem qT_len (s : ByteArray) : (Q.qT s).length ≤ 4 * s.size + 2 := by
  have h := (Q.qTo_len s s.size).1
  rw [← Q.qTo_all s s.size (Nat.le_refl _), List.length_append, List.length_singleton]
  omega
theorem gnm_len (s : ByteArray) (h : s.size ≤ 255) : (gnm s).size ≤ 256 := by
  unfold gnm
  split
  · decide
  · rw [ByteArray.size_append]; show s.size + 1 ≤ _; omega
set_option maxRecDepth 100000 in
set_option maxHeartbeats 4000000 in
theorem sh_1 (kd nn fr en s0 s1 s2 s3 : Int) (tx : ByteArray) (h : kd = 1) (w : World) (_hg : GW w) : Calls Tryz.prog 18 #[.agg #[.int .i64 kd, .int .i64 nn, .int .i64 fr, .int .i64 en, .string tx, .int .u64 s0, .int .u64 s1, .int .u64 s2, .int .u64 s3]] w fun e w' => e = .returned (.string (tx)) ∧ Below w.heap.size w w' := by
  have f1 : (kd == 1) = true := by rw [h]; rfl
  clear h
  go_enter Tryz.func18, Tryz.ntmps18
  go_wp2_with fail
  go_ret
  exact ⟨rfl, below_box _ _⟩
set_option maxRecDepth 100000 in
set_option maxHeartbeats 4000000 in
theorem sh_4 (kd nn fr en s0 s1 s2 s3 : Int) (tx : ByteArray) (a : Nat) (h : kd = 4) (hn : nn = a) (ha : a ≤ 999999) (w : World) (hg : GW w) : Calls Tryz.prog 18 #[.agg #[.int .i64 kd, .int .i64 nn, .int .i64 fr, .int .i64 en, .string tx, .int .u64 s0, .int .u64 s1, .int .u64 s2, .int .u64 s3]] w fun e w' => e = .returned (.string (txO (dgT 10 a))) ∧ Below w.heap.size w w' := by
  have f1 : (kd == 1) = false := beq_eq_false_iff_ne.2 (by omega)
  have f4 : (kd == 4) = true := by rw [h]; rfl
  have HG := (show Hid _ from hg)
  clear h hg
  subst hn
  go_enter Tryz.func18, Tryz.ntmps18
  go_wp2_with fail
  refine (itoa_any a ha _ (HG.out.later (below_box w _))).mono ?_
  rintro e w1 ⟨rfl, hb⟩
  have HB := (show Hid (Below w.heap.size w w1) from (below_box w _).trans (hb.mono (by simp)))
  clear hb
  go_wp2_with fail
  go_ret
  exact ⟨rfl, HB.out⟩
set_option maxRecDepth 100000 in
set_option maxHeartbeats 4000000 in
theorem sh_2 (kd nn fr en s0 s1 s2 s3 : Int) (tx : ByteArray) (h : kd = 2) (hs : tx.size ≤ 255) (w : World) (_hg : GW w) : Calls Tryz.prog 18 #[.agg #[.int .i64 kd, .int .i64 nn, .int .i64 fr, .int .i64 en, .string tx, .int .u64 s0, .int .u64 s1, .int .u64 s2, .int .u64 s3]] w fun e w' => e = .returned (.string (Q.asText (Q.qT tx))) ∧ Below w.heap.size w w' := by
  have f1 : (kd == 1) = false := beq_eq_false_iff_ne.2 (by omega)
  have f4 : (kd == 4) = false := beq_eq_false_iff_ne.2 (by omega)
  have f2 : (kd == 2) = true := by rw [h]; rfl
  have HC : Hid (∀ w, Calls Tryz.prog 36 #[.string tx] w fun e w' => e = .returned (.tuple #[.string (Q.asText (Q.qT tx)), .int .i64 0]) ∧ Below w.heap.size w w') := fun w => by
    have h1 := Q.quote_any tx w
    rw [Q.quV_fits (by have := qT_len tx; omega)] at h1
    exact h1
  clear h hs
  generalize Q.asText (Q.qT tx) = A at *
  go_enter Tryz.func18, Tryz.ntmps18
  go_wp2_with fail
  refine (HC.out _).mono ?_
  rintro e w1 ⟨rfl, hb⟩
  have HB := (show Hid (Below w.heap.size w w1) from (below_box w _).trans (hb.mono (by simp)))
  clear hb
  go_wp2_with fail
  go_ret
  exact ⟨rfl, HB.out⟩
set_option maxRecDepth 100000 in
set_option maxHeartbeats 4000000 in
theorem sh_3 (kd nn fr en s0 s1 s2 s3 : Int) (tx : ByteArray) (h : kd = 3) (x : BitVec 256) (x0 : wd x 0 = s0) (x1 : wd x 1 = s1) (x2 : wd x 2 = s2) (x3 : wd x 3 = s3) (w : World) (_hg : GW w) : Calls Tryz.prog 18 #[.agg #[.int .i64 kd, .int .i64 nn, .int .i64 fr, .int .i64 en, .string tx, .int .u64 s0, .int .u64 s1, .int .u64 s2, .int .u64 s3]] w fun e w' => e = .returned (.string (txO (shT x))) ∧ Below w.heap.size w w' := by
  have f1 : (kd == 1) = false := beq_eq_false_iff_ne.2 (by omega)
  have f4 : (kd == 4) = false := beq_eq_false_iff_ne.2 (by omega)
  have f2 : (kd == 2) = false := beq_eq_false_iff_ne.2 (by omega)
  have f3 : (kd == 3) = true := by rw [h]; rfl
  have HC : Hid (∀ w, Calls Tryz.prog 37 #[.agg #[.int .u64 s0, .int .u64 s1, .int .u64 s2, .int .u64 s3]] w fun e w' => e = .returned (.string (txO (shT x))) ∧ Below w.heap.size w w') := fun w => by rw [← x0, ← x1, ← x2, ← x3]; exact show_any x w
  clear h x0 x1 x2 x3
  generalize txO (shT x) = A at *
  go_enter Tryz.func18, Tryz.ntmps18
  go_wp2_with fail
  refine (HC.out _).mono ?_
  rintro e w1 ⟨rfl, hb⟩
  have HB := (show Hid (Below w.heap.size w w1) from (below_box w _).trans (hb.mono (by simp)))
  clear hb
  go_wp2_with fail
  go_ret
  exact ⟨rfl, HB.out⟩
set_option maxRecDepth 100000 in
set_option maxHeartbeats 4000000 in
theorem sh_28 (kd nn fr en s0 s1 s2 s3 : Int) (tx : ByteArray) (h : kd = 28) (hs : tx.size ≤ 255) (w : World) (_hg : GW w) : Calls Tryz.prog 18 #[.agg #[.int .i64 kd, .int .i64 nn, .int .i64 fr, .int .i64 en, .string tx, .int .u64 s0, .int .u64 s1, .int .u64 s2, .int .u64 s3]] w fun e w' => e = .returned (.string (⟨#[37]⟩ ++ tx)) ∧ Below w.heap.size w w' := by
  have f1 : (kd == 1) = false := beq_eq_false_iff_ne.2 (by omega)
  have f4 : (kd == 4) = false := beq_eq_false_iff_ne.2 (by omega)
  have f2 : (kd == 2) = false := beq_eq_false_iff_ne.2 (by omega)
  have f3 : (kd == 3) = false := beq_eq_false_iff_ne.2 (by omega)
  have f28 : (kd == 28) = true := by rw [h]; rfl
  clear h
  go_enter Tryz.func18, Tryz.ntmps18
  go_wp2_with fail
  go_ret
  exact ⟨rfl, below_box _ _⟩
set_option maxRecDepth 100000 in
set_option maxHeartbeats 4000000 in
theorem sh_5 (kd nn fr en s0 s1 s2 s3 : Int) (tx : ByteArray) (a b : Nat) (h : kd = 5) (hn : nn = a) (h0 : s0 = b) (ha : a ≤ 1114111) (hb : b ≤ 1114111) (w : World) (hg : GW w) : Calls Tryz.prog 18 #[.agg #[.int .i64 kd, .int .i64 nn, .int .i64 fr, .int .i64 en, .string tx, .int .u64 s0, .int .u64 s1, .int .u64 s2, .int .u64 s3]] w fun e w' => e = .returned (.string (rnT a b)) ∧ Below w.heap.size w w' := by
  have f1 : (kd == 1) = false := beq_eq_false_iff_ne.2 (by omega)
  have f4 : (kd == 4) = false := beq_eq_false_iff_ne.2 (by omega)
  have f2 : (kd == 2) = false := beq_eq_false_iff_ne.2 (by omega)
  have f3 : (kd == 3) = false := beq_eq_false_iff_ne.2 (by omega)
  have f28 : (kd == 28) = false := beq_eq_false_iff_ne.2 (by omega)
  have f5 : (kd == 5) = true := by rw [h]; rfl
  have HE : Hid (rnT a b = ⟨#[37, 117, 123]⟩ ++ txO (dgT 16 a) ++ ⟨#[45]⟩ ++ txO (dgT 16 b) ++ ⟨#[125]⟩) := rfl
  have hla : (txO (dgT 16 a)).size ≤ 6 := by rw [txO_size]; exact dgT_len 16 (by omega) 5 a (by omega)
  have hlb : (txO (dgT 16 b)).size ≤ 6 := by rw [txO_size]; exact dgT_len 16 (by omega) 5 b (by omega)
  subst hn h0
  have HT := (show Hid (TX (w.alloc (tkO ⟨kd, a, fr, en, tx, b, s1, s2, s3⟩)) w.heap.size ⟨kd, a, fr, en, tx, b, s1, s2, s3⟩) from TX.new w _)
  have HC : Hid (∀ W, Below (w.alloc (tkO ⟨kd, a, fr, en, tx, b, s1, s2, s3⟩)).heap.size (w.alloc (tkO ⟨kd, a, fr, en, tx, b, s1, s2, s3⟩)) W → Calls Tryz.prog 38 #[.int .i64 (a : Int), .int .i64 16] W fun e w' => e = .returned (.string (txO (dgT 16 a))) ∧ Below W.heap.size W w') := fun W hW => fmtInt_any a ha W ((hg.z.later (below_box w _)).later hW)
  have HD : Hid (∀ W, Below (w.alloc (tkO ⟨kd, a, fr, en, tx, b, s1, s2, s3⟩)).heap.size (w.alloc (tkO ⟨kd, a, fr, en, tx, b, s1, s2, s3⟩)) W → Calls Tryz.prog 39 #[.int .u64 (b : Int), .int .i64 16] W fun e w' => e = .returned (.string (txO (dgT 16 b))) ∧ Below W.heap.size W w') := fun W hW => fmtUint_any b hb W ((hg.z.later (below_box w _)).later hW)
  have HS := (show Hid (∀ W, Below (w.alloc (tkO ⟨kd, a, fr, en, tx, b, s1, s2, s3⟩)).heap.size (w.alloc (tkO ⟨kd, a, fr, en, tx, b, s1, s2, s3⟩)) W → W.cell? ⟨w.heap.size, 1, none⟩ = some (.int .i64 (a : Int)) ∧ W.cell? ⟨w.heap.size, 5, none⟩ = some (.int .u64 (b : Int))) from fun W hW => ⟨(HT.out.below hW).cells.c1, (HT.out.below hW).cells.c5⟩)
  have HB0 := (show Hid (Below w.heap.size w (w.alloc (tkO ⟨kd, a, fr, en, tx, b, s1, s2, s3⟩))) from below_box _ _)
  clear h ha hb hg HT
  generalize txO (dgT 16 a) = A at *
  generalize txO (dgT 16 b) = B at *
  have k1 : ¬ 9223372036854775807 < 3 + A.size := by omega
  have k2 : ¬ 9223372036854775807 < 3 + A.size + 1 := by omega
  have k3 : ¬ 9223372036854775807 < 3 + A.size + 1 + B.size := by omega
  have k4 : ¬ 9223372036854775807 < 3 + A.size + 1 + B.size + 1 := by omega
  go_enter Tryz.func18, Tryz.ntmps18
  go_wp2_with fail
  go_region_held3 (fun w' => w'.cell? ⟨w.heap.size, 1, none⟩ = some (.int .i64 (a : Int)) ∧ w'.cell? ⟨w.heap.size, 5, none⟩ = some (.int .u64 (b : Int)))
    (first | go_keep | exact HS.out _ ((drew_in hA).trans (hB.mono (drew_in hA).size)) | exact HS.out _ ((drew_in hB).trans (hA.mono (drew_in hB).size)) | exact HS.out _ (drew_in hA) | exact HS.out _ (drew_in hB))
    (first | (go_at_call 38; with_reducible refine (HC.out _ ((Below.refl _ _).drew)).mono ?_; rintro e wA ⟨rfl, hA⟩) | (go_at_call 38; with_reducible refine (HC.out _ (drew_in hB)).mono ?_; rintro e wA ⟨rfl, hA⟩) | (go_at_call 39; with_reducible refine (HD.out _ ((Below.refl _ _).drew)).mono ?_; rintro e wB ⟨rfl, hB⟩) | (go_at_call 39; with_reducible refine (HD.out _ (drew_in hA)).mono ?_; rintro e wB ⟨rfl, hB⟩))
  all_goals
    first
    | (have HW := (show Hid (Below w.heap.size w wB) from HB0.out.trans (((drew_in hA).trans (hB.mono (drew_in hA).size)).mono HB0.out.size)))
    | (have HW := (show Hid (Below w.heap.size w wA) from HB0.out.trans (((drew_in hB).trans (hA.mono (drew_in hB).size)).mono HB0.out.size)))
    clear hA hB
    go_wp2_with fail
    go_ret
    exact ⟨ret_str (by rw [HE.out]), HW.out⟩
set_option maxRecDepth 100000 in
set_option maxHeartbeats 4000000 in
theorem sh_13 (kd nn fr en s0 s1 s2 s3 : Int) (tx : ByteArray) (a : Nat) (h : kd = 13) (hn : nn = a) (ha : a ≤ 999999) (w : World) (hg : GW w) : Calls Tryz.prog 18 #[.agg #[.int .i64 kd, .int .i64 nn, .int .i64 fr, .int .i64 en, .string tx, .int .u64 s0, .int .u64 s1, .int .u64 s2, .int .u64 s3]] w fun e w' => e = .returned (.string (txO (sgOf 13) ++ txO (dgT 10 a))) ∧ Below w.heap.size w w' := by
  have f1 : (kd == 1) = false := beq_eq_false_iff_ne.2 (by omega)
  have f4 : (kd == 4) = false := beq_eq_false_iff_ne.2 (by omega)
  have f2 : (kd == 2) = false := beq_eq_false_iff_ne.2 (by omega)
  have f3 : (kd == 3) = false := beq_eq_false_iff_ne.2 (by omega)
  have f28 : (kd == 28) = false := beq_eq_false_iff_ne.2 (by omega)
  have f5 : (kd == 5) = false := beq_eq_false_iff_ne.2 (by omega)
  have f13 : (kd == 13) = true := by rw [h]; rfl
  have HE : Hid (txO (sgOf 13) ++ txO (dgT 10 a) = txO (sgOf 13) ++ txO (dgT 10 a)) := rfl
  have hla : (txO (dgT 10 a)).size ≤ 6 := by rw [txO_size]; exact dgT_len 10 (by omega) 5 a (by omega)
  have HT := (show Hid (TX (w.alloc (tkO ⟨kd, nn, fr, en, tx, s0, s1, s2, s3⟩)) w.heap.size ⟨kd, nn, fr, en, tx, s0, s1, s2, s3⟩) from TX.new w _)
  have HC : Hid (∀ W, Below (w.alloc (tkO ⟨kd, nn, fr, en, tx, s0, s1, s2, s3⟩)).heap.size (w.alloc (tkO ⟨kd, nn, fr, en, tx, s0, s1, s2, s3⟩)) W → Calls Tryz.prog 40 #[.int .i64 kd] W fun e w' => e = .returned (.string (txO (sgOf 13))) ∧ Below W.heap.size W w') := fun W hW => by
    have h1 := signOf_any kd W ((hg.s.later (below_box w _)).later hW)
    rw [h] at h1 ⊢
    exact h1
  have HD : Hid (∀ W, Below (w.alloc (tkO ⟨kd, nn, fr, en, tx, s0, s1, s2, s3⟩)).heap.size (w.alloc (tkO ⟨kd, nn, fr, en, tx, s0, s1, s2, s3⟩)) W → Calls Tryz.prog 35 #[.int .i64 nn] W fun e w' => e = .returned (.string (txO (dgT 10 a))) ∧ Below W.heap.size W w') := fun W hW => by rw [hn]; exact itoa_any a ha W ((hg.later (below_box w _)).later hW)
  have HS := (show Hid (∀ W, Below (w.alloc (tkO ⟨kd, nn, fr, en, tx, s0, s1, s2, s3⟩)).heap.size (w.alloc (tkO ⟨kd, nn, fr, en, tx, s0, s1, s2, s3⟩)) W → W.cell? ⟨w.heap.size, 0, none⟩ = some (.int .i64 kd) ∧ W.cell? ⟨w.heap.size, 1, none⟩ = some (.int .i64 nn)) from fun W hW => ⟨(HT.out.below hW).cells.c0, (HT.out.below hW).cells.c1⟩)
  have HB0 := (show Hid (Below w.heap.size w (w.alloc (tkO ⟨kd, nn, fr, en, tx, s0, s1, s2, s3⟩))) from below_box _ _)
  have hlb : (txO (sgOf 13)).size ≤ 2 := by decide
  clear h ha hg HT hn
  generalize txO (dgT 10 a) = A at *
  generalize txO (sgOf 13) = B at *
  have k1 : ¬ 9223372036854775807 < B.size + A.size := by omega
  go_enter Tryz.func18, Tryz.ntmps18
  go_wp2_with fail
  go_region_held3 (fun w' => w'.cell? ⟨w.heap.size, 0, none⟩ = some (.int .i64 kd) ∧ w'.cell? ⟨w.heap.size, 1, none⟩ = some (.int .i64 nn))
    (first | go_keep | exact HS.out _ ((drew_in hA).trans (hB.mono (drew_in hA).size)) | exact HS.out _ ((drew_in hB).trans (hA.mono (drew_in hB).size)) | exact HS.out _ (drew_in hA) | exact HS.out _ (drew_in hB))
    (first | (go_at_call 40; with_reducible refine (HC.out _ ((Below.refl _ _).drew)).mono ?_; rintro e wA ⟨rfl, hA⟩) | (go_at_call 40; with_reducible refine (HC.out _ (drew_in hB)).mono ?_; rintro e wA ⟨rfl, hA⟩) | (go_at_call 35; with_reducible refine (HD.out _ ((Below.refl _ _).drew)).mono ?_; rintro e wB ⟨rfl, hB⟩) | (go_at_call 35; with_reducible refine (HD.out _ (drew_in hA)).mono ?_; rintro e wB ⟨rfl, hB⟩))
  all_goals
    first
    | (have HW := (show Hid (Below w.heap.size w wB) from HB0.out.trans (((drew_in hA).trans (hB.mono (drew_in hA).size)).mono HB0.out.size)))
    | (have HW := (show Hid (Below w.heap.size w wA) from HB0.out.trans (((drew_in hB).trans (hA.mono (drew_in hB).size)).mono HB0.out.size)))
    clear hA hB
    go_wp2_with fail
    go_ret
    exact ⟨rfl, HW.out⟩
set_option maxRecDepth 100000 in
set_option maxHeartbeats 4000000 in
theorem sh_14 (kd nn fr en s0 s1 s2 s3 : Int) (tx : ByteArray) (a : Nat) (h : kd = 14) (hn : nn = a) (ha : a ≤ 999999) (w : World) (hg : GW w) : Calls Tryz.prog 18 #[.agg #[.int .i64 kd, .int .i64 nn, .int .i64 fr, .int .i64 en, .string tx, .int .u64 s0, .int .u64 s1, .int .u64 s2, .int .u64 s3]] w fun e w' => e = .returned (.string (txO (sgOf 14) ++ txO (dgT 10 a))) ∧ Below w.heap.size w w' := by
  have f1 : (kd == 1) = false := beq_eq_false_iff_ne.2 (by omega)
  have f4 : (kd == 4) = false := beq_eq_false_iff_ne.2 (by omega)
  have f2 : (kd == 2) = false := beq_eq_false_iff_ne.2 (by omega)
  have f3 : (kd == 3) = false := beq_eq_false_iff_ne.2 (by omega)
  have f28 : (kd == 28) = false := beq_eq_false_iff_ne.2 (by omega)
  have f5 : (kd == 5) = false := beq_eq_false_iff_ne.2 (by omega)
  have f13 : (kd == 13) = false := beq_eq_false_iff_ne.2 (by omega)
  have f14 : (kd == 14) = true := by rw [h]; rfl
  have HE : Hid (txO (sgOf 14) ++ txO (dgT 10 a) = txO (sgOf 14) ++ txO (dgT 10 a)) := rfl
  have hla : (txO (dgT 10 a)).size ≤ 6 := by rw [txO_size]; exact dgT_len 10 (by omega) 5 a (by omega)
  have HT := (show Hid (TX (w.alloc (tkO ⟨kd, nn, fr, en, tx, s0, s1, s2, s3⟩)) w.heap.size ⟨kd, nn, fr, en, tx, s0, s1, s2, s3⟩) from TX.new w _)
  have HC : Hid (∀ W, Below (w.alloc (tkO ⟨kd, nn, fr, en, tx, s0, s1, s2, s3⟩)).heap.size (w.alloc (tkO ⟨kd, nn, fr, en, tx, s0, s1, s2, s3⟩)) W → Calls Tryz.prog 40 #[.int .i64 kd] W fun e w' => e = .returned (.string (txO (sgOf 14))) ∧ Below W.heap.size W w') := fun W hW => by
    have h1 := signOf_any kd W ((hg.s.later (below_box w _)).later hW)
    rw [h] at h1 ⊢
    exact h1
  have HD : Hid (∀ W, Below (w.alloc (tkO ⟨kd, nn, fr, en, tx, s0, s1, s2, s3⟩)).heap.size (w.alloc (tkO ⟨kd, nn, fr, en, tx, s0, s1, s2, s3⟩)) W → Calls Tryz.prog 35 #[.int .i64 nn] W fun e w' => e = .returned (.string (txO (dgT 10 a))) ∧ Below W.heap.size W w') := fun W hW => by rw [hn]; exact itoa_any a ha W ((hg.later (below_box w _)).later hW)
  have HS := (show Hid (∀ W, Below (w.alloc (tkO ⟨kd, nn, fr, en, tx, s0, s1, s2, s3⟩)).heap.size (w.alloc (tkO ⟨kd, nn, fr, en, tx, s0, s1, s2, s3⟩)) W → W.cell? ⟨w.heap.size, 0, none⟩ = some (.int .i64 kd) ∧ W.cell? ⟨w.heap.size, 1, none⟩ = some (.int .i64 nn)) from fun W hW => ⟨(HT.out.below hW).cells.c0, (HT.out.below hW).cells.c1⟩)
  have HB0 := (show Hid (Below w.heap.size w (w.alloc (tkO ⟨kd, nn, fr, en, tx, s0, s1, s2, s3⟩))) from below_box _ _)
  have hlb : (txO (sgOf 14)).size ≤ 2 := by decide
  clear h ha hg HT hn
  generalize txO (dgT 10 a) = A at *
  generalize txO (sgOf 14) = B at *
  have k1 : ¬ 9223372036854775807 < B.size + A.size := by omega
  go_enter Tryz.func18, Tryz.ntmps18
  go_wp2_with fail
  go_region_held3 (fun w' => w'.cell? ⟨w.heap.size, 0, none⟩ = some (.int .i64 kd) ∧ w'.cell? ⟨w.heap.size, 1, none⟩ = some (.int .i64 nn))
    (first | go_keep | exact HS.out _ ((drew_in hA).trans (hB.mono (drew_in hA).size)) | exact HS.out _ ((drew_in hB).trans (hA.mono (drew_in hB).size)) | exact HS.out _ (drew_in hA) | exact HS.out _ (drew_in hB))
    (first | (go_at_call 40; with_reducible refine (HC.out _ ((Below.refl _ _).drew)).mono ?_; rintro e wA ⟨rfl, hA⟩) | (go_at_call 40; with_reducible refine (HC.out _ (drew_in hB)).mono ?_; rintro e wA ⟨rfl, hA⟩) | (go_at_call 35; with_reducible refine (HD.out _ ((Below.refl _ _).drew)).mono ?_; rintro e wB ⟨rfl, hB⟩) | (go_at_call 35; with_reducible refine (HD.out _ (drew_in hA)).mono ?_; rintro e wB ⟨rfl, hB⟩))
  all_goals
    first
    | (have HW := (show Hid (Below w.heap.size w wB) from HB0.out.trans (((drew_in hA).trans (hB.mono (drew_in hA).size)).mono HB0.out.size)))
    | (have HW := (show Hid (Below w.heap.size w wA) from HB0.out.trans (((drew_in hB).trans (hA.mono (drew_in hB).size)).mono HB0.out.size)))
    clear hA hB
    go_wp2_with fail
    go_ret
    exact ⟨rfl, HW.out⟩
set_option maxRecDepth 100000 in
set_option maxHeartbeats 4000000 in
theorem sh_15 (kd nn fr en s0 s1 s2 s3 : Int) (tx : ByteArray) (a : Nat) (h : kd = 15) (hn : nn = a) (ha : a ≤ 999999) (w : World) (hg : GW w) : Calls Tryz.prog 18 #[.agg #[.int .i64 kd, .int .i64 nn, .int .i64 fr, .int .i64 en, .string tx, .int .u64 s0, .int .u64 s1, .int .u64 s2, .int .u64 s3]] w fun e w' => e = .returned (.string (txO (sgOf 15) ++ txO (dgT 10 a))) ∧ Below w.heap.size w w' := by
  have f1 : (kd == 1) = false := beq_eq_false_iff_ne.2 (by omega)
  have f4 : (kd == 4) = false := beq_eq_false_iff_ne.2 (by omega)
  have f2 : (kd == 2) = false := beq_eq_false_iff_ne.2 (by omega)
  have f3 : (kd == 3) = false := beq_eq_false_iff_ne.2 (by omega)
  have f28 : (kd == 28) = false := beq_eq_false_iff_ne.2 (by omega)
  have f5 : (kd == 5) = false := beq_eq_false_iff_ne.2 (by omega)
  have f13 : (kd == 13) = false := beq_eq_false_iff_ne.2 (by omega)
  have f14 : (kd == 14) = false := beq_eq_false_iff_ne.2 (by omega)
  have f15 : (kd == 15) = true := by rw [h]; rfl
  have HE : Hid (txO (sgOf 15) ++ txO (dgT 10 a) = txO (sgOf 15) ++ txO (dgT 10 a)) := rfl
  have hla : (txO (dgT 10 a)).size ≤ 6 := by rw [txO_size]; exact dgT_len 10 (by omega) 5 a (by omega)
  have HT := (show Hid (TX (w.alloc (tkO ⟨kd, nn, fr, en, tx, s0, s1, s2, s3⟩)) w.heap.size ⟨kd, nn, fr, en, tx, s0, s1, s2, s3⟩) from TX.new w _)
  have HC : Hid (∀ W, Below (w.alloc (tkO ⟨kd, nn, fr, en, tx, s0, s1, s2, s3⟩)).heap.size (w.alloc (tkO ⟨kd, nn, fr, en, tx, s0, s1, s2, s3⟩)) W → Calls Tryz.prog 40 #[.int .i64 kd] W fun e w' => e = .returned (.string (txO (sgOf 15))) ∧ Below W.heap.size W w') := fun W hW => by
    have h1 := signOf_any kd W ((hg.s.later (below_box w _)).later hW)
    rw [h] at h1 ⊢
    exact h1
  have HD : Hid (∀ W, Below (w.alloc (tkO ⟨kd, nn, fr, en, tx, s0, s1, s2, s3⟩)).heap.size (w.alloc (tkO ⟨kd, nn, fr, en, tx, s0, s1, s2, s3⟩)) W → Calls Tryz.prog 35 #[.int .i64 nn] W fun e w' => e = .returned (.string (txO (dgT 10 a))) ∧ Below W.heap.size W w') := fun W hW => by rw [hn]; exact itoa_any a ha W ((hg.later (below_box w _)).later hW)
  have HS := (show Hid (∀ W, Below (w.alloc (tkO ⟨kd, nn, fr, en, tx, s0, s1, s2, s3⟩)).heap.size (w.alloc (tkO ⟨kd, nn, fr, en, tx, s0, s1, s2, s3⟩)) W → W.cell? ⟨w.heap.size, 0, none⟩ = some (.int .i64 kd) ∧ W.cell? ⟨w.heap.size, 1, none⟩ = some (.int .i64 nn)) from fun W hW => ⟨(HT.out.below hW).cells.c0, (HT.out.below hW).cells.c1⟩)
  have HB0 := (show Hid (Below w.heap.size w (w.alloc (tkO ⟨kd, nn, fr, en, tx, s0, s1, s2, s3⟩))) from below_box _ _)
  have hlb : (txO (sgOf 15)).size ≤ 2 := by decide
  clear h ha hg HT hn
  generalize txO (dgT 10 a) = A at *
  generalize txO (sgOf 15) = B at *
  have k1 : ¬ 9223372036854775807 < B.size + A.size := by omega
  go_enter Tryz.func18, Tryz.ntmps18
  go_wp2_with fail
  go_region_held3 (fun w' => w'.cell? ⟨w.heap.size, 0, none⟩ = some (.int .i64 kd) ∧ w'.cell? ⟨w.heap.size, 1, none⟩ = some (.int .i64 nn))
    (first | go_keep | exact HS.out _ ((drew_in hA).trans (hB.mono (drew_in hA).size)) | exact HS.out _ ((drew_in hB).trans (hA.mono (drew_in hB).size)) | exact HS.out _ (drew_in hA) | exact HS.out _ (drew_in hB))
    (first | (go_at_call 40; with_reducible refine (HC.out _ ((Below.refl _ _).drew)).mono ?_; rintro e wA ⟨rfl, hA⟩) | (go_at_call 40; with_reducible refine (HC.out _ (drew_in hB)).mono ?_; rintro e wA ⟨rfl, hA⟩) | (go_at_call 35; with_reducible refine (HD.out _ ((Below.refl _ _).drew)).mono ?_; rintro e wB ⟨rfl, hB⟩) | (go_at_call 35; with_reducible refine (HD.out _ (drew_in hA)).mono ?_; rintro e wB ⟨rfl, hB⟩))
  all_goals
    first
    | (have HW := (show Hid (Below w.heap.size w wB) from HB0.out.trans (((drew_in hA).trans (hB.mono (drew_in hA).size)).mono HB0.out.size)))
    | (have HW := (show Hid (Below w.heap.size w wA) from HB0.out.trans (((drew_in hB).trans (hA.mono (drew_in hB).size)).mono HB0.out.size)))
    clear hA hB
    go_wp2_with fail
    go_ret
    exact ⟨rfl, HW.out⟩
set_option maxRecDepth 100000 in
set_option maxHeartbeats 4000000 in
theorem sh_21 (kd nn fr en s0 s1 s2 s3 : Int) (tx : ByteArray) (h : kd = 21) (hs : tx.size ≤ 255) (w : World) (hg : GW w) : Calls Tryz.prog 18 #[.agg #[.int .i64 kd, .int .i64 nn, .int .i64 fr, .int .i64 en, .string tx, .int .u64 s0, .int .u64 s1, .int .u64 s2, .int .u64 s3]] w fun e w' => e = .returned (.string (txO (sgOf 21) ++ gnm tx)) ∧ Below w.heap.size w w' := by
  have f1 : (kd == 1) = false := beq_eq_false_iff_ne.2 (by omega)
  have f4 : (kd == 4) = false := beq_eq_false_iff_ne.2 (by omega)
  have f2 : (kd == 2) = false := beq_eq_false_iff_ne.2 (by omega)
  have f3 : (kd == 3) = false := beq_eq_false_iff_ne.2 (by omega)
  have f28 : (kd == 28) = false := beq_eq_false_iff_ne.2 (by omega)
  have f5 : (kd == 5) = false := beq_eq_false_iff_ne.2 (by omega)
  have f13 : (kd == 13) = false := beq_eq_false_iff_ne.2 (by omega)
  have f14 : (kd == 14) = false := beq_eq_false_iff_ne.2 (by omega)
  have f15 : (kd == 15) = false := beq_eq_false_iff_ne.2 (by omega)
  have f21 : (kd == 21) = true := by rw [h]; rfl
  have HE : Hid (txO (sgOf 21) ++ gnm tx = txO (sgOf 21) ++ gnm tx) := rfl
  have hla : (gnm tx).size ≤ 256 := gnm_len tx hs
  have HT := (show Hid (TX (w.alloc (tkO ⟨kd, nn, fr, en, tx, s0, s1, s2, s3⟩)) w.heap.size ⟨kd, nn, fr, en, tx, s0, s1, s2, s3⟩) from TX.new w _)
  have HC : Hid (∀ W, Below (w.alloc (tkO ⟨kd, nn, fr, en, tx, s0, s1, s2, s3⟩)).heap.size (w.alloc (tkO ⟨kd, nn, fr, en, tx, s0, s1, s2, s3⟩)) W → Calls Tryz.prog 40 #[.int .i64 kd] W fun e w' => e = .returned (.string (txO (sgOf 21))) ∧ Below W.heap.size W w') := fun W hW => by
    have h1 := signOf_any kd W ((hg.s.later (below_box w _)).later hW)
    rw [h] at h1 ⊢
    exact h1
  have HD : Hid (∀ W, Below (w.alloc (tkO ⟨kd, nn, fr, en, tx, s0, s1, s2, s3⟩)).heap.size (w.alloc (tkO ⟨kd, nn, fr, en, tx, s0, s1, s2, s3⟩)) W → Calls Tryz.prog 41 #[.string tx] W fun e w' => e = .returned (.string (gnm tx)) ∧ w' = W) := fun W _ => groupName_any tx (by omega) W
  have HS := (show Hid (∀ W, Below (w.alloc (tkO ⟨kd, nn, fr, en, tx, s0, s1, s2, s3⟩)).heap.size (w.alloc (tkO ⟨kd, nn, fr, en, tx, s0, s1, s2, s3⟩)) W → W.cell? ⟨w.heap.size, 0, none⟩ = some (.int .i64 kd) ∧ W.cell? ⟨w.heap.size, 4, none⟩ = some (.string tx)) from fun W hW => ⟨(HT.out.below hW).cells.c0, (HT.out.below hW).cells.c4⟩)
  have HB0 := (show Hid (Below w.heap.size w (w.alloc (tkO ⟨kd, nn, fr, en, tx, s0, s1, s2, s3⟩))) from below_box _ _)
  have hlb : (txO (sgOf 21)).size ≤ 2 := by decide
  clear h hg HT hs
  generalize gnm tx = A at *
  generalize txO (sgOf 21) = B at *
  have k1 : ¬ 9223372036854775807 < B.size + A.size := by omega
  go_enter Tryz.func18, Tryz.ntmps18
  go_wp2_with fail
  go_region_held3 (fun w' => w'.cell? ⟨w.heap.size, 0, none⟩ = some (.int .i64 kd) ∧ w'.cell? ⟨w.heap.size, 4, none⟩ = some (.string tx))
    (first | go_keep | exact HS.out _ (drew_in hA) | exact HS.out _ ((Below.refl _ _).drew))
    (first | (go_at_call 40; with_reducible refine (HC.out _ ((Below.refl _ _).drew)).mono ?_; rintro e wA ⟨rfl, hA⟩) | (go_at_call 41; with_reducible refine (HD.out _ ((Below.refl _ _).drew)).mono ?_; rintro e wB ⟨rfl, rfl⟩) | (go_at_call 41; with_reducible refine (HD.out _ (drew_in hA)).mono ?_; rintro e wB ⟨rfl, rfl⟩))
  all_goals
    have HW := (show Hid (Below w.heap.size w _) from HB0.out.trans ((drew_in hA).mono HB0.out.size))
    clear hA
    go_wp2_with fail
    go_ret
    exact ⟨rfl, HW.out⟩
set_option maxRecDepth 100000 in
set_option maxHeartbeats 4000000 in
theorem sh_no (kd nn fr en s0 s1 s2 s3 : Int) (tx : ByteArray) (n1 : ¬ kd = 1) (n4 : ¬ kd = 4) (n2 : ¬ kd = 2) (n3 : ¬ kd = 3) (n28 : ¬ kd = 28) (n5 : ¬ kd = 5) (n13 : ¬ kd = 13) (n14 : ¬ kd = 14) (n15 : ¬ kd = 15) (n21 : ¬ kd = 21) (w : World) (hg : GW w) : Calls Tryz.prog 18 #[.agg #[.int .i64 kd, .int .i64 nn, .int .i64 fr, .int .i64 en, .string tx, .int .u64 s0, .int .u64 s1, .int .u64 s2, .int .u64 s3]] w fun e w' => e = .returned (.string (txO (sgOf kd))) ∧ Below w.heap.size w w' := by
  have f1 : (kd == 1) = false := beq_eq_false_iff_ne.2 n1
  have f4 : (kd == 4) = false := beq_eq_false_iff_ne.2 n4
  have f2 : (kd == 2) = false := beq_eq_false_iff_ne.2 n2
  have f3 : (kd == 3) = false := beq_eq_false_iff_ne.2 n3
  have f28 : (kd == 28) = false := beq_eq_false_iff_ne.2 n28
  have f5 : (kd == 5) = false := beq_eq_false_iff_ne.2 n5
  have f13 : (kd == 13) = false := beq_eq_false_iff_ne.2 n13
  have f14 : (kd == 14) = false := beq_eq_false_iff_ne.2 n14
  have f15 : (kd == 15) = false := beq_eq_false_iff_ne.2 n15
  have f21 : (kd == 21) = false := beq_eq_false_iff_ne.2 n21
  have HG := (show Hid _ from hg)
  clear n1 n4 n2 n3 n28 n5 n13 n14 n15 n21 hg
  go_enter Tryz.func18, Tryz.ntmps18
  go_wp2_with fail
  refine (signOf_any kd _ (HG.out.s.later (below_box w _))).mono ?_
  rintro e w1 ⟨rfl, hb⟩
  have HB := (show Hid (Below w.heap.size w w1) from (below_box w _).trans (hb.mono (by simp)))
  clear hb
  go_wp2_with fail
  go_ret
  exact ⟨rfl, HB.out⟩
end Go.Proofs.YthffklhojdldkaaGreatDoor

namespace Go.Proofs.YthffklhojdldkaaGreatDoor
open Go.RowKit
theorem gtK_le (k : Int) : gtK k ≤ 999999 := by unfold gtK; (repeat' split) <;> omega
end Go.Proofs.YthffklhojdldkaaGreatDoor
