/- Plain: what is written is read again. -/
import Derived.Test.YtafnjidackofpaaPlB
import Derived.Test.YtafnjidackofpaaPlC
namespace Go.Proofs.Ytafnjidackofpaa
open Go.RowKit

/-- The byte of a list at a place, or -1. -/
def lch (l : List Int) (i : Nat) : Int := (l[i]?).getD (-1)
theorem chr_text {l : List Int} (h : By l) (i : Nat) : chr (asText l) i = lch l i := by
  by_cases hi : i < (asText l).size
  · rw [chr_in hi]
    have hl : i < l.length := by rwa [asText_size] at hi
    unfold lch
    rw [List.getElem?_eq_getElem hl]
    have hb := h l[i] (List.getElem_mem hl)
    have he : (asText l)[i] = UInt8.ofNat l[i].toNat := by
      have h2 := asText_data l
      have : (asText l).data.toList[i]'(by simpa using hi) = (asText l)[i] := rfl
      rw [← this]
      simp [h2]
    rw [he]
    show ((UInt8.ofNat l[i].toNat).toNat : Int) = l[i]
    rw [UInt8.toNat_ofNat', Nat.mod_eq_of_lt (by omega)]
    omega
  · rw [chr_out hi]
    unfold lch
    rw [List.getElem?_eq_none (by rw [asText_size] at hi; omega)]
    rfl

/-- One byte's piece alone, read. -/
theorem piece_reads : ∀ b : Fin 256, rdByte (asText (shB (b.val : Int))) 0 = .inl ((b.val : Int), (shB (b.val : Int)).length) ∧ chr (asText (shB (b.val : Int))) 0 ≠ 39 := by
  have key : ∀ b : Fin 256, (match rdByte (asText (shB (b.val : Int))) 0 with | .inl (x, n) => decide (x = (b.val : Int)) && decide (n = (shB (b.val : Int)).length) | .inr (_, _) => false) = true ∧ decide (chr (asText (shB (b.val : Int))) 0 ≠ 39) = true := by decide +kernel
  intro b
  obtain ⟨h1, h2⟩ := key b
  refine ⟨?_, of_decide_eq_true h2⟩
  split at h1
  · next x n hx =>
    rw [hx]
    simp only [Bool.and_eq_true, decide_eq_true_eq] at h1
    rw [h1.1, h1.2]
  · cases h1

theorem lch_mid (a p c : List Int) (i : Nat) (h : i < p.length) : lch (a ++ p ++ c) (a.length + i) = lch p i := by
  unfold lch
  rw [List.append_assoc, List.getElem?_append_right (by omega), show a.length + i - a.length = i from by omega, List.getElem?_append_left h]
theorem lch_end (a : List Int) (x : Int) : lch (a ++ [x]) a.length = x := by
  unfold lch
  rw [List.getElem?_append_right (Nat.le_refl _), Nat.sub_self]
  rfl

theorem rdHex_move {s s' : ByteArray} {d n : Nat} {b : Int} (h : rdHex s 0 = some (b, n)) (hc : ∀ k, k < n → chr s' (d + k) = chr s k) : rdHex s' d = some (b, d + n) := by
  unfold rdHex at h ⊢
  split at h
  · next q =>
    cases h
    rw [Nat.zero_add] at hc
    rw [Nat.zero_add, Nat.zero_add] at *
    rw [hc 2 (by omega), hc 3 (by omega), if_pos q]
  · cases h
theorem rdEsc_move {s s' : ByteArray} {d n : Nat} {b : Int} (h : rdEsc s 0 = some (b, n)) (hc : ∀ k, k < n → chr s' (d + k) = chr s k) : rdEsc s' d = some (b, d + n) := by
  have hn : 1 < n := by
    unfold rdEsc rdHex at h
    repeat' split at h
    all_goals first | (cases h; omega) | cases h
  have h1 := hc 1 (by omega)
  unfold rdEsc at h ⊢
  rw [Nat.zero_add] at h
  rw [h1]
  split at h
  · next q => cases h; rw [if_pos q]
  · next q1 =>
    rw [if_neg q1]
    split at h
    · next q => cases h; rw [if_pos q]
    · next q2 =>
      rw [if_neg q2]
      split at h
      · next q => cases h; rw [if_pos q]
      · next q3 =>
        rw [if_neg q3]
        split at h
        · next q => cases h; rw [if_pos q]
        · next q4 =>
          rw [if_neg q4]
          split at h
          · next q => rw [if_pos q]; exact rdHex_move h hc
          · cases h
theorem rdByte_unshift {s s' : ByteArray} {d n : Nat} {b : Int} (h : rdByte s 0 = .inl (b, n)) (hc : ∀ k, k < n → chr s' (d + k) = chr s k) : rdByte s' d = .inl (b, d + n) := by
  have hn := rdByte_bd h
  have h1 := hc 0 (by omega)
  rw [Nat.add_zero] at h1
  unfold rdByte at h ⊢
  rw [h1]
  split at h
  · next q =>
    rw [if_pos q]
    split at h
    · cases h
    · next p hp => cases h; rw [rdEsc_move hp hc]
  · next q =>
    rw [if_neg q]
    split at h
    · cases h
    · next q2 => cases h; rw [if_neg q2]

/-- From a place on, behind what was read, the pieces of the rest and a mark. -/
theorem body_reads (L : List Int) (hL : By L) (rest : List Int) (hr : By rest) (a : List Int) (l : List Int) (hE : L = a ++ rest.flatMap shB ++ [39]) (f : Nat) (hf : L.length + 1 ≤ f + a.length) :
    rdBody (asText L) 39 f a.length l = .inl (l ++ rest, L.length) := by
  induction rest generalizing a l f with
  | nil =>
    obtain ⟨g, rfl⟩ : ∃ g, f = g + 1 := ⟨f - 1, by rw [hE] at hf; simp at hf; omega⟩
    have h39 : chr (asText L) a.length = 39 := by
      rw [chr_text hL, hE]; simp only [List.flatMap_nil, List.append_nil]; exact lch_end a 39
    rw [rdBody_end h39, List.append_nil]
    have : L.length = a.length + 1 := by rw [hE]; simp
    rw [this]
  | cons b rest ih =>
    obtain ⟨g, rfl⟩ : ∃ g, f = g + 1 := ⟨f - 1, by rw [hE] at hf; simp at hf; omega⟩
    have hb := hr b (List.mem_cons_self ..)
    have hlen := shB_len b
    have hE2 : L = a ++ shB b ++ (rest.flatMap shB ++ [39]) := by rw [hE, List.flatMap_cons]; simp
    obtain ⟨p1, p2⟩ := piece_reads ⟨b.toNat, by omega⟩
    rw [show (((⟨b.toNat, by omega⟩ : Fin 256).val : Nat) : Int) = b from by show ((b.toNat : Nat) : Int) = b; omega] at p1 p2
    have hcp : ∀ i, i < (shB b).length → chr (asText L) (a.length + i) = chr (asText (shB b)) i := fun i hi => by
      rw [chr_text hL, chr_text (shB_by hb.1 hb.2), hE2]; exact lch_mid a (shB b) _ i hi
    have hsz : (asText L).size = L.length := asText_size L
    have hL2 : L.length = a.length + (shB b).length + (rest.flatMap shB ++ [39]).length := by rw [hE2]; simp; omega
    have hlt : a.length < (asText L).size := by omega
    have hne : chr (asText L) a.length ≠ 39 := by have := hcp 0 (by omega); rw [Nat.add_zero] at this; rw [this]; exact p2
    have hby : rdByte (asText L) a.length = .inl (b, a.length + (shB b).length) := by
      have hs := rdByte_unshift p1 hcp
      exact hs
    rw [rdBody_step hne hlt hby]
    have h3 := ih (fun n hn => hr n (List.mem_cons_of_mem _ hn)) (a ++ shB b) (l ++ [b]) (by rw [hE2]; simp) g (by rw [List.length_append]; omega)
    rw [List.length_append] at h3
    rw [h3]
    simp
theorem cut_reads (s : ByteArray) (h : (qT s).length ≤ 65536) : rdCut (asText (qT s)) 0 = .inl (byl s, (qT s).length) := by
  have hsz := asText_size (qT s)
  have hb := qT_by s
  have hE : qT s = [39] ++ (byl s).flatMap shB ++ [39] := rfl
  have h0 : chr (asText (qT s)) 0 = 39 := by rw [chr_text hb]; rfl
  unfold rdCut
  rw [if_neg (by omega), if_neg (by omega), show (0 : Int).toNat = 0 from rfl, h0, if_pos (.inl rfl)]
  have h2 := body_reads (qT s) hb (byl s) (byl_by s) [39] [] hE ((asText (qT s)).size + 1) (by rw [hsz]; simp)
  exact h2
theorem unq_reads (s : ByteArray) (h : (qT s).length ≤ 65536) : rdUnq (asText (qT s)) = .inl (byl s) := by
  unfold rdUnq
  rw [cut_reads s h]
  exact if_pos (asText_size _).symm
/-- The bytes of a literal can be printed. -/
theorem shB_prn {b : Int} (h0 : 0 ≤ b) (h1 : b ≤ 255) : ∀ n ∈ shB b, 32 ≤ n ∧ n ≤ 126 := by
  have d1 := hexD_bd (m := b / 16) (by omega) (by omega)
  have d2 := hexD_bd (m := b % 16) (by omega) (by omega)
  unfold shB
  repeat' split
  all_goals
    intro n hn
    simp only [List.mem_cons, List.not_mem_nil, or_false] at hn
    omega
theorem qT_prn (s : ByteArray) : ∀ n ∈ qT s, 32 ≤ n ∧ n ≤ 126 := fun n hn => by
  unfold qT at hn
  simp only [List.cons_append, List.mem_cons, List.mem_append, List.mem_flatMap, List.not_mem_nil, or_false] at hn
  rcases hn with rfl | ⟨b, hb, h2⟩ | rfl
  · omega
  · exact shB_prn (byl_by s b hb).1 (byl_by s b hb).2 n h2
  · omega
theorem text_prn (s : ByteArray) (i : Nat) (h : i < (asText (qT s)).size) : 32 ≤ ((asText (qT s))[i].toNat : Int) ∧ ((asText (qT s))[i].toNat : Int) ≤ 126 := by
  rw [← chr_in h, chr_text (qT_by s)]
  unfold lch
  have hl : i < (qT s).length := by rwa [asText_size] at h
  rw [List.getElem?_eq_getElem hl]
  exact qT_prn s _ (List.getElem_mem hl)
theorem qT_len (s : ByteArray) : (qT s).length ≤ 4 * s.size + 2 := by
  unfold qT
  have := flat_len (byl s)
  rw [byl_len] at this
  rw [List.length_append, List.length_cons, List.length_singleton]
  omega
end Go.Proofs.Ytafnjidackofpaa
