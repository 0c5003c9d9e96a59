/- Plain: a literal within a text is one of its own. -/
import Derived.Test.YtafnjidackofpaaDrC
namespace Go.Proofs.Ytafnjidackofpaa
open Go.RowKit

theorem rdHex_shift {s s' : ByteArray} {d j n : Nat} {b : Int} (h : rdHex s (d + j) = some (b, n)) (hc : ∀ k, j ≤ k → d + k < n → chr s' k = chr s (d + k)) : rdHex s' j = some (b, n - d) := by
  unfold rdHex at h ⊢
  split at h
  · next q =>
    cases h
    have h2 := hc (j + 2) (by omega) (by omega)
    have h3 := hc (j + 3) (by omega) (by omega)
    rw [← Nat.add_assoc] at h2 h3
    rw [h2, h3, if_pos q, show d + j + 4 - d = j + 4 from by omega]
  · cases h
theorem rdEsc_shift {s s' : ByteArray} {d j n : Nat} {b : Int} (h : rdEsc s (d + j) = some (b, n)) (hc : ∀ k, j ≤ k → d + k < n → chr s' k = chr s (d + k)) : rdEsc s' j = some (b, n - d) := by
  have hn : d + j + 1 < n := by
    unfold rdEsc rdHex at h
    repeat' split at h
    all_goals first | (cases h; omega) | cases h
  have h1 := hc (j + 1) (by omega) (by omega)
  rw [← Nat.add_assoc] at h1
  unfold rdEsc at h ⊢
  rw [h1]
  split at h
  · next q => cases h; rw [if_pos q, show d + j + 2 - d = j + 2 from by omega]
  · next q1 =>
    rw [if_neg q1]
    split at h
    · next q => cases h; rw [if_pos q, show d + j + 2 - d = j + 2 from by omega]
    · next q2 =>
      rw [if_neg q2]
      split at h
      · next q => cases h; rw [if_pos q, show d + j + 2 - d = j + 2 from by omega]
      · next q3 =>
        rw [if_neg q3]
        split at h
        · next q => cases h; rw [if_pos q, show d + j + 2 - d = j + 2 from by omega]
        · next q4 =>
          rw [if_neg q4]
          split at h
          · next q => rw [if_pos q]; exact rdHex_shift h hc
          · cases h
theorem rdByte_shift {s s' : ByteArray} {d j n : Nat} {b : Int} (h : rdByte s (d + j) = .inl (b, n)) (hc : ∀ k, j ≤ k → d + k < n → chr s' k = chr s (d + k)) : rdByte s' j = .inl (b, n - d) := by
  have hn := rdByte_bd h
  have h1 := hc j (by omega) (by omega)
  unfold rdByte at h ⊢
  rw [h1]
  split at h
  · next q =>
    rw [if_pos q]
    split at h
    · cases h
    · next p hp => cases h; rw [rdEsc_shift hp hc]
  · next q =>
    rw [if_neg q]
    split at h
    · cases h
    · next q2 => cases h; rw [if_neg q2, show d + j + 1 - d = j + 1 from by omega]
theorem rdBody_shift {s s' : ByteArray} {m : Int} (hm : 0 ≤ m) {d f j e : Nat} {l l' : List Int} (h : rdBody s m f (d + j) l = .inl (l', e)) (hc : ∀ k, j ≤ k → d + k < e → chr s' k = chr s (d + k)) : rdBody s' m f j l = .inl (l', e - d) := by
  induction f generalizing j l with
  | zero => unfold rdBody at h; cases h
  | succ f ih =>
    have he := rdBody_bd hm h
    have h1 := hc j (by omega) (by omega)
    by_cases q : chr s (d + j) = m
    · rw [rdBody_end q] at h
      cases h
      rw [rdBody_end (h1.trans q), show d + j + 1 - d = j + 1 from by omega]
    · have hlt : d + j < s.size := by omega
      cases hb : rdByte s (d + j) with
      | inr pq =>
        obtain ⟨a, c⟩ := pq
        rw [rdBody_err q hlt hb] at h; cases h
      | inl p =>
        obtain ⟨b, n⟩ := p
        rw [rdBody_step q hlt hb] at h
        have hn := rdByte_bd hb
        have he2 := rdBody_bd hm h
        obtain ⟨n', rfl⟩ : ∃ n', n = d + n' := ⟨n - d, by omega⟩
        have hb' := rdByte_shift hb (fun k a b => hc k a (by omega))
        rw [show d + n' - d = n' from by omega] at hb'
        have hj : j < s'.size := chr_lt (by rw [h1]; exact (chr_bd hlt).1)
        rw [rdBody_step (by rw [h1]; exact q) hj hb']
        exact ih h (fun k a b => hc k (by omega) b)
theorem rdBody_fuel {s : ByteArray} {m : Int} {f i : Nat} {l : List Int} (hi : i ≤ s.size) (hf : s.size + 1 ≤ f + i) : rdBody s m (f + 1) i l = rdBody s m f i l := by
  induction f generalizing i l with
  | zero => omega
  | succ f ih =>
    by_cases q : chr s i = m
    · rw [rdBody_end q, rdBody_end q]
    · by_cases hlt : i < s.size
      · cases hb : rdByte s i with
        | inr pq =>
          obtain ⟨a, c⟩ := pq
          rw [rdBody_err q hlt hb, rdBody_err q hlt hb]
        | inl p =>
          obtain ⟨b, n⟩ := p
          have hn := rdByte_bd hb
          rw [rdBody_step q hlt hb, rdBody_step q hlt hb]
          exact ih (by omega) (by omega)
      · have hs : s.size ≤ i := by omega
        rw [rdBody.eq_def, rdBody.eq_def]
        simp only [if_neg q, if_pos hs]
theorem rdBody_more {s : ByteArray} {m : Int} {f i : Nat} {l : List Int} (g : Nat) (hi : i ≤ s.size) (hf : s.size + 1 ≤ f + i) : rdBody s m (f + g) i l = rdBody s m f i l := by
  induction g with
  | zero => rfl
  | succ g ih => rw [← Nat.add_assoc, rdBody_fuel hi (by omega), ih]
theorem rdBody_same {s : ByteArray} {m : Int} {f g i : Nat} {l : List Int} (hi : i ≤ s.size) (hf : s.size + 1 ≤ f + i) (hg : s.size + 1 ≤ g + i) : rdBody s m f i l = rdBody s m g i l := by
  rw [← rdBody_more g hi hf, Nat.add_comm, rdBody_more f hi hg]

theorem ext_size (s : ByteArray) (a e : Nat) (he : e ≤ s.size) : (s.extract a e).size = e - a := by
  rw [ByteArray.size_extract]; omega
theorem chr_ext (s : ByteArray) (a e k : Nat) (he : e ≤ s.size) (h : a + k < e) : chr (s.extract a e) k = chr s (a + k) := by
  have h1 : k < (s.extract a e).size := by rw [ext_size _ _ _ he]; omega
  rw [chr_in h1, chr_in (by omega : a + k < s.size)]
  congr 2
  exact ByteArray.getElem_extract _
theorem rdCut_sub {s : ByteArray} {n a e : Nat} {l : List Int} (h : rdCut s (n : Int) = .inl (l, e)) (ha : a ≤ n) : rdCut (s.extract a e) ((n - a : Nat) : Int) = .inl (l, e - a) := by
  have hb := rdCut_bd h
  have hsz := ext_size s a e hb.2.2.1
  unfold rdCut at h ⊢
  rw [if_neg (by omega)] at h
  rw [if_neg (by omega)] at h
  rw [Int.toNat_natCast] at h ⊢
  have hc0 : chr (s.extract a e) (n - a) = chr s n := by rw [chr_ext s a e (n - a) hb.2.2.1 (by omega), show a + (n - a) = n from by omega]
  rw [if_neg (by rw [hsz]; omega), if_neg (by rw [hsz]; omega), hc0]
  split at h
  · next q =>
    rw [if_pos q]
    have h' : rdBody s (chr s n) (s.size + 1) (a + (n - a + 1)) [] = .inl (l, e) := by rw [show a + (n - a + 1) = n + 1 from by omega]; exact h
    have hsh := rdBody_shift (s' := s.extract a e) (by omega) h' (fun k _ hk => chr_ext s a e k hb.2.2.1 hk)
    rw [rdBody_same (g := s.size + 1) (by rw [hsz]; omega) (by omega) (by rw [hsz]; omega)]
    exact hsh
  · cases h
theorem rdUnq_sub {s : ByteArray} {n e : Nat} {l : List Int} (h : rdCut s (n : Int) = .inl (l, e)) : rdUnq (s.extract n e) = .inl l := by
  have hb := rdCut_bd h
  have h2 := rdCut_sub h (Nat.le_refl n)
  rw [Nat.sub_self] at h2
  unfold rdUnq
  rw [show (0 : Int) = ((0 : Nat) : Int) from rfl, h2]
  exact if_pos (by rw [ext_size _ _ _ hb.2.2.1])
end Go.Proofs.Ytafnjidackofpaa
