/- Plain: a line's characters are the text's. -/
import Derived.Test.YtafnjidackofpabPlI
import Derived.Test.YtafnjidackofpabPlB
namespace Go.Proofs.Ytafnjidackofpab
open Go.RowKit
theorem chr_ext_out (s : ByteArray) (e k : Nat) (he : e ≤ s.size) (h : e ≤ k) : chr (s.extract 0 e) k = -1 := chr_out (by rw [ext_size _ _ _ he]; omega)
set_option maxRecDepth 100000 in
set_option maxHeartbeats 2000000 in
theorem chW_ext {s : ByteArray} {p i : Nat} (hp : p ≤ s.size) (_h1 : p ≤ i) (h2 : i < lnE s p) : chW (s.extract 0 (lnE s p)) i = chW s i := by
  have hle := lnE_le hp
  have hten : chr s (lnE s p) = 10 ∨ chr s (lnE s p) = -1 := by
    by_cases q : lnE s p < s.size
    · exact .inl (lnE_ten hp q)
    · exact .inr (chr_out q)
  have a0 := chr_ext s 0 (lnE s p) i hle (by omega)
  have a1 : (i + 1 < lnE s p ∧ chr (s.extract 0 (lnE s p)) (i + 1) = chr s (i + 1)) ∨ (i + 1 = lnE s p ∧ chr (s.extract 0 (lnE s p)) (i + 1) = -1 ∧ (chr s (i + 1) = 10 ∨ chr s (i + 1) = -1)) := by
    by_cases q : i + 1 < lnE s p
    · exact .inl ⟨q, by have := chr_ext s 0 (lnE s p) (i + 1) hle (by omega); rwa [Nat.zero_add] at this⟩
    · have e : i + 1 = lnE s p := by omega
      exact .inr ⟨e, chr_ext_out s _ _ hle (by omega), by rw [e]; exact hten⟩
  have a2 : (i + 2 < lnE s p ∧ chr (s.extract 0 (lnE s p)) (i + 2) = chr s (i + 2)) ∨ (i + 2 = lnE s p ∧ chr (s.extract 0 (lnE s p)) (i + 2) = -1 ∧ (chr s (i + 2) = 10 ∨ chr s (i + 2) = -1)) ∨ i + 1 = lnE s p := by
    by_cases q : i + 2 < lnE s p
    · exact .inl ⟨q, by have := chr_ext s 0 (lnE s p) (i + 2) hle (by omega); rwa [Nat.zero_add] at this⟩
    · by_cases e : i + 2 = lnE s p
      · exact .inr (.inl ⟨e, chr_ext_out s _ _ hle (by omega), by rw [e]; exact hten⟩)
      · exact .inr (.inr (by omega))
  have a3 : (i + 3 < lnE s p ∧ chr (s.extract 0 (lnE s p)) (i + 3) = chr s (i + 3)) ∨ (i + 3 = lnE s p ∧ chr (s.extract 0 (lnE s p)) (i + 3) = -1 ∧ (chr s (i + 3) = 10 ∨ chr s (i + 3) = -1)) ∨ i + 1 = lnE s p ∨ i + 2 = lnE s p := by
    by_cases q : i + 3 < lnE s p
    · exact .inl ⟨q, by have := chr_ext s 0 (lnE s p) (i + 3) hle (by omega); rwa [Nat.zero_add] at this⟩
    · by_cases e : i + 3 = lnE s p
      · exact .inr (.inl ⟨e, chr_ext_out s _ _ hle (by omega), by rw [e]; exact hten⟩)
      · exact .inr (.inr (by omega))
  rw [Nat.zero_add] at a0
  unfold chW
  rw [a0]
  generalize chr (s.extract 0 (lnE s p)) (i + 1) = y1 at *
  generalize chr (s.extract 0 (lnE s p)) (i + 2) = y2 at *
  generalize chr (s.extract 0 (lnE s p)) (i + 3) = y3 at *
  generalize chr s (i + 1) = x1 at *
  generalize chr s (i + 2) = x2 at *
  generalize chr s (i + 3) = x3 at *
  generalize chr s i = b at *
  clear a0 hten
  unfold wdB
  simp only [tlB_iff]
  rcases a1 with ⟨_, rfl⟩ | ⟨_, rfl, _⟩
  · rcases a2 with ⟨_, rfl⟩ | ⟨_, rfl, _⟩ | h
    · rcases a3 with ⟨_, rfl⟩ | ⟨_, rfl, _⟩ | h | h
      · rfl
      · repeat' split
        all_goals first | rfl | (exfalso; omega)
      · omega
      · omega
    · repeat' split
      all_goals first | rfl | (exfalso; omega)
    · omega
  · repeat' split
    all_goals first | rfl | (exfalso; omega)
theorem bgF_bd (s : ByteArray) (ln : Int) (d fr n : Nat) {f t : Nat} (hd : s.size - fr ≤ d) (hf : fr ≤ s.size) (h : bgF s ln fr fr n = some (f, t)) : f ≤ t ∧ t ≤ s.size ∧ lnE s f = t := by
  induction d generalizing fr n with
  | zero =>
    by_cases q : (n : Int) = ln
    · rw [bgF_yes hf q] at h; cases h; exact ⟨lnE_ge hf, lnE_le hf, rfl⟩
    · have hge := lnE_ge hf
      rw [bgF_no hf q, if_neg (by omega)] at h; cases h
  | succ d ih =>
    by_cases q : (n : Int) = ln
    · rw [bgF_yes hf q] at h; cases h; exact ⟨lnE_ge hf, lnE_le hf, rfl⟩
    · have hge := lnE_ge hf
      rw [bgF_no hf q] at h
      split at h
      · exact ih _ _ (by omega) (by omega) h
      · cases h
theorem begins_bd {s : ByteArray} {ln : Int} {f t : Nat} (h : begins s ln = some (f, t)) : f ≤ t ∧ t ≤ s.size ∧ lnE s f = t := bgF_bd s ln _ 0 1 (Nat.le_refl _) (Nat.zero_le _) h
end Go.Proofs.Ytafnjidackofpab
