/- Plain: the lines, joined by bytes 10, are the text. -/
import Derived.Test.YtafnjidackofpabPlK
import Derived.Test.YtafnjidackofpabPlC
namespace Go.Proofs.Ytafnjidackofpab
open Go.RowKit

theorem bgF_count (s : ByteArray) (d n fr k : Nat) {f t : Nat} (hd : s.size - fr ≤ d) (hf : fr ≤ s.size) (h : bgF s (n : Int) fr fr k = some (f, t)) : cnt10 s f + k = cnt10 s fr + n ∧ cnt10 s t = cnt10 s f := by
  induction d generalizing fr k with
  | zero =>
    by_cases q : (k : Int) = (n : Int)
    · rw [bgF_yes hf q] at h; cases h; exact ⟨by omega, cnt10_line hf (lnE_ge hf) (Nat.le_refl _)⟩
    · have hge := lnE_ge hf
      rw [bgF_no hf q, if_neg (by omega)] at h; cases h
  | succ d ih =>
    by_cases q : (k : Int) = (n : Int)
    · rw [bgF_yes hf q] at h; cases h; exact ⟨by omega, cnt10_line hf (lnE_ge hf) (Nat.le_refl _)⟩
    · have hge := lnE_ge hf
      rw [bgF_no hf q] at h
      split at h
      · next hl =>
        have h2 := ih _ _ (by omega) (by omega) h
        have h3 := cnt10_next hf hl
        omega
      · cases h
theorem bgF_after (s : ByteArray) (d n fr k : Nat) {f t : Nat} (hd : s.size - fr ≤ d) (hf : fr ≤ s.size) (hk : k ≤ n) (h : bgF s (n : Int) fr fr k = some (f, t)) : bgF s ((n + 1 : Nat) : Int) fr fr k = if t < s.size then some (t + 1, lnE s (t + 1)) else none := by
  induction d generalizing fr k with
  | zero =>
    by_cases q : (k : Int) = (n : Int)
    · rw [bgF_yes hf q] at h; cases h
      rw [bgF_no hf (by omega)]
      have hge := lnE_ge hf
      rw [if_neg (by omega), if_neg (by omega)]
    · have hge := lnE_ge hf
      rw [bgF_no hf q, if_neg (by omega)] at h; cases h
  | succ d ih =>
    have hge := lnE_ge hf
    by_cases q : (k : Int) = (n : Int)
    · rw [bgF_yes hf q] at h; cases h
      rw [bgF_no hf (by omega)]
      by_cases hl : lnE s f < s.size
      · rw [if_pos hl, if_pos hl, bgF_yes (by omega) (by omega)]
      · rw [if_neg hl, if_neg hl]
    · rw [bgF_no hf q] at h
      rw [bgF_no hf (by omega)]
      split at h
      · next hl =>
        rw [if_pos hl]
        exact ih _ _ (by omega) (by omega) (by omega) h
      · cases h
theorem begins_one (s : ByteArray) : begins s ((1 : Nat) : Int) = some (0, lnE s 0) := bgF_yes (Nat.zero_le _) rfl
theorem begins_next {s : ByteArray} {n f t : Nat} (hn : 1 ≤ n) (h : begins s (n : Int) = some (f, t)) : begins s ((n + 1 : Nat) : Int) = if t < s.size then some (t + 1, lnE s (t + 1)) else none :=
  bgF_after s _ n 0 1 (Nat.le_refl _) (Nat.zero_le _) hn h
theorem begins_count {s : ByteArray} {n f t : Nat} (h : begins s (n : Int) = some (f, t)) : cnt10 s t + 1 = n := by
  have h2 := bgF_count s _ n 0 1 (Nat.le_refl _) (Nat.zero_le _) h
  have : cnt10 s 0 = 0 := rfl
  omega
/-- A line ends with the text just if it is the last one. -/
theorem begins_last {s : ByteArray} {n f t : Nat} (h : begins s (n : Int) = some (f, t)) : (t < s.size → n + 1 ≤ cnt10 s s.size + 1) ∧ (¬ t < s.size → n = cnt10 s s.size + 1) := by
  obtain ⟨b1, b2, b3⟩ := begins_bd h
  have hc := begins_count h
  refine ⟨fun q => ?_, fun q => ?_⟩
  · have h1 := cnt10_mono s (a := t + 1) (b := s.size) (by omega)
    have h10 : chr s t = 10 := by
      have := lnE_ten (s := s) (p := f) (by omega) (by omega)
      rwa [b3] at this
    rw [cnt10, if_pos h10] at h1
    omega
  · rw [show t = s.size from by omega] at hc; omega
theorem take_ten {s : ByteArray} {f t : Nat} (h1 : t < s.size) (hf : f ≤ s.size) (he : lnE s f = t) : (byl s).take (t + 1) = (byl s).take t ++ [10] := by
  have h10 : chr s t = 10 := by
    have := lnE_ten (s := s) (p := f) hf (by omega)
    rwa [he] at this
  rw [List.take_add_one, byl_get s t h1, ← chr_in h1, h10]
  rfl
theorem byl_ext (s : ByteArray) (f t : Nat) : byl (s.extract f t) = ((byl s).drop f).take (t - f) := by
  unfold byl
  rw [ByteArray.data_extract, Array.toList_extract, List.extract_eq_take_drop, List.map_take, List.map_drop]
theorem take_line (s : ByteArray) {f t : Nat} (h : f ≤ t) : (byl s).take t = (byl s).take f ++ byl (s.extract f t) := by
  rw [byl_ext]
  conv => lhs; rw [show t = f + (t - f) from by omega, List.take_add]
theorem byl_all (s : ByteArray) : (byl s).take s.size = byl s := List.take_of_length_le (by rw [byl_len]; exact Nat.le_refl _)
theorem str_byl (s : ByteArray) : Lib.strCells s = (byl s).map (Value.int .u8) := by
  unfold Lib.strCells byl
  rw [List.map_map]; rfl
end Go.Proofs.Ytafnjidackofpab
