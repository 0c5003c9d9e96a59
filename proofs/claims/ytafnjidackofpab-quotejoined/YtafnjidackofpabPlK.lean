/- Plain: lines as texts. -/
import Derived.Test.YtafnjidackofpabPlJ
import Derived.Lib.IndexLaws
import Derived.Lib.Bytealg
namespace Go.Proofs.Ytafnjidackofpab
open Go.RowKit

theorem chr_data (s : ByteArray) (k : Nat) : chr s k = 10 ↔ s.data.toList[k]? = some 10 := by
  by_cases h : k < s.size
  · rw [chr_in h, List.getElem?_eq_getElem (by simpa using h)]
    have : s.data.toList[k]'(by simpa using h) = s[k] := rfl
    rw [this]
    constructor
    · intro q; congr 1; apply UInt8.toNat_inj.1; show s[k].toNat = 10; omega
    · intro q; have := Option.some.inj q; rw [this]; rfl
  · rw [chr_out h, List.getElem?_eq_none (by simpa using h)]
    simp
theorem lnE_uniq {s : ByteArray} {p e : Nat} (h1 : p ≤ e) (h2 : e ≤ s.size) (h3 : e < s.size → chr s e = 10) (h4 : ∀ k, p ≤ k → k < e → chr s k ≠ 10) : lnE s p = e := by
  have hp : p ≤ s.size := by omega
  have g1 := lnE_ge hp
  have g2 := lnE_le hp
  rcases Nat.lt_trichotomy (lnE s p) e with h | h | h
  · exact absurd (lnE_ten hp (by omega)) (h4 _ g1 h)
  · exact h
  · exact absurd (h3 (by omega)) (lnE_in hp h1 h)
theorem idx_line (s : ByteArray) : Lib.indexByte s.data.toList 10 = if lnE s 0 < s.size then (lnE s 0 : Int) else -1 := by
  have hge := Lib.indexByte_ge s.data.toList 10
  by_cases h : Lib.indexByte s.data.toList 10 = -1
  · have hn := Lib.indexByte_none h
    rw [h, if_neg]
    intro q
    exact hn _ ((chr_data s _).1 (lnE_ten (Nat.zero_le _) q))
  · obtain ⟨o, ho⟩ := Int.eq_ofNat_of_zero_le (show 0 ≤ Lib.indexByte s.data.toList 10 by omega)
    obtain ⟨h1, h2⟩ := Lib.indexByte_some ho
    have hlt : o < s.size := by
      have := (List.getElem?_eq_some_iff.1 h1).1
      simpa using this
    have e : lnE s 0 = o := lnE_uniq (Nat.zero_le _) (by omega) (fun _ => (chr_data s o).2 h1) (fun k _ hk q => h2 k hk ((chr_data s k).1 q))
    rw [ho, e, if_pos hlt]
theorem chr_tail (s : ByteArray) (f k : Nat) : chr (s.extract f s.size) k = chr s (f + k) := by
  by_cases h : f + k < s.size
  · exact chr_ext s f s.size k (Nat.le_refl _) h
  · rw [chr_out h, chr_out (by rw [ext_size _ _ _ (Nat.le_refl _)]; omega)]
theorem lnE_tail {s : ByteArray} {f : Nat} (hf : f ≤ s.size) : lnE (s.extract f s.size) 0 = lnE s f - f := by
  have hsz := ext_size s f s.size (Nat.le_refl _)
  have g1 := lnE_ge hf
  have g2 := lnE_le hf
  refine lnE_uniq (Nat.zero_le _) (by omega) (fun h => ?_) (fun k _ hk => ?_)
  · rw [chr_tail, show f + (lnE s f - f) = lnE s f from by omega]
    exact lnE_ten hf (by omega)
  · rw [chr_tail]
    exact lnE_in hf (by omega) (by omega)
theorem ext_ext (s : ByteArray) (f k : Nat) (h : f + k ≤ s.size) : (s.extract f s.size).extract 0 k = s.extract f (f + k) := by
  rw [ByteArray.extract_extract]
  congr 1 <;> omega
/-- What stands ahead of the first byte 10. -/
def cutB (s : ByteArray) : ByteArray := s.extract 0 (lnE s 0)
theorem cutB_tail {s : ByteArray} {f : Nat} (hf : f ≤ s.size) : cutB (s.extract f s.size) = s.extract f (lnE s f) := by
  have g1 := lnE_ge hf
  have g2 := lnE_le hf
  unfold cutB
  rw [lnE_tail hf, ext_ext _ _ _ (by omega), show f + (lnE s f - f) = lnE s f from by omega]
theorem cutB_all {s : ByteArray} (h : ¬ lnE s 0 < s.size) : cutB s = s := by
  unfold cutB
  have := lnE_le (s := s) (p := 0) (Nat.zero_le _)
  rw [show lnE s 0 = s.size from by omega]
  exact ByteArray.extract_zero_size
theorem count_take (s : ByteArray) (k : Nat) (hk : k ≤ s.size) : (s.data.toList.take k).count 10 = cnt10 s k := by
  induction k with
  | zero => rfl
  | succ k ih =>
    have h : k < s.data.toList.length := by have : k < s.size := hk; simpa using this
    rw [List.take_succ_eq_append_getElem h, List.count_append, ih (by omega), cnt10]
    have hc := chr_data s k
    rw [List.getElem?_eq_getElem h] at hc
    by_cases q : chr s k = 10
    · rw [if_pos q]
      have := Option.some.inj (hc.1 q)
      rw [this]
      rfl
    · rw [if_neg q]
      have : s.data.toList[k] ≠ 10 := fun e => q (hc.2 (by rw [e]))
      rw [List.count_singleton, if_neg (by simpa using this), Nat.add_zero]
theorem count_all (s : ByteArray) : Lib.countByte s.data.toList 10 = cnt10 s s.size := by
  rw [← count_take s s.size (Nat.le_refl _)]
  unfold Lib.countByte
  rw [List.take_of_length_le (by simp)]
/-- The answers. -/
def linesV (s : ByteArray) : Value := if 65536 < s.size then .tuple #[.int .i64 0, .int .i64 2] else .tuple #[.int .i64 ((cnt10 s s.size + 1 : Nat) : Int), .int .i64 0]
def lineN (s : ByteArray) : Option (Nat × Nat) → Value
  | some (f, t) => .tuple #[.string (s.extract f t), .int .i64 0]
  | none => .tuple #[.string ⟨#[]⟩, .int .i64 1]
def lineV (s : ByteArray) (n : Int) : Value := if 65536 < s.size then .tuple #[.string ⟨#[]⟩, .int .i64 2] else lineN s (begins s n)
theorem raF_first (s : ByteArray) (f t : Nat) (h : f ≤ t) : raF s t 1 f 1 = some f := by
  by_cases q : f < t
  · rw [raF_go q, if_pos (by omega)]
  · rw [raF_end q, if_pos (by omega), show t = f from by omega]
end Go.Proofs.Ytafnjidackofpab
