/- Plain: how the document reads an encoding; what begins says. -/
import Derived.Test.YtiillgahnbimjabDoorPlA
import Derived.Lib.Strings
import Derived.Lib.Small
namespace Go.Proofs.YtiillgahnbimjabDoor
open Go.RowKit

/-- What is taken off the first byte. -/
def hdI (n : Nat) : Int := if n = 2 then 192 else if n = 3 then 224 else if n = 4 then 240 else 0
/-- The number that bytes tell, as long as it is not negative. -/
def fz (s : ByteArray) (p : Nat) : Nat → Nat → Int → Int
  | 0, _, r => r
  | k + 1, i, r => if 0 ≤ r then fz s p k (i + 1) (r * 64 + chr s (p + i) - 128) else r
def fzN (s : ByteArray) (p n : Nat) : Int := fz s p (n - 1) 1 (chr s p - hdI n)
theorem fz_neg {s : ByteArray} {p k i : Nat} {r : Int} (h : ¬ 0 ≤ r) : fz s p k i r = r := by
  cases k with
  | zero => rfl
  | succ k => rw [fz, if_neg h]
theorem fz_step {s : ByteArray} {p k i : Nat} {r : Int} (h : 0 ≤ r) : fz s p (k + 1) i r = fz s p k (i + 1) (r * 64 + chr s (p + i) - 128) := by rw [fz, if_pos h]
theorem fz_zero {s : ByteArray} {p i : Nat} {r : Int} : fz s p 0 i r = r := rfl

set_option maxRecDepth 100000 in
theorem fzN_of {s : ByteArray} {p : Nat} {r : Int} (h : cp r) (hs : St s p (enL r)) : fzN s p (szI r) = r := by
  unfold fzN szI
  rcases cp_cases h with q | q | q | q
  · rw [enL_one q.1 q.2] at hs
    rw [hs.at0, if_pos (by omega)]
    show fz s p 0 1 (r - hdI 1) = r
    rw [fz_zero]; unfold hdI; simp
  · rw [enL_two q.1 q.2] at hs
    rw [hs.at0, if_neg (by omega), if_pos (by omega)]
    show fz s p 1 1 (192 + r / 64 - 192) = r
    rw [fz_step (by omega), fz_zero, hs.at1]; omega
  · rw [enL_three q] at hs
    rw [hs.at0, if_neg (by omega), if_neg (by omega), if_pos (by omega)]
    show fz s p 2 1 (224 + r / 4096 - 224) = r
    rw [fz_step (by omega), hs.at1, fz_step (by omega), fz_zero, hs.at2]; omega
  · rw [enL_four q.1 q.2] at hs
    rw [hs.at0, if_neg (by omega), if_neg (by omega), if_neg (by omega)]
    show fz s p 3 1 (240 + r / 262144 - 240) = r
    rw [fz_step (by omega), hs.at1, fz_step (by omega), hs.at2, fz_step (by omega), fz_zero, hs.at3]; omega

theorem ext_size (s : ByteArray) (i j : Nat) (h : j ≤ s.size) : (s.extract i j).size = j - i := by
  rw [ByteArray.size_extract]; omega
theorem chr_ext (s : ByteArray) (i j k : Nat) (hj : j ≤ s.size) (h : i + k < j) : chr (s.extract i j) k = chr s (i + k) := by
  have h1 : k < (s.extract i j).size := by rw [ext_size _ _ _ hj]; omega
  rw [chr_in h1, chr_in (by omega)]
  rw [ByteArray.getElem_extract]
theorem ba_of_chr {a b : ByteArray} (hs : a.size = b.size) (h : ∀ k < a.size, chr a k = chr b k) : a = b := by
  apply ba_ext
  apply List.ext_getElem?
  intro k
  by_cases hk : k < a.size
  · have h1 := h k hk
    rw [chr_in hk, chr_in (by omega)] at h1
    have h2 : a[k] = b[k] := UInt8.toNat_inj.1 (by omega)
    have e1 : a.data.toList[k]? = some a[k] := by rw [List.getElem?_eq_getElem (by simpa using hk)]; rfl
    have e2 : b.data.toList[k]? = some (b[k]'(by omega)) := by rw [List.getElem?_eq_getElem (by simpa using (by omega : k < b.size))]; rfl
    rw [e1, e2, h2]
  · rw [List.getElem?_eq_none (by simpa using hk), List.getElem?_eq_none (by simp; have : b.data.size = b.size := rfl; omega)]
theorem chr_asText {l : List Int} (hb : By l) (k : Nat) : chr (asText l) k = (l[k]?).getD (-1) := by
  by_cases hk : k < l.length
  · have h1 : k < (asText l).size := by rw [asText_size]; exact hk
    rw [chr_in h1, List.getElem?_eq_getElem hk]
    have e1 : (asText l).data.toList[k]? = some (asText l)[k] := by rw [List.getElem?_eq_getElem (by simpa using h1)]; rfl
    rw [asText_data, List.getElem?_map, List.getElem?_eq_getElem hk] at e1
    have e2 : UInt8.ofNat (l[k]).toNat = (asText l)[k] := Option.some.inj e1
    rw [← e2]
    have := hb _ (List.getElem_mem hk)
    rw [UInt8.toNat_ofNat', Nat.mod_eq_of_lt (by omega)]
    simp; omega
  · rw [chr_out (by rw [asText_size]; exact hk), List.getElem?_eq_none (by omega)]; rfl
/-- A piece of a text is a list's text just where that stands. -/
theorem ext_iff {s : ByteArray} {i : Nat} {l : List Int} (hb : By l) (hi : i + l.length ≤ s.size) : s.extract i (i + l.length) = asText l ↔ St s i l := by
  constructor
  · intro h k x hk
    have hlt : k < l.length := by
      by_cases q : k < l.length
      · exact q
      · rw [List.getElem?_eq_none (by omega)] at hk; cases hk
    have := chr_ext s i (i + l.length) k hi (by omega)
    rw [← this, h, chr_asText hb, hk]; rfl
  · intro h
    refine ba_of_chr (by rw [ext_size _ _ _ hi, asText_size]; omega) fun k hk => ?_
    rw [ext_size _ _ _ hi] at hk
    rw [chr_ext s i _ k hi (by omega), chr_asText hb, h k _ (List.getElem?_eq_getElem (by omega)), List.getElem?_eq_getElem (by omega)]; rfl

/-- The document's test at a length. -/
theorem ref_hit {s : ByteArray} {p n : Nat} (h : p + n ≤ s.size) : (cp (fzN s p n) ∧ szI (fzN s p n) = n ∧ s.extract p (p + n) = Utf8.encode (fzN s p n)) ↔ dcd s p = some (fzN s p n, n) := by
  constructor
  · rintro ⟨h1, h2, h3⟩
    rw [encode_eq h1] at h3
    have hl := enL_len h1
    rw [dcd_iff]
    refine ⟨h1, h2.symm, (ext_iff (enL_by _) (by omega)).1 ?_⟩
    rw [hl, h2]; exact h3
  · intro h0
    obtain ⟨h1, h2, h3⟩ := dcd_some h0
    have hl := enL_len h1
    refine ⟨h1, h2.symm, ?_⟩
    rw [encode_eq h1]
    have := (ext_iff (enL_by _) (by omega)).2 h3
    rw [hl, ← h2] at this
    exact this
theorem ref_num {s : ByteArray} {p n : Nat} {r : Int} (h : dcd s p = some (r, n)) : fzN s p n = r := by
  obtain ⟨h1, rfl, h3⟩ := dcd_some h
  exact fzN_of h1 h3

theorem enc_fffd : enL 65533 = [239, 191, 189] := by rw [enL_three (by omega)]; rfl
theorem tl_get (s : ByteArray) (p k : Nat) (x : UInt8) : (s.extract p s.size).data.toList[k]? = some x ↔ chr s (p + k) = (x.toNat : Int) := by
  by_cases h : p + k < s.size
  · have h1 : k < (s.extract p s.size).size := by rw [ext_size _ _ _ (Nat.le_refl _)]; omega
    have e1 : (s.extract p s.size).data.toList[k]? = some (s.extract p s.size)[k] := by rw [List.getElem?_eq_getElem (by simpa using h1)]; rfl
    rw [e1, ← chr_ext s p s.size k (Nat.le_refl _) h, chr_in h1]
    constructor
    · intro q; rw [Option.some.inj q]
    · intro q; rw [UInt8.toNat_inj.1 (by omega : (s.extract p s.size)[k].toNat = x.toNat)]
  · have h1 : ¬ k < (s.extract p s.size).size := by rw [ext_size _ _ _ (Nat.le_refl _)]; omega
    rw [List.getElem?_eq_none (by simpa using h1), chr_out h]
    constructor
    · intro q; cases q
    · intro q; omega
theorem hasP_iff (s : ByteArray) (p : Nat) : Lib.hasPrefix (s.extract p s.size).data.toList [239, 191, 189] = true ↔ St s p [239, 191, 189] := by
  unfold Lib.hasPrefix
  rw [List.isPrefixOf_iff_prefix, List.prefix_iff_getElem?]
  constructor
  · intro h
    exact St.three ((tl_get s p 0 239).1 (h 0 (by simp))) ((tl_get s p 1 191).1 (h 1 (by simp))) ((tl_get s p 2 189).1 (h 2 (by simp)))
  · intro h k hk
    match k, hk with
    | 0, _ => exact (tl_get s p 0 239).2 h.at0
    | 1, _ => exact (tl_get s p 1 191).2 h.at1
    | 2, _ => exact (tl_get s p 2 189).2 h.at2
theorem cp_fffd : cp 65533 := by unfold cp; omega
theorem sz_fffd : szI 65533 = 3 := by unfold szI; rw [if_neg (by omega), if_neg (by omega), if_pos (by omega)]
/-- What begins answers, where a range tells its rune. -/
theorem begins_eq {s : ByteArray} {p : Nat} (h : p < s.size) :
    (decide (((Utf8.decode s p).1 : Int) ≠ 65533) || Lib.hasPrefix (s.extract p s.size).data.toList [239, 191, 189]) = (dcd s p).isSome := by
  rw [(dec_dec4 s p h).1]
  rcases dec4_cases s p h with q | ⟨q, q2⟩
  · rw [q]
    show _ = true
    rw [Bool.or_eq_true, decide_eq_true_eq]
    by_cases hr : (dec4 s p).1 = 65533
    · right
      rw [hasP_iff]
      have h1 : dcd s p = some (65533, (dec4 s p).2) := by rw [q, ← hr]
      have h2 := (dcd_some h1).2.2
      rwa [enc_fffd] at h2
    · exact .inl hr
  · rw [q, q2]
    show _ = false
    rw [Bool.or_eq_false_iff]
    refine ⟨by simp, ?_⟩
    rw [← Bool.not_eq_true, hasP_iff]
    intro h3
    rw [← enc_fffd] at h3
    rw [dcd_of cp_fffd h3] at q
    cases q
theorem dcd_dec {s : ByteArray} {p : Nat} (h : p < s.size) {r : Int} {n : Nat} (hd : dcd s p = some (r, n)) : ((Utf8.decode s p).1 : Int) = r ∧ (Utf8.decode s p).2 = n := by
  obtain ⟨h1, h2⟩ := dec_dec4 s p h
  rcases dec4_cases s p h with q | ⟨q, _⟩
  · rw [q] at hd; have e := Option.some.inj hd; rw [h1, h2, e]; exact ⟨rfl, rfl⟩
  · rw [q] at hd; cases hd
theorem dcd_bad {s : ByteArray} {p : Nat} (h : p < s.size) (hd : dcd s p = none) : ((Utf8.decode s p).1 : Int) = 65533 ∧ (Utf8.decode s p).2 = 1 := by
  obtain ⟨h1, h2⟩ := dec_dec4 s p h
  rcases dec4_cases s p h with q | ⟨_, q⟩
  · rw [q] at hd; cases hd
  · rw [h1, h2, q]; exact ⟨rfl, rfl⟩
/-- A text behind a place, from its beginning on. -/
theorem dcd_tail (s : ByteArray) (p : Nat) (h : p ≤ s.size) : dcd (s.extract p s.size) 0 = dcd s p := by
  have key : ∀ k, chr (s.extract p s.size) k = chr s (p + k) := fun k => by
    by_cases q : p + k < s.size
    · exact chr_ext s p s.size k (Nat.le_refl _) q
    · rw [chr_out q, chr_out (by rw [ext_size _ _ _ (Nat.le_refl _)]; omega)]
  unfold dcd dec4
  rw [key, key, key, key]
  rfl
theorem runeLen_eq {r : Int} (h : cp r) : Lib.runeLen r = (szI r : Int) := by
  unfold Lib.runeLen szI
  unfold cp at h
  repeat' split
  all_goals omega
end Go.Proofs.YtiillgahnbimjabDoor
