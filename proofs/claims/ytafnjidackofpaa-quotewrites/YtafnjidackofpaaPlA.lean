/- Plain: literals, how they are read. -/
import Derived.WalkKit
namespace Go.Proofs.Ytafnjidackofpaa
open Go.RowKit

/-- What a reading answers: a value, or a place and an error's number. -/
abbrev Rd (α : Type) := Sum α (Int × Int)

/-- The byte of a text at a place, or -1. -/
def chr (s : ByteArray) (i : Nat) : Int := if h : i < s.size then (s[i].toNat : Int) else -1
theorem chr_in {s : ByteArray} {i : Nat} (h : i < s.size) : chr s i = (s[i].toNat : Int) := by unfold chr; rw [dif_pos h]
theorem chr_out {s : ByteArray} {i : Nat} (h : ¬ i < s.size) : chr s i = -1 := by unfold chr; rw [dif_neg h]
theorem chr_le (s : ByteArray) (i : Nat) : -1 ≤ chr s i ∧ chr s i ≤ 255 := by
  unfold chr
  split
  · have := s[i].toNat_lt; omega
  · omega
theorem chr_lt {s : ByteArray} {i : Nat} (h : 0 ≤ chr s i) : i < s.size := by
  by_cases hi : i < s.size
  · exact hi
  · rw [chr_out hi] at h; omega
theorem chr_bd {s : ByteArray} {i : Nat} (h : i < s.size) : 0 ≤ chr s i ∧ chr s i ≤ 255 := by
  rw [chr_in h]; have := s[i].toNat_lt; omega

/-- What a digit is worth, or -1. -/
def hexV (c : Int) : Int := if 48 ≤ c ∧ c ≤ 57 then c - 48 else if 97 ≤ c ∧ c ≤ 102 then c - 87 else -1
theorem hexV_bd (c : Int) : -1 ≤ hexV c ∧ hexV c ≤ 15 := by unfold hexV; split <;> (try split) <;> omega
theorem hexV_lo {c : Int} (h : 0 ≤ hexV c) : 0 ≤ c := by
  unfold hexV at h; split at h
  · omega
  · split at h <;> omega
/-- A byte told by its number, behind a backslash. -/
def rdHex (s : ByteArray) (i : Nat) : Option (Int × Nat) :=
  if 0 ≤ hexV (chr s (i + 2)) ∧ 0 ≤ hexV (chr s (i + 3)) then some (16 * hexV (chr s (i + 2)) + hexV (chr s (i + 3)), i + 4) else none
def rdEsc (s : ByteArray) (i : Nat) : Option (Int × Nat) :=
  if chr s (i + 1) = 110 then some (10, i + 2) else if chr s (i + 1) = 114 then some (13, i + 2) else if chr s (i + 1) = 116 then some (9, i + 2) else
  if chr s (i + 1) = 92 ∨ chr s (i + 1) = 39 ∨ chr s (i + 1) = 34 then some (chr s (i + 1), i + 2) else
  if chr s (i + 1) = 120 then rdHex s i else none
/-- One byte of a literal, or an error's number. -/
def rdByte (s : ByteArray) (i : Nat) : Rd (Int × Nat) :=
  if chr s i = 92 then (match rdEsc s i with | none => .inr (i, 21) | some p => .inl p) else
  if chr s i < 32 ∨ chr s i = 127 then .inr (i, 22) else .inl (chr s i, i + 1)
/-- What stands behind a literal's first mark, its second one too. -/
def rdBody (s : ByteArray) (m : Int) : Nat → Nat → List Int → Rd (List Int × Nat)
  | 0, i, _ => .inr (i, 22)
  | f + 1, i, l => if chr s i = m then .inl (l, i + 1) else if s.size ≤ i then .inr (s.size, 22) else
    match rdByte s i with
    | .inr (a, c) => .inr (a, c)
    | .inl (b, n) => rdBody s m f n (l ++ [b])
/-- A literal that begins at a place. -/
def rdCut (s : ByteArray) (i : Int) : Rd (List Int × Nat) :=
  if 65536 < s.size then .inr (0, 2) else
  if i < 0 ∨ (s.size : Int) < i then .inr (0, 1) else
  if chr s i.toNat = 39 ∨ chr s i.toNat = 34 then rdBody s (chr s i.toNat) (s.size + 1) (i.toNat + 1) [] else .inr (i, 20)
def rdUnq (s : ByteArray) : Rd (List Int) :=
  match rdCut s 0 with
  | .inr (a, c) => .inr (a, c)
  | .inl (l, e) => if e = s.size then .inl l else .inr (e, 20)

theorem rdHex_bd {s : ByteArray} {i : Nat} {b : Int} {n : Nat} (h : rdHex s i = some (b, n)) : 0 ≤ b ∧ b ≤ 255 ∧ i < n ∧ n ≤ s.size := by
  unfold rdHex at h
  split at h
  · next q =>
    cases h
    have h1 := hexV_bd (chr s (i + 2)); have h2 := hexV_bd (chr s (i + 3))
    have h3 := chr_lt (hexV_lo q.2)
    exact ⟨by omega, by omega, by omega, by omega⟩
  · cases h
theorem rdEsc_bd {s : ByteArray} {i : Nat} {b : Int} {n : Nat} (h : rdEsc s i = some (b, n)) : 0 ≤ b ∧ b ≤ 255 ∧ i < n ∧ n ≤ s.size := by
  unfold rdEsc at h
  have hb := chr_le s (i + 1)
  split at h
  · next q => cases h; have := chr_lt (s := s) (i := i + 1) (by omega); omega
  · split at h
    · next q => cases h; have := chr_lt (s := s) (i := i + 1) (by omega); omega
    · split at h
      · next q => cases h; have := chr_lt (s := s) (i := i + 1) (by omega); omega
      · split at h
        · next q => cases h; have := chr_lt (s := s) (i := i + 1) (by omega); omega
        · split at h
          · exact rdHex_bd h
          · cases h
theorem rdByte_bd {s : ByteArray} {i : Nat} {b : Int} {n : Nat} (h : rdByte s i = .inl (b, n)) : 0 ≤ b ∧ b ≤ 255 ∧ i < n ∧ n ≤ s.size := by
  unfold rdByte at h
  split at h
  · split at h
    · cases h
    · next p hp => cases h; exact rdEsc_bd hp
  · split at h
    · cases h
    · next q => cases h; have := chr_le s i; have := chr_lt (s := s) (i := i) (by omega); omega
theorem rdByte_err {s : ByteArray} {i : Nat} {a c : Int} (h : rdByte s i = .inr (a, c)) : a = i ∧ (c = 21 ∨ c = 22) := by
  unfold rdByte at h
  split at h
  · split at h
    · cases h; exact ⟨rfl, .inl rfl⟩
    · cases h
  · split at h
    · cases h; exact ⟨rfl, .inr rfl⟩
    · cases h
theorem rdBody_end {s : ByteArray} {m : Int} {f i : Nat} {l : List Int} (h : chr s i = m) : rdBody s m (f + 1) i l = .inl (l, i + 1) := by
  unfold rdBody; rw [if_pos h]
theorem rdBody_out {s : ByteArray} {m : Int} {f i : Nat} {l : List Int} (h : s.size ≤ i) (hm : 0 ≤ m) : rdBody s m (f + 1) i l = .inr (s.size, 22) := by
  unfold rdBody; rw [if_neg (by rw [chr_out (by omega)]; omega), if_pos h]
theorem rdBody_err {s : ByteArray} {m : Int} {f i : Nat} {l : List Int} {a c : Int} (h : chr s i ≠ m) (hi : i < s.size) (hb : rdByte s i = .inr (a, c)) : rdBody s m (f + 1) i l = .inr (a, c) := by
  unfold rdBody; rw [if_neg h, if_neg (by omega), hb]
theorem rdBody_step {s : ByteArray} {m : Int} {f i : Nat} {l : List Int} {b : Int} {n : Nat} (h : chr s i ≠ m) (hi : i < s.size) (hb : rdByte s i = .inl (b, n)) : rdBody s m (f + 1) i l = rdBody s m f n (l ++ [b]) := by
  rw [rdBody, if_neg h, if_neg (by omega), hb]
/-- A list of numbers as a text. -/
def asText (l : List Int) : ByteArray := l.foldl (fun r n => r.push (UInt8.ofNat n.toNat)) ByteArray.empty
theorem asText_data (l : List Int) : (asText l).data.toList = l.map (fun n => UInt8.ofNat n.toNat) := by
  have key : ∀ (l : List Int) (s : ByteArray), (l.foldl (fun r n => r.push (UInt8.ofNat n.toNat)) s).data.toList = s.data.toList ++ l.map (fun n => UInt8.ofNat n.toNat) := by
    intro l
    induction l with
    | nil => intro s; simp
    | cons b l ih => intro s; rw [List.foldl_cons, ih]; simp [ByteArray.push]
  have := key l ByteArray.empty
  simpa [asText] using this

/-- The answers. -/
def byV : Rd (Int × Nat) → Value
  | .inl (b, n) => .tuple #[.int .u8 b, .int .i64 n, .int .i64 0]
  | .inr (_, c) => .tuple #[.int .u8 0, .int .i64 0, .int .i64 c]
def esV : Option (Int × Nat) → Value
  | some (b, n) => .tuple #[.int .u8 b, .int .i64 n, .int .i64 0]
  | none => .tuple #[.int .u8 0, .int .i64 0, .int .i64 21]
def cuV : Rd (List Int × Nat) → Value
  | .inl (l, n) => .tuple #[.string (asText l), .int .i64 n, .agg #[.int .i64 0, .int .i64 0]]
  | .inr (a, c) => .tuple #[.string ⟨#[]⟩, .int .i64 0, .agg #[.int .i64 a, .int .i64 c]]
def unV : Rd (List Int) → Value
  | .inl l => .tuple #[.string (asText l), .agg #[.int .i64 0, .int .i64 0]]
  | .inr (a, c) => .tuple #[.string ⟨#[]⟩, .agg #[.int .i64 a, .int .i64 c]]
end Go.Proofs.Ytafnjidackofpaa
